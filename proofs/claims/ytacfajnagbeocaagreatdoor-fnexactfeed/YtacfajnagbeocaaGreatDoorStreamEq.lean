/- Lists of requests compared, marked, and held to be marked, by the laws' own functions. -/
import Derived.Test.YtacfajnagbeocaaGreatDoorStreamRows
import Derived.Test.YtacfajnagbeocaaGreatDoorStreamMark
import Derived.Test.YtacfajnagbeocaaGreatDoorMsgLaw
namespace Go.Proofs.YtacfajnagbeocaaGreatDoor
open Go.RowKit
open Go.Lib hiding intOf

theorem ReqsO.form {w : World} {base : Nat} {V : Value} {rv : List (RqD × Value)} (h : ReqsO w base V rv) : ∃ oa cap, V = .slice oa rv.length cap := by
  rcases h.row.2 with ⟨e, h0⟩ | ⟨g, cap, cur, e, _⟩
  · exact ⟨none, 0, by rw [e, h0]⟩
  · exact ⟨_, _, e⟩
/-- The cells of request k. -/
theorem ReqsO.at {w : World} {base : Nat} {oa : Option Addr} {n cap : Nat} {rv : List (RqD × Value)} (h : ReqsO w base (.slice oa n cap) rv) (k : Nat) (hk : k < rv.length) :
    ∃ g, oa = some ⟨g, 0, none⟩ ∧ base ≤ g ∧ g < w.heap.size ∧ (w.cell? ⟨g, k * 4, none⟩ = some (.int .i64 (rv[k]'hk).1.m) ∧ w.cell? ⟨g, k * 4 + 1, none⟩ = some (.string (rv[k]'hk).1.p) ∧ w.cell? ⟨g, k * 4 + 2, none⟩ = some (rv[k]'hk).2 ∧ w.cell? ⟨g, k * 4 + 3, none⟩ = some (.string (rv[k]'hk).1.b)) ∧ (∀ o, o < 4 → w.frozen? ⟨g, k * 4 + o, none⟩ = false) := by
  have hr := h.row
  rcases hr.2 with ⟨e, h0⟩ | ⟨g, cap', cur, e, h1, h2, _⟩
  · omega
  · cases e
    have hlt : g < w.heap.size := (Array.getElem?_eq_some_iff.1 h2).1
    have key : ∀ j, j < 4 → ∀ u, (rqC (rv[k]'hk))[j]? = some u → w.cell? ⟨g, k * 4 + j, none⟩ = some u ∧ w.frozen? ⟨g, k * 4 + j, none⟩ = false := fun j hj u hu => owns_cellC hr (k * 4 + j) u (by rw [flatR_at j hj rv k hk]; exact hu)
    refine ⟨g, rfl, h1, hlt, ⟨(key 0 (by omega) _ rfl).1, (key 1 (by omega) _ rfl).1, (key 2 (by omega) _ rfl).1, (key 3 (by omega) _ rfl).1⟩, fun o ho => ?_⟩
    have : ∃ u, (rqC (rv[k]'hk))[o]? = some u := ⟨_, List.getElem?_eq_getElem (by simpa [rqC] using ho)⟩
    obtain ⟨u, hu⟩ := this
    exact (key o ho u hu).2

set_option maxHeartbeats 4000000 in
set_option maxRecDepth 100000 in
theorem eqReqS_any (b1 b2 : Nat) (V1 V2 : Value) (rv1 rv2 : List (RqD × Value)) (w : World) (h1 : ReqsO w b1 V1 rv1) (h2 : ReqsO w b2 V2 rv2) (he : rv1.map Prod.fst = rv2.map Prod.fst) (hn : rv1.length ≤ 1000000) (h8 : ∀ x ∈ rv1, x.1.fs.length ≤ 2000000) :
    Calls Tryz.prog 9 #[V1, V2] w fun e w' => e = .returned (.bool true) ∧ Below w.heap.size w w' := by
  have hll : rv1.length = rv2.length := by have := congrArg List.length he; simpa using this
  obtain ⟨oa1, c1, rfl⟩ := h1.form
  obtain ⟨oa2, c2, rfl⟩ := h2.form
  rw [← hll] at h2 ⊢
  obtain ⟨n, hn0⟩ : ∃ n, n = rv1.length := ⟨_, rfl⟩
  rw [← hn0] at h1 h2 hn ⊢
  have H1 : Hid (ReqsO w b1 (.slice oa1 n c1) rv1) := h1
  have H2 : Hid (ReqsO w b2 (.slice oa2 n c2) rv2) := h2
  have HL : Hid (n = rv1.length ∧ n = rv2.length) := ⟨hn0, by omega⟩
  have HE : Hid (∀ k (hk : k < rv1.length) (hk2 : k < rv2.length), (rv1[k]'hk).1 = (rv2[k]'hk2).1) := fun k hk hk2 => by
    have := congrArg (fun l => l[k]?) he
    simp only [List.getElem?_map, List.getElem?_eq_getElem hk, List.getElem?_eq_getElem hk2] at this
    simpa using this
  have H8 : Hid (∀ x ∈ rv1, x.1.fs.length ≤ 2000000) := h8
  clear h1 h2 hll he hn0 h8
  go_enter Tryz.func9, Tryz.ntmps9
  go_wp2
  go_loopw [5] (fun i wr => ∃ k : Nat, k ≤ n ∧ i = .int .i64 (k : Int) ∧ Below w.heap.size w wr) (fun i _ => n - (intOf i).toNat)
  case atStart => exact ⟨0, Nat.zero_le _, rfl, Below.refl _ _⟩
  case round =>
    obtain ⟨k, hk, rfl, hbw⟩ := hrel
    by_cases hlt : k < n
    · have hlt2 : (k : Int) < (n : Int) := by omega
      have hk1 : k < rv1.length := by rw [← HL.out.1]; exact hlt
      have hk2 : k < rv2.length := by rw [← HL.out.2]; exact hlt
      obtain ⟨g1, rfl, _, _, _, _⟩ := H1.out.at k hk1
      obtain ⟨g2, rfl, _, _, _, _⟩ := H2.out.at k hk2
      have hw1 := H1.out.own _ (List.getElem_mem hk1)
      have hw2 := H2.out.own _ (List.getElem_mem hk2)
      have he := HE.out k hk1 hk2
      have h8 := H8.out _ (List.getElem_mem hk1)
      obtain ⟨o1, e1, ho1⟩ := slice_of_owns hw1
      obtain ⟨o2, e2, ho2⟩ := slice_of_owns hw2
      obtain ⟨m, hm⟩ : ∃ x, x = (rv1[k]'hk1).1.m := ⟨_, rfl⟩
      obtain ⟨p, hp⟩ : ∃ x, x = (rv1[k]'hk1).1.p := ⟨_, rfl⟩
      obtain ⟨fs, hfs⟩ : ∃ x, x = (rv1[k]'hk1).1.fs := ⟨_, rfl⟩
      obtain ⟨b, hb⟩ : ∃ x, x = (rv1[k]'hk1).1.b := ⟨_, rfl⟩
      obtain ⟨nf, hnf⟩ : ∃ x, x = fs.length := ⟨_, rfl⟩
      rw [← he] at hw2 ho2
      rw [← hfs, ← hnf] at hw1 hw2 ho1 ho2 h8
      rw [ho1] at hw1
      rw [ho2] at hw2
      have HA : Hid (∀ W, Below w.heap.size w W → ((W.cell? ⟨g1, k * 4, none⟩ = some (.int .i64 m) ∧ W.cell? ⟨g1, k * 4 + 1, none⟩ = some (.string p) ∧ W.cell? ⟨g1, k * 4 + 2, none⟩ = some (.slice o1 nf e1) ∧ W.cell? ⟨g1, k * 4 + 3, none⟩ = some (.string b)) ∧ W.cell? ⟨g2, k * 4, none⟩ = some (.int .i64 m) ∧ W.cell? ⟨g2, k * 4 + 1, none⟩ = some (.string p) ∧ W.cell? ⟨g2, k * 4 + 2, none⟩ = some (.slice o2 nf e2) ∧ W.cell? ⟨g2, k * 4 + 3, none⟩ = some (.string b)) ∧ FieldsV W b1 (.slice o1 nf e1) nf fs ∧ FieldsV W b2 (.slice o2 nf e2) nf fs) := fun W h => by
        obtain ⟨x1, y1, _, _, ⟨a1, a2, a3, a4⟩, _⟩ := (H1.out.later h).at k hk1
        obtain ⟨x2, y2, _, _, ⟨c1, c2, c3, c4⟩, _⟩ := (H2.out.later h).at k hk2
        cases y1
        cases y2
        rw [← he] at c1 c2 c4
        rw [ho1] at a3
        rw [ho2] at c3
        rw [← hm] at a1 c1
        rw [← hp] at a2 c2
        rw [← hb] at a4 c4
        exact ⟨⟨⟨a1, a2, a3, a4⟩, c1, c2, c3, c4⟩, (FieldsV.of_owns hw1).below h, (FieldsV.of_owns hw2).below h⟩
      clear hw1 hw2 he ho1 ho2 hm hp hfs hb hnf
      have HD : Hid (FieldsV wr.drew b1 (.slice o1 nf e1) nf fs ∧ FieldsV wr.drew b2 (.slice o2 nf e2) nf fs) := (HA.out wr.drew hbw.drew).2
      have HB : Hid (∀ W, Below wr.drew.heap.size wr.drew W → Below w.heap.size w W) := fun W h => hbw.drew.trans (h.mono hbw.size)
      obtain ⟨⟨a1, a2, a3, a4⟩, c1, c2, c3, c4⟩ := (HA.out wr hbw).1
      go_wp2
      go_region_held3 (fun W => (W.cell? ⟨g1, k * 4, none⟩ = some (.int .i64 m) ∧ W.cell? ⟨g1, k * 4 + 1, none⟩ = some (.string p) ∧ W.cell? ⟨g1, k * 4 + 2, none⟩ = some (.slice o1 nf e1) ∧ W.cell? ⟨g1, k * 4 + 3, none⟩ = some (.string b)) ∧ W.cell? ⟨g2, k * 4, none⟩ = some (.int .i64 m) ∧ W.cell? ⟨g2, k * 4 + 1, none⟩ = some (.string p) ∧ W.cell? ⟨g2, k * 4 + 2, none⟩ = some (.slice o2 nf e2) ∧ W.cell? ⟨g2, k * 4 + 3, none⟩ = some (.string b)) (first | assumption | go_keep) (first | (go_at_call 17; refine (eqReq_any m p _ _ b nf b1 b2 fs _ HD.out.1 HD.out.2 h8).mono ?_; rintro e w1 ⟨rfl, hb1⟩; have hbx := HB.out w1 hb1; have hcc := (HA.out w1 hbx).1))
      go_wp2
      go_roundw
      case rel => exact ⟨k + 1, by omega, by go_num, hbx⟩
      case measure => simp [intOf]; omega
    · go_wp2
      go_ret
      exact ⟨rfl, hbw⟩

end Go.Proofs.YtacfajnagbeocaaGreatDoor
