/- Lists of requests marked, and held to be marked, by the laws' own functions. -/
import Derived.Test.YtacfajnagbeocaaGreatDoorStreamEq
namespace Go.Proofs.YtacfajnagbeocaaGreatDoor
open Go.RowKit
open Go.Lib hiding intOf

/-- A request marked from k on; how many numbers it takes. -/
def mkRq (k : Nat) (r : RqD) : RqD := ⟨(k : Int), markOf (k + 1), mkG (k + 2) r.fs r.fs.length, markOf (k + 2 + 2 * r.fs.length)⟩
def stepK (r : RqD) : Nat := 3 + 2 * r.fs.length
def kAt : List (RqD × Value) → Nat → Nat
  | _, 0 => 1
  | [], _ + 1 => 1
  | x :: t, j + 1 => stepK x.1 + kAt t j
theorem kAt_succ : ∀ (rv : List (RqD × Value)) (j : Nat) (hj : j < rv.length), kAt rv (j + 1) = kAt rv j + stepK (rv[j]'hj).1
  | [], j, hj => by simp at hj
  | x :: t, 0, _ => by
    cases t <;> simp [kAt] <;> omega
  | x :: t, j + 1, hj => by
    have := kAt_succ t j (by simpa using hj)
    simp only [kAt, List.getElem_cons_succ]
    omega
theorem kAt_pos : ∀ (rv : List (RqD × Value)) (j : Nat), 1 ≤ kAt rv j
  | _, 0 => by cases ‹List (RqD × Value)› <;> simp [kAt]
  | [], _ + 1 => by simp [kAt]
  | x :: t, j + 1 => by have := kAt_pos t j; simp only [kAt]; omega
theorem kAt_mono (rv : List (RqD × Value)) (i j : Nat) (h : i ≤ j) (hj : j ≤ rv.length) : kAt rv i ≤ kAt rv j := by
  induction j with
  | zero => rw [Nat.le_zero.1 h]; exact Nat.le_refl _
  | succ j ih =>
    by_cases e : i = j + 1
    · subst e; exact Nat.le_refl _
    · have h1 := ih (by omega) (by omega)
      rw [kAt_succ rv j (by omega)]
      omega
/-- The list with its first j requests marked. -/
def mkR (rv : List (RqD × Value)) : Nat → List (RqD × Value)
  | 0 => rv
  | j + 1 => if h : j < rv.length then (mkR rv j).set j (mkRq (kAt rv j) (rv[j]'h).1, (rv[j]'h).2) else mkR rv j
theorem mkR_len (rv : List (RqD × Value)) : ∀ j, (mkR rv j).length = rv.length
  | 0 => rfl
  | j + 1 => by
    unfold mkR
    split
    · rw [List.length_set, mkR_len rv j]
    · exact mkR_len rv j
theorem mkR_at (rv : List (RqD × Value)) (i : Nat) (hi : i < rv.length) : ∀ j, j ≤ rv.length → (mkR rv j)[i]? = some (if i < j then (mkRq (kAt rv i) (rv[i]'hi).1, (rv[i]'hi).2) else rv[i]'hi) := by
  intro j
  induction j with
  | zero => intro _; simp [mkR]
  | succ j ih =>
    intro hj
    unfold mkR
    rw [dif_pos (by omega)]
    by_cases e : i = j
    · subst e
      rw [List.getElem?_set_self (by rw [mkR_len]; exact hi), if_pos (by omega)]
    · rw [List.getElem?_set_ne (by omega), ih (by omega)]
      by_cases h : i < j
      · rw [if_pos h, if_pos (by omega)]
      · rw [if_neg h, if_neg (by omega)]
theorem mkR_own (rv : List (RqD × Value)) (i : Nat) (hi : i < rv.length) (j : Nat) (hj : j ≤ rv.length) : ((mkR rv j)[i]'(by rw [mkR_len]; exact hi)).2 = (rv[i]'hi).2 := by
  have := mkR_at rv i hi j hj
  rw [List.getElem?_eq_getElem (by rw [mkR_len]; exact hi)] at this
  have := Option.some.inj this
  rw [this]
  split <;> rfl

theorem apart_at {rv : List (RqD × Value)} (h : rv.Pairwise (fun a b => ∀ g, a.2.ownBlock = some g → b.2.ownBlock ≠ some g)) (i j : Nat) (hi : i < rv.length) (hj : j < rv.length) (hne : i ≠ j) (g : Nat) (hg : (rv[i]'hi).2.ownBlock = some g) : (rv[j]'hj).2.ownBlock ≠ some g := by
  rw [List.pairwise_iff_getElem] at h
  rcases Nat.lt_or_ge i j with hl | hl
  · exact h i j hi hj hl g hg
  · intro e
    exact h j i hj hi (by omega) g e hg
theorem apart_of {rv : List (RqD × Value)} (h : ∀ i j (hi : i < rv.length) (hj : j < rv.length), i ≠ j → ∀ g, (rv[i]'hi).2.ownBlock = some g → (rv[j]'hj).2.ownBlock ≠ some g) : rv.Pairwise (fun a b => ∀ g, a.2.ownBlock = some g → b.2.ownBlock ≠ some g) := by
  rw [List.pairwise_iff_getElem]
  intro i j hi hj hl
  exact h i j hi hj (by omega)

/-- While a request is marked: the row's cells as they are, every list of fields as it is. -/
structure RqSt (W : World) (base g n cap : Nat) (xs : List Value) (L : List (RqD × Value)) : Prop where
  row : W.ownsRow base 37 4 (.slice (some ⟨g, 0, none⟩) n cap) n xs
  own : ∀ i (hi : i < L.length), W.ownsRow base 63 2 (L[i]'hi).2 (L[i]'hi).1.fs.length (flatF (L[i]'hi).1.fs)
theorem RqSt.of {W : World} {base g n cap : Nat} {L : List (RqD × Value)} (h : ReqsO W base (.slice (some ⟨g, 0, none⟩) n cap) L) (hn : L.length = n) : RqSt W base g n cap (flatR L) L := by
  subst hn
  exact ⟨h.row, fun i hi => h.own _ (List.getElem_mem hi)⟩
theorem RqSt.put {W : World} {base g n cap : Nat} {xs : List Value} {L : List (RqD × Value)} (h : RqSt W base g n cap xs L) (o : Nat) (u : Value) : RqSt (W.setCell ⟨g, o, none⟩ u) base g n cap (xs.set o u) L :=
  ⟨owns_setC h.row o u, fun i hi => owns_same (h.own i hi) (fun j hj => heap_setCell_other _ _ j _ (fun e => by
    have := own_two (h.own i hi) h.row (by decide) hj
    exact this (by rw [e]; rfl)))⟩
theorem RqSt.later {W W' : World} {base g n cap : Nat} {xs : List Value} {L : List (RqD × Value)} (h : RqSt W base g n cap xs L) (hb : Below W.heap.size W W') : RqSt W' base g n cap xs L :=
  ⟨owns_same h.row (fun j hj => hb.block j (own_ltR h.row hj).2), fun i hi => owns_same (h.own i hi) (fun j hj => hb.block j (own_ltR (h.own i hi) hj).2)⟩
theorem RqSt.lt {W : World} {base g n cap : Nat} {xs : List Value} {L : List (RqD × Value)} (h : RqSt W base g n cap xs L) : base ≤ g ∧ g < W.heap.size := own_ltR h.row rfl
theorem RqSt.marked {W W' : World} {base g n cap : Nat} {xs : List Value} {L : List (RqD × Value)} (h : RqSt W base g n cap xs L) (j : Nat) (hj : j < L.length) (hap : ∀ i (hi : i < L.length), i ≠ j → ∀ b, (L[i]'hi).2.ownBlock = some b → (L[j]'hj).2.ownBlock ≠ some b) (hf : Far (L[j]'hj).2 W W') (r : RqD) (hown : W'.ownsRow base 63 2 (L[j]'hj).2 r.fs.length (flatF r.fs)) : RqSt W' base g n cap xs (L.set j (r, (L[j]'hj).2)) := by
  refine ⟨owns_same h.row (fun i hi => hf i (own_ltR h.row hi).2 (fun e => own_two h.row (h.own j hj) (by decide) hi e)), fun i hi => ?_⟩
  have hi' : i < L.length := by simpa using hi
  by_cases e : j = i
  · subst e
    simp only [List.getElem_set_self]
    exact hown
  · simp only [List.getElem_set_ne e]
    exact owns_same (h.own i hi') (fun b hb => hf b (own_ltR (h.own i hi') hb).2 (hap i hi' (fun x => e x.symm) b hb))
theorem RqSt.cell {W : World} {base g n cap : Nat} {xs : List Value} {L : List (RqD × Value)} (h : RqSt W base g n cap xs L) (o : Nat) (u : Value) (ho : xs[o]? = some u) : W.cell? ⟨g, o, none⟩ = some u ∧ W.frozen? ⟨g, o, none⟩ = false := owns_cellC h.row o u ho
theorem flatR_mark (L : List (RqD × Value)) (j : Nat) (hj : j < L.length) (r : RqD) : (((flatR L).set (j * 4) (.int .i64 r.m)).set (j * 4 + 1) (.string r.p)).set (j * 4 + 3) (.string r.b) = flatR (L.set j (r, (L[j]'hj).2)) := by
  rw [flatR_set _ L j hj]
  congr 1
  apply List.ext_getElem?
  intro i
  rw [List.getElem?_set (j := i) (i := j * 4 + 2)]
  by_cases e : j * 4 + 2 = i
  · subst e
    have hl := flatR_len L
    rw [if_pos rfl, if_pos (by simp; omega), List.getElem?_set_ne (by omega), List.getElem?_set_ne (by omega), flatR_at 2 (by omega) L j hj]
    rfl
  · rw [if_neg e]

set_option maxHeartbeats 4000000 in
set_option maxRecDepth 100000 in
theorem markReqS_any (base : Nat) (V : Value) (rv : List (RqD × Value)) (w : World) (h : ReqsO w base V rv) (hb : base ≤ w.heap.size) (hk : kAt rv rv.length ≤ 9999000) :
    Calls Tryz.prog 10 #[V, .int .i64 1] w fun e w' => e = .returned (.int .i64 (kAt rv rv.length : Int)) ∧ ReqsO w' base V (mkR rv rv.length) ∧ Below base w w' := by
  obtain ⟨oa, cap, rfl⟩ := h.form
  obtain ⟨n, hn⟩ : ∃ n, n = rv.length := ⟨_, rfl⟩
  rw [← hn] at h hk ⊢
  have H0 : Hid (ReqsO w base (.slice oa n cap) rv) := h
  have HN : Hid (n = rv.length) := hn
  have HK : Hid (kAt rv n ≤ 9999000) := hk
  have hn6 : n ≤ 9999000 := by
    have : ∀ j, j ≤ rv.length → j ≤ kAt rv j := by
      intro j
      induction j with
      | zero => intro _; omega
      | succ j ih => intro hj; have := ih (by omega); rw [kAt_succ rv j (by omega)]; unfold stepK; omega
    have := this n (by omega)
    omega
  clear h hn hk
  go_enter Tryz.func10, Tryz.ntmps10
  have HAP : Hid (∀ i j (hi : i < rv.length) (hj : j < rv.length), i ≠ j → ∀ g, (rv[i]'hi).2.ownBlock = some g → (rv[j]'hj).2.ownBlock ≠ some g) := fun i j hi hj hne g hg => apart_at H0.out.apart i j hi hj hne g hg
  go_wp2
  go_loopw [1, 5] (fun q i wr => ∃ j : Nat, j ≤ n ∧ i = .int .i64 (j : Int) ∧ q = .int .i64 (kAt rv j : Int) ∧ Hid (ReqsO wr base (.slice oa n cap) (mkR rv j)) ∧ Below base w wr) (fun _ i _ => n - (intOf i).toNat)
  case atStart => exact ⟨0, Nat.zero_le _, rfl, by cases rv <;> rfl, H0, Below.refl _ _⟩
  case round =>
    obtain ⟨j, hj, rfl, rfl, HS, hbw⟩ := hrel
    by_cases hlt : j < n
    · have hlt2 : (j : Int) < (n : Int) := by omega
      have hj1 : j < rv.length := by rw [← HN.out]; exact hlt
      have hjL : j < (mkR rv j).length := by rw [mkR_len]; exact hj1
      obtain ⟨L, hL⟩ : ∃ L, L = mkR rv j := ⟨_, rfl⟩
      rw [← hL] at HS hjL
      have HLL : Hid (L.length = n) := by show _ = _; rw [hL, mkR_len, HN.out]
      have HLJ : Hid (L[j]'hjL = rv[j]'hj1) := by
        show _ = _
        have := mkR_at rv j hj1 j (by omega)
        rw [← hL, List.getElem?_eq_getElem hjL, if_neg (by omega)] at this
        exact Option.some.inj this
      have HAL : Hid (∀ i (hi : i < L.length), i ≠ j → ∀ b, (L[i]'hi).2.ownBlock = some b → (L[j]'hjL).2.ownBlock ≠ some b) := fun i hi hne b hb => by
        have hi1 : i < rv.length := by rw [HLL.out, HN.out] at hi; exact hi
        have e := mkR_own rv i hi1 j (by omega)
        simp only [← hL] at e
        rw [e] at hb
        rw [HLJ.out]
        exact HAP.out i j hi1 hj1 hne b hb
      have HLN : Hid (mkR rv (j + 1) = L.set j (mkRq (kAt rv j) (rv[j]'hj1).1, (rv[j]'hj1).2)) := by show _ = _; rw [mkR, dif_pos hj1, hL]
      have HAN : Hid (∀ a b (ha : a < (mkR rv (j + 1)).length) (hb : b < (mkR rv (j + 1)).length), a ≠ b → ∀ g, ((mkR rv (j + 1))[a]'ha).2.ownBlock = some g → ((mkR rv (j + 1))[b]'hb).2.ownBlock ≠ some g) := fun a b ha hb hne g hg => by
        have ha1 : a < rv.length := by rw [mkR_len] at ha; exact ha
        have hb1 : b < rv.length := by rw [mkR_len] at hb; exact hb
        rw [mkR_own rv a ha1 (j + 1) (by omega)] at hg
        rw [mkR_own rv b hb1 (j + 1) (by omega)]
        exact HAP.out a b ha1 hb1 hne g hg
      have hks := kAt_succ rv j hj1
      have hkm := kAt_mono rv (j + 1) n (by omega) (by rw [HN.out]; exact Nat.le_refl _)
      have hkp := kAt_pos rv j
      have hk9 := HK.out
      obtain ⟨g, rfl, hgb, hgl, _, _⟩ := HS.out.at j hjL
      have St0 := RqSt.of HS.out HLL.out
      obtain ⟨ov, cv, hv⟩ := slice_of_owns (St0.own j hjL)
      obtain ⟨fs, hfs⟩ : ∃ x, x = (rv[j]'hj1).1.fs := ⟨_, rfl⟩
      obtain ⟨nf, hnf⟩ : ∃ x, x = fs.length := ⟨_, rfl⟩
      obtain ⟨kq, hkq⟩ : ∃ x, x = kAt rv j := ⟨_, rfl⟩
      have hvr : (rv[j]'hj1).2 = .slice ov nf cv := by rw [← HLJ.out, hv, HLJ.out, ← hfs, ← hnf]
      have HVR : Hid ((rv[j]'hj1).2 = .slice ov nf cv) := hvr
      unfold stepK at hks
      rw [← hfs, ← hnf, ← hkq] at hks
      rw [← hkq] at hkp HLN
      rw [← hkq]
      have HFS : Hid ((rv[j]'hj1).1.fs = fs ∧ fs.length = nf) := ⟨hfs.symm, hnf.symm⟩
      have c0 := St0.cell (j * 4) _ (flatR_at 0 (by omega) L j hjL)
      have St1 := St0.put (j * 4) (.int .i64 (kq : Int))
      have HKS : Hid (kAt rv (j + 1) = kq + (3 + 2 * nf)) := hks
      have hkb : kq + (3 + 2 * nf) ≤ 9999000 := by omega
      have hbs : base ≤ wr.heap.size := Nat.le_trans hb hbw.size
      clear hL hv hvr hfs hnf hkq hks hkm hk9 St0 HS
      have HS1 : Hid (RqSt (wr.setCell ⟨g, j * 4, none⟩ (.int .i64 (kq : Int))) base g n cap ((flatR L).set (j * 4) (.int .i64 (kq : Int))) L) := St1
      have HB1 : Hid (Below base w (wr.setCell ⟨g, j * 4, none⟩ (.int .i64 (kq : Int)))) := hbw.setCell hgb _
      clear St1
      go_wp2_with fail
      refine (markText_int _ (kq + 1) _ (by omega) (by omega) (by omega)).mono ?_
      rintro e w1 ⟨rfl, b1⟩
      have St2 := HS1.out.later b1
      have c1 := St2.cell (j * 4 + 1) _ (by rw [List.getElem?_set_ne (by omega)]; exact flatR_at 1 (by omega) L j hjL)
      have c2 := (St2.cell (j * 4 + 2) _ (by rw [List.getElem?_set_ne (by omega)]; exact flatR_at 2 (by omega) L j hjL)).1
      rw [HLJ.out] at c1 c2
      rw [HVR.out] at c2
      have HB2 : Hid (Below base w (w1.setCell ⟨g, j * 4 + 1, none⟩ (.string (markOf (kq + 1))))) := (HB1.out.trans (b1.mono (by simp; omega))).setCell hgb _
      have HS2 : Hid (RqSt (w1.setCell ⟨g, j * 4 + 1, none⟩ (.string (markOf (kq + 1)))) base g n cap (((flatR L).set (j * 4) (.int .i64 (kq : Int))).set (j * 4 + 1) (.string (markOf (kq + 1)))) L) := St2.put _ _
      have hbs2 : base ≤ (w1.setCell ⟨g, j * 4 + 1, none⟩ (.string (markOf (kq + 1)))).heap.size := Nat.le_trans hb HB2.out.size
      have HOW : Hid ((w1.setCell ⟨g, j * 4 + 1, none⟩ (.string (markOf (kq + 1)))).ownsRow base 63 2 (.slice ov nf cv) nf (flatF fs)) := by
        have h := HS2.out.own j hjL
        rw [HLJ.out, HVR.out, HFS.out.1, HFS.out.2] at h
        exact h
      clear St2 b1 HS1 HB1 c0
      go_wp2_with fail
      have hfr := markFrom_any (.slice ov nf cv) nf base fs _ HOW.out hbs2 (kq + 2) (by omega) (by omega)
      rw [show ((kq + 2 : Nat) : Int) = (kq : Int) + 1 + 1 by omega] at hfr
      refine hfr.mono ?_
      rintro e w3 ⟨rfl, ho3, b3, far3⟩
      have St3 := HS2.out.marked j hjL HAL.out (by rw [HLJ.out, HVR.out]; exact far3) (mkRq kq (rv[j]'hj1).1) (by
        rw [HLJ.out, HVR.out]
        have e1 : (mkRq kq (rv[j]'hj1).1).fs = mkG (kq + 2) fs nf := by unfold mkRq; rw [HFS.out.1, HFS.out.2]
        have e2 : (mkG (kq + 2) fs nf).length = nf := by rw [mkG_len, HFS.out.2]
        rw [e1, e2]
        exact ho3)
      have HB3 : Hid (Below base w w3) := HB2.out.trans b3
      have HS3 : Hid _ := St3
      clear St3 ho3 b3 far3 hfr HS2 HB2 c1 c2 HOW hbs2
      go_wp2_with fail
      refine (markText_int _ (kq + 2 + 2 * nf) _ (by omega) (by omega) (by omega)).mono ?_
      rintro e w4 ⟨rfl, b4⟩
      have St4 := HS3.out.later b4
      have c3 := St4.cell (j * 4 + 3) _ (by rw [List.getElem?_set_ne (by omega), List.getElem?_set_ne (by omega)]; exact flatR_at 3 (by omega) L j hjL)
      rw [HLJ.out] at c3
      have St5 := St4.put (j * 4 + 3) (.string (markOf (kq + 2 + 2 * nf)))
      have HB5 : Hid (Below base w (w4.setCell ⟨g, j * 4 + 3, none⟩ (.string (markOf (kq + 2 + 2 * nf))))) := (HB3.out.trans (b4.mono (Nat.le_trans hb HB3.out.size))).setCell hgb _
      have HEND : Hid (ReqsO (w4.setCell ⟨g, j * 4 + 3, none⟩ (.string (markOf (kq + 2 + 2 * nf)))) base (.slice (some ⟨g, 0, none⟩) n cap) (mkR rv (j + 1))) := by
        have er : (rv[j]'hj1).2 = (L[j]'hjL).2 := by rw [HLJ.out]
        have eL : mkR rv (j + 1) = L.set j (mkRq kq (rv[j]'hj1).1, (L[j]'hjL).2) := by rw [HLN.out, er]
        have ex := flatR_mark L j hjL (mkRq kq (rv[j]'hj1).1)
        have eb : (mkRq kq (rv[j]'hj1).1).b = markOf (kq + 2 + 2 * nf) := by unfold mkRq; rw [HFS.out.1, HFS.out.2]
        rw [eb] at ex
        refine ⟨?_, fun x hx => ?_, apart_of HAN.out⟩
        · rw [mkR_len, ← HN.out, eL, ← ex]
          exact St5.row
        · rw [eL] at hx
          obtain ⟨i, hi, rfl⟩ := List.getElem_of_mem hx
          exact St5.own i hi
      clear St4 St5 b4 HS3 HB3
      go_wp2_with fail
      go_roundw
      case rel => exact ⟨j + 1, by omega, by go_num, by rw [HKS.out]; congr 1; omega, HEND, HB5.out⟩
      case measure => simp [intOf]; omega
    · obtain rfl : j = n := by omega
      go_wp2
      go_ret
      exact ⟨rfl, HS.out, hbw⟩

set_option maxHeartbeats 4000000 in
set_option maxRecDepth 100000 in
theorem heldReqS_any (base : Nat) (V : Value) (rv : List (RqD × Value)) (w : World) (h : ReqsO w base V (mkR rv rv.length)) (hk : kAt rv rv.length ≤ 9999000) :
    Calls Tryz.prog 11 #[V, .int .i64 1] w fun e w' => e = .returned (.int .i64 (kAt rv rv.length : Int)) ∧ Below w.heap.size w w' := by
  obtain ⟨oa, cap, rfl⟩ := h.form
  rw [mkR_len] at h ⊢
  obtain ⟨n, hn⟩ : ∃ n, n = rv.length := ⟨_, rfl⟩
  rw [← hn] at h hk ⊢
  have H0 : Hid (ReqsO w base (.slice oa n cap) (mkR rv n)) := h
  have HN : Hid (n = rv.length) := hn
  have HK : Hid (kAt rv n ≤ 9999000) := hk
  have hn6 : n ≤ 9999000 := by
    have : ∀ j, j ≤ rv.length → j ≤ kAt rv j := by
      intro j
      induction j with
      | zero => intro _; omega
      | succ j ih => intro hj; have := ih (by omega); rw [kAt_succ rv j (by omega)]; unfold stepK; omega
    have := this n (by omega)
    omega
  clear h hn hk
  go_enter Tryz.func11, Tryz.ntmps11
  go_wp2
  go_loopw [1, 5] (fun q i wr => ∃ j : Nat, j ≤ n ∧ i = .int .i64 (j : Int) ∧ q = .int .i64 (kAt rv j : Int) ∧ Below w.heap.size w wr) (fun _ i _ => n - (intOf i).toNat)
  case atStart => exact ⟨0, Nat.zero_le _, rfl, by cases rv <;> rfl, Below.refl _ _⟩
  case round =>
    obtain ⟨j, hj, rfl, rfl, hbw⟩ := hrel
    by_cases hlt : j < n
    · have hlt2 : (j : Int) < (n : Int) := by omega
      have hj1 : j < rv.length := by rw [← HN.out]; exact hlt
      have hjL : j < (mkR rv n).length := by rw [mkR_len]; exact hj1
      have hLJ : (mkR rv n)[j]'hjL = (mkRq (kAt rv j) (rv[j]'hj1).1, (rv[j]'hj1).2) := by
        have := mkR_at rv j hj1 n (by rw [HN.out]; exact Nat.le_refl _)
        rw [List.getElem?_eq_getElem hjL, if_pos hlt] at this
        exact Option.some.inj this
      have hks := kAt_succ rv j hj1
      have hkm := kAt_mono rv (j + 1) n (by omega) (by rw [HN.out]; exact Nat.le_refl _)
      have hkp := kAt_pos rv j
      have hk9 := HK.out
      obtain ⟨g, rfl, hgb, hgl, _, _⟩ := H0.out.at j hjL
      obtain ⟨fs, hfs⟩ : ∃ x, x = (rv[j]'hj1).1.fs := ⟨_, rfl⟩
      obtain ⟨nf, hnf⟩ : ∃ x, x = fs.length := ⟨_, rfl⟩
      obtain ⟨kq, hkq⟩ : ∃ x, x = kAt rv j := ⟨_, rfl⟩
      have hown := H0.out.own _ (List.getElem_mem hjL)
      rw [hLJ] at hown
      have e1 : (mkRq (kAt rv j) (rv[j]'hj1).1).fs = mkG (kq + 2) fs nf := by unfold mkRq; rw [← hfs, ← hnf, hkq]
      have e2 : (mkG (kq + 2) fs nf).length = nf := by rw [mkG_len, hnf]
      have e3 : (mkRq (kAt rv j) (rv[j]'hj1).1).b = markOf (kq + 2 + 2 * nf) := by unfold mkRq; rw [← hfs, ← hnf, hkq]
      rw [e1, e2] at hown
      obtain ⟨ov, cv, hv⟩ := slice_of_owns hown
      have hv : (rv[j]'hj1).2 = .slice ov nf cv := hv
      have hown : w.ownsRow base 63 2 (.slice ov nf cv) nf (flatF (mkG (kq + 2) fs nf)) := by rw [← hv]; exact hown
      have HO : Hid (∀ W, Below w.heap.size w W → W.ownsRow base 63 2 (.slice ov nf cv) nf (flatF (mkG (kq + 2) fs nf))) := fun W hW => owns_same hown (fun i hi => hW.block i (own_ltR hown hi).2)
      have HM : Hid (∀ i, i < nf → nameAt (mkG (kq + 2) fs nf) i = markOf (kq + 2 + 2 * i) ∧ valAt (mkG (kq + 2) fs nf) i = markOf (kq + 2 + 2 * i + 1)) := fun i hi => mkG_at (kq + 2) fs i nf (by omega) hi
      have HC : Hid (∀ W, Below w.heap.size w W → W.cell? ⟨g, j * 4, none⟩ = some (.int .i64 (kq : Int)) ∧ W.cell? ⟨g, j * 4 + 1, none⟩ = some (.string (markOf (kq + 1))) ∧ W.cell? ⟨g, j * 4 + 2, none⟩ = some (.slice ov nf cv) ∧ W.cell? ⟨g, j * 4 + 3, none⟩ = some (.string (markOf (kq + 2 + 2 * nf)))) := fun W hW => by
        obtain ⟨x, y, _, _, ⟨a1, a2, a3, a4⟩, _⟩ := (H0.out.later hW).at j hjL
        cases y
        rw [hLJ] at a1 a2 a3 a4
        have a3 : W.cell? ⟨g, j * 4 + 2, none⟩ = some (rv[j]'hj1).2 := a3
        rw [hv] at a3
        have a4 : W.cell? ⟨g, j * 4 + 3, none⟩ = some (.string (mkRq (kAt rv j) (rv[j]'hj1).1).b) := a4
        rw [e3] at a4
        rw [hkq]
        exact ⟨a1, a2, a3, by rw [← hkq]; exact a4⟩
      unfold stepK at hks
      rw [← hfs, ← hnf, ← hkq] at hks
      rw [← hkq] at hkp
      rw [← hkq]
      have HKS : Hid (kAt rv (j + 1) = kq + (3 + 2 * nf)) := hks
      have hkb : kq + (3 + 2 * nf) ≤ 9999000 := by omega
      clear hLJ hown hv hfs hnf hkq hks hkm hk9 e1 e2 e3
      obtain ⟨c0, c1, c2, c3⟩ := HC.out wr hbw
      have t0 : ((kq : Int) != (kq : Int)) = false := by simp
      have HB : Hid (∀ W, Below wr.drew.heap.size wr.drew W → Below w.heap.size w W) := fun W h => hbw.drew.trans (h.mono hbw.size)
      have t1 : ((markOf (kq + 1)).toList == (markOf (kq + 1)).toList) = true := by simp
      go_wp2
      go_region_held3 (fun W => W.cell? ⟨g, j * 4 + 1, none⟩ = some (.string (markOf (kq + 1)))) (first | assumption | go_keep) (first | (go_at_call 18; refine (markText_int _ (kq + 1) _ (by omega) (by omega) (by omega)).mono ?_; rintro e w1 ⟨rfl, hb1⟩; have hbx := HB.out w1 hb1; obtain ⟨d0, d1, d2, d3⟩ := HC.out w1 hbx))
      clear c0 c1 c2 c3 hb1 d0 t0 t1
      have HHD : Hid (Calls Tryz.prog 20 #[.slice ov nf cv, .int .i64 ((kq : Int) + 1 + 1)] w1 fun e w' => e = .returned (.int .i64 ((kq : Int) + 1 + 1 + 2 * (nf : Int))) ∧ Below w1.heap.size w1 w') := by
        have h := heldFrom_any (.slice ov nf cv) nf base (mkG (kq + 2) fs nf) w1 (HO.out w1 hbx) (kq + 2) (by omega) (by omega) HM.out
        rw [show ((kq + 2 : Nat) : Int) = (kq : Int) + 1 + 1 by omega] at h
        exact h
      have HBX : Hid (Below w.heap.size w w1) := hbx
      clear hbx
      go_wp2_with (go_at_call 20; refine HHD.out.mono ?_; rintro e w2 ⟨rfl, b2⟩)
      have HBY : Hid (Below w.heap.size w w2) := HBX.out.trans (b2.mono HBX.out.size)
      obtain ⟨f0, f1, f2, f3⟩ := HC.out w2 HBY.out
      have HB3 : Hid (∀ W, Below w2.drew.heap.size w2.drew W → Below w.heap.size w W) := fun W h => HBY.out.drew.trans (h.mono HBY.out.size)
      have t3 : ((markOf (kq + 2 + 2 * nf)).toList == (markOf (kq + 2 + 2 * nf)).toList) = true := by simp
      clear d1 d2 d3 b2 f0 f1 f2 HHD HBX
      go_region_held3 (fun W => W.cell? ⟨g, j * 4 + 3, none⟩ = some (.string (markOf (kq + 2 + 2 * nf)))) (first | assumption | go_keep) (first | (go_at_call 18; refine (markText_int _ (kq + 2 + 2 * nf) _ (by omega) (by omega) (by omega)).mono ?_; rintro e w3 ⟨rfl, hb3⟩; have hbz := HB3.out w3 hb3; obtain ⟨_, _, _, h3⟩ := HC.out w3 hbz))
      go_wp2
      go_roundw
      case rel => exact ⟨j + 1, by omega, by go_num, by rw [HKS.out]; congr 1; omega, hbz⟩
      case measure => simp [intOf]; omega
    · obtain rfl : j = n := by omega
      go_wp2
      go_ret
      exact ⟨rfl, hbw⟩

end Go.Proofs.YtacfajnagbeocaaGreatDoor
