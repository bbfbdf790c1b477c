/- Who is asked again of drawn fields is asked with their tag, and is right if it was (and then with no other tag); a short answer has no body (the law answers true), and the code reads as it did: for every code, no condition. -/
import Derived.Test.YthlmnmbhgkmbfaaFnAskedAgainC
import Derived.Test.YthlmnmbhgkmbfaaRows
import Derived.WalkKit
import Derived.ProofKit
import Derived.OpenShut
import Derived.ShutString
import Derived.ChangeOld
import Derived.Below
import Derived.Deep.RegionHeld3
import Derived.Deep.DrawnRows
import Derived.Deep.CutRange
import Derived.Deep.DeepCutAuto
namespace Go.Proofs.Ythlmnmbhgkmbfaa
namespace fnAskedAgain
open Go.ChangeShapes Go.WideShapes Go.ChangeAt Go.RowKit
open Go.ChangeMaps (open_string shut_string)
attribute [local go_sem ↓] Go.wp_at_zero Go.wp_at_succ

theorem own : ownKnob Try.prog.godebug = none := by kernel_rfl
theorem laidOut : laidOutB Try.prog = true := by kernel_rfl
def IsRow (k : IntKind) (w : World) (a : Option Addr) (len cap : Nat) (zs : List Int) : Prop :=
  (a = none ∧ len = 0 ∧ cap = 0 ∧ zs = []) ∨
  ∃ x, a = some x ∧ len ≤ cap ∧ cap ≤ maxLen ∧ zs.length = cap ∧ (∀ i, i < zs.length → w.cell? (x.add i) = some (.int k (zs.getD i 0))) ∧ ∀ n ∈ zs, (Lit.int k n).wf = true
theorem row_cell {k : IntKind} {w : World} {x : Addr} {zs : List Int} (h : ∀ i, i < zs.length → w.cell? (x.add i) = some (.int k (zs.getD i 0))) (j : Nat) (hj : j < zs.length) : ∃ b off, x = ⟨b, off, none⟩ ∧ w.cell? ⟨b, off + j, none⟩ = some (.int k (zs.getD j 0)) := by
  obtain ⟨b, off, spot⟩ := x
  have hc := h j hj
  have hspot : spot = none := by
    have := World.cell?_spot (h 0 (by omega))
    simpa [Addr.add] using this
  subst hspot
  refine ⟨b, off, rfl, ?_⟩
  by_cases e : j = 0
  · subst e; simpa [Addr.add] using hc
  · simpa [Addr.add, e] using hc
theorem row_code {w : World} {a : Option Addr} {len cap : Nat} {zs : List Int} (h : IsRow .u8 w a len cap zs) (hl : len ≤ 1048576) : CodeAt w w.heap.size a len zs := by
  refine ⟨hl, fun j hj => ?_⟩
  rcases h with ⟨rfl, rfl, _, _⟩ | ⟨x, rfl, h1, _, h3, h4, h5⟩
  · omega
  · obtain ⟨b, off, rfl, hc2⟩ := row_cell h4 j (by omega)
    have hm : zs.getD j 0 ∈ zs := by
      rw [List.getD_eq_getElem?_getD, List.getElem?_eq_getElem (by omega)]
      exact List.getElem_mem _
    have hr := bounds_u8 (h5 _ hm)
    exact ⟨b, off, rfl, World.block_lt_of_cell? _ _ hc2, hc2, hr.1, by omega⟩
open Classical in
theorem bool_is {P : Prop} {prog : Program} {f : FuncId} {args : Array Value} {w : World} (h : Calls prog f args w fun e w' => BoolIs P w e w') : Calls prog f args w fun e w' => e = .returned (.bool (decide P)) ∧ Below w.heap.size w w' :=
  h.mono fun e w' ⟨t, h1, h2, h3⟩ => ⟨by rw [h1, (show t = decide P by rw [Bool.eq_iff_iff, h2, decide_eq_true_iff])], h3⟩
theorem ask_le (m : Int) (p : ByteArray) (fs : List (ByteArray × ByteArray)) (b : ByteArray) (gs : List (ByteArray × ByteArray)) : (askF m p fs b gs).length ≤ fs.length + 1 := by
  unfold askF
  split
  · exact putF_le fs inmName _
  · have := dropTo_len fs (atI fs inmName) fs.length
    unfold dropF
    omega
theorem merge_le (st : Int) (fs : List (ByteArray × ByteArray)) (b : ByteArray) (gs : List (ByteArray × ByteArray)) : (mergeF st fs b gs).length ≤ fs.length + gs.length := by
  unfold mergeF
  split
  · exact putAll_le fs gs
  · omega

set_option maxHeartbeats 8000000 in
set_option maxRecDepth 100000 in
theorem walk1 (w : World) (a0 : Option Addr) (len0 cap0 : Nat) (z0 : List Int) (w0 : IsRow .u8 w a0 len0 cap0 z0) :
    Calls Try.prog 3 #[.slice a0 len0 cap0] w fun e w' => e = .returned (.bool true) ∧ Below w.heap.size w w' := by
  classical
  by_cases hbig : (1048576 : Int) < (len0 : Int)
  · go_enter Try.func3, Try.ntmps3
    go_wp2_with (go_at_call 9; go_in)
    go_ret
    exact ⟨rfl, Below.refl _ _⟩
  have hcode := row_code w0 (by omega)
  have HCODE : Hid (∀ W, Below w.heap.size w W → CodeAt W W.heap.size a0 len0 z0) := fun W h => (hcode.below h).upTo h.size
  clear w0 hcode
  have hb0 : Below w.heap.size w w := Below.refl _ _
  go_enter Try.func3, Try.ntmps3
  go_wp2_with (go_at_call 9; go_in)
  refine (drawAsk_any a0 len0 cap0 z0 _ (HCODE.out _ hb0)).mono ?_
  rintro e w1 ⟨m, p, vq, fs, bd, vu, gs, rfl, hp, ownq, hfl, hsh, hbs, ownu, hgl, hgsh, b⟩
  obtain ⟨oq, pq, rfl⟩ := slice_of_owns ownq
  obtain ⟨ou, pu, rfl⟩ := slice_of_owns ownu
  have hb1 : Below w.heap.size w (w1) := hb0.trans (b.mono hb0.size)
  have HM1 : Hid ((w).heap.size ≤ (w1).heap.size) := b.size
  have HOq_1 : Hid ((w1).ownsRow w.heap.size 68 2 (.slice oq fs.length pq) fs.length (flatF fs)) := owns_wide ownq hb0.size
  have LOq : Hid (∀ g, (Value.ownBlock (.slice oq fs.length pq)) = some g → (w).heap.size ≤ g) := fun g hg => owns_ge ownq hg
  have HIq : Hid (∀ g, (Value.ownBlock (.slice oq fs.length pq)) = some g → g < (w1).heap.size) := fun g hg => owns_lt ownq hg
  clear ownq
  have HOu_1 : Hid ((w1).ownsRow w.heap.size 68 2 (.slice ou gs.length pu) gs.length (flatF gs)) := owns_wide ownu hb0.size
  have LOu : Hid (∀ g, (Value.ownBlock (.slice ou gs.length pu)) = some g → (w).heap.size ≤ g) := fun g hg => owns_ge ownu hg
  have HIu : Hid (∀ g, (Value.ownBlock (.slice ou gs.length pu)) = some g → g < (w1).heap.size) := fun g hg => owns_lt ownu hg
  clear ownu
  clear hb0 b
  go_upto_region 4 with fail
  obtain ⟨qbq, hqbq⟩ : ∃ q, q = (w1).heap.size := ⟨_, rfl⟩
  obtain ⟨w2, hW2⟩ : ∃ W, W = (w1).alloc (.cells #[.int .i64 m, .string p, .slice oq fs.length pq, .string bd] 26) := ⟨_, rfl⟩
  rw [← hW2, ← hqbq]
  have b : Below (w1).heap.size (w1) w2 := by rw [hW2]; exact (Below.refl _ _).alloc (Nat.le_refl _) _
  have hb2 : Below w.heap.size w (w2) := hb1.trans (b.mono hb1.size)
  have HM2 : Hid ((w1).heap.size ≤ (w2).heap.size) := b.size
  have HOq_2 : Hid ((w2).ownsRow w.heap.size 68 2 (.slice oq fs.length pq) fs.length (flatF fs)) := owns_below HOq_1.out b (fun g hg => owns_lt HOq_1.out hg)
  have HOu_2 : Hid ((w2).ownsRow w.heap.size 68 2 (.slice ou gs.length pu) gs.length (flatF gs)) := owns_below HOu_1.out b (fun g hg => owns_lt HOu_1.out hg)
  have HBbq_2 : Hid ((w2).heap[qbq]? = some (.cells #[.int .i64 m, .string p, .slice oq fs.length pq, .string bd] 26)) := by show _ = _; rw [hW2, hqbq]; exact heap_alloc_new _ _
  clear hb1 HOq_1 HOu_1 b hW2 hqbq
  obtain ⟨P, hP⟩ : ∃ P, P = askF m p fs bd gs := ⟨_, rfl⟩
  obtain ⟨np, hnp⟩ : ∃ m, m = P.length := ⟨_, rfl⟩
  have hnp2 : np ≤ 41 := by
    rw [hnp, hP]
    have h1 := ask_le m p fs bd gs
    omega
  have HPS : Hid (ShortF P) := by show ShortF _; rw [hP]; exact ask_short hsh hgsh
  have HNP : Hid (P.length = np) := hnp.symm
  have HSA : Hid (∀ (u0 u1 : Value) (B0 B1 : Nat) (W : World), FieldsV W B0 u0 fs.length fs → FieldsV W B1 u1 gs.length gs → Calls Try.prog 13 #[.agg #[.int .i64 m, .string p, u0, .string bd], u1] W fun e w' => ∃ v, e = .returned (.agg #[.int .i64 m, .string p, v, .string bd]) ∧ w'.ownsRow W.heap.size 68 2 v np (flatF P) ∧ Below W.heap.size W w') := by
    intro u0 u1 B0 B1 W h0 h1
    rw [hnp, hP]
    exact specAsk_any m p u0 bd fs.length B0 fs u1 gs.length B1 gs W h0 (by omega) (shortWalk hsh) (by unfold maxLen; omega) (by unfold maxLen; omega) h1 (by omega) (by have := short_get2 hgsh tagName; unfold maxLen; omega)
  have HIA : Hid (∀ (u0 u1 : Value) (B0 B1 : Nat) (W : World), FieldsV W B0 u0 fs.length fs → FieldsV W B1 u1 gs.length gs → Calls Try.prog 11 #[.agg #[.int .i64 m, .string p, u0, .string bd], u1] W fun e w' => ∃ v, e = .returned (.agg #[.int .i64 m, .string p, v, .string bd]) ∧ w'.ownsRow W.heap.size 68 2 v np (flatF P) ∧ Below W.heap.size W w') := by
    intro u0 u1 B0 B1 W h0 h1
    rw [hnp, hP]
    exact implAsk_any m p u0 bd fs.length B0 fs u1 gs.length B1 gs W h0 (by omega) h1 (by omega) hsh.copy hgsh.copy (by omega) (by omega) (by have := short_get2 hgsh tagName; omega)
  have HPR : Hid (ReqP m p fs bd → ReqP m p P bd) := fun h => by rw [hP]; exact ask_right gs h
  have HPT : Hid (ReqP m p fs bd → getB P inmName = true → getB gs tagName = true ∧ getV P inmName = getV gs tagName) := fun h h2 => by rw [hP] at h2 ⊢; exact ask_tag h h2
  clear hP hnp
  have hfd := fun o n c W => field_req2 m p o n c bd W
  have hmm : (m != m) = false := by simp
  have hpp : (p.toList != p.toList) = false := by simp
  obtain ⟨⟨cbq0, cbq1, cbq2, cbq3⟩, _⟩ := four_facts HBbq_2.out
  go_wp2_with fail
  refine (HIA.out _ _ _ _ _ (FieldsV.of_owns HOq_2.out) (FieldsV.of_owns HOu_2.out)).mono ?_
  rintro e w3 ⟨vg, rfl, owng, b⟩
  obtain ⟨og, pg, rfl⟩ := slice_of_owns owng
  have hb3 : Below w.heap.size w (w3) := hb2.trans (b.mono hb2.size)
  have HM3 : Hid ((w2).heap.size ≤ (w3).heap.size) := b.size
  have HOq_3 : Hid ((w3).ownsRow w.heap.size 68 2 (.slice oq fs.length pq) fs.length (flatF fs)) := owns_below HOq_2.out b (fun g hg => owns_lt HOq_2.out hg)
  have HOu_3 : Hid ((w3).ownsRow w.heap.size 68 2 (.slice ou gs.length pu) gs.length (flatF gs)) := owns_below HOu_2.out b (fun g hg => owns_lt HOu_2.out hg)
  have HBbq_3 : Hid ((w3).heap[qbq]? = some (.cells #[.int .i64 m, .string p, .slice oq fs.length pq, .string bd] 26)) := blk_below HBbq_2.out b
  have HOg_3 : Hid ((w3).ownsRow w.heap.size 68 2 (.slice og np pg) np (flatF P)) := owns_wide owng hb2.size
  have LOg : Hid (∀ g, (Value.ownBlock (.slice og np pg)) = some g → (w2).heap.size ≤ g) := fun g hg => owns_ge owng hg
  have HIg : Hid (∀ g, (Value.ownBlock (.slice og np pg)) = some g → g < (w3).heap.size) := fun g hg => owns_lt owng hg
  clear owng
  clear hb2 HOq_2 HOu_2 HBbq_2 cbq0 cbq1 cbq2 cbq3 b
  go_upto_region 5 with fail
  obtain ⟨qbg, hqbg⟩ : ∃ q, q = (w3).heap.size := ⟨_, rfl⟩
  obtain ⟨w4, hW4⟩ : ∃ W, W = (w3).alloc (.cells #[.int .i64 m, .string p, .slice og np pg, .string bd] 26) := ⟨_, rfl⟩
  rw [← hW4, ← hqbg]
  have b : Below (w3).heap.size (w3) w4 := by rw [hW4]; exact (Below.refl _ _).alloc (Nat.le_refl _) _
  have hb4 : Below w.heap.size w (w4) := hb3.trans (b.mono hb3.size)
  have HM4 : Hid ((w3).heap.size ≤ (w4).heap.size) := b.size
  have HOq_4 : Hid ((w4).ownsRow w.heap.size 68 2 (.slice oq fs.length pq) fs.length (flatF fs)) := owns_below HOq_3.out b (fun g hg => owns_lt HOq_3.out hg)
  have HOu_4 : Hid ((w4).ownsRow w.heap.size 68 2 (.slice ou gs.length pu) gs.length (flatF gs)) := owns_below HOu_3.out b (fun g hg => owns_lt HOu_3.out hg)
  have HOg_4 : Hid ((w4).ownsRow w.heap.size 68 2 (.slice og np pg) np (flatF P)) := owns_below HOg_3.out b (fun g hg => owns_lt HOg_3.out hg)
  have HBbq_4 : Hid ((w4).heap[qbq]? = some (.cells #[.int .i64 m, .string p, .slice oq fs.length pq, .string bd] 26)) := blk_below HBbq_3.out b
  have HBbg_4 : Hid ((w4).heap[qbg]? = some (.cells #[.int .i64 m, .string p, .slice og np pg, .string bd] 26)) := by show _ = _; rw [hW4, hqbg]; exact heap_alloc_new _ _
  clear hb3 HOq_3 HOu_3 HOg_3 HBbq_3 b hW4 hqbg
  have bd5 : Below (w4).heap.size (w4) (w4).drew := (Below.refl _ _).drew
  have hb5 : Below w.heap.size w (w4.drew) := hb4.trans (bd5.mono hb4.size)
  have HM5 : Hid ((w4).heap.size ≤ (w4.drew).heap.size) := bd5.size
  have HOq_5 : Hid ((w4.drew).ownsRow w.heap.size 68 2 (.slice oq fs.length pq) fs.length (flatF fs)) := owns_below HOq_4.out bd5 (fun g hg => owns_lt HOq_4.out hg)
  have HOu_5 : Hid ((w4.drew).ownsRow w.heap.size 68 2 (.slice ou gs.length pu) gs.length (flatF gs)) := owns_below HOu_4.out bd5 (fun g hg => owns_lt HOu_4.out hg)
  have HOg_5 : Hid ((w4.drew).ownsRow w.heap.size 68 2 (.slice og np pg) np (flatF P)) := owns_below HOg_4.out bd5 (fun g hg => owns_lt HOg_4.out hg)
  have HBbq_5 : Hid ((w4.drew).heap[qbq]? = some (.cells #[.int .i64 m, .string p, .slice oq fs.length pq, .string bd] 26)) := blk_below HBbq_4.out bd5
  have HBbg_5 : Hid ((w4.drew).heap[qbg]? = some (.cells #[.int .i64 m, .string p, .slice og np pg, .string bd] 26)) := blk_below HBbg_4.out bd5
  obtain ⟨⟨cbg0, cbg1, cbg2, cbg3⟩, _⟩ := four_facts HBbg_4.out
  obtain ⟨⟨cbq0, cbq1, cbq2, cbq3⟩, _⟩ := four_facts HBbq_4.out
  clear hb4 HOq_4 HOu_4 HOg_4 HBbq_4 HBbg_4 bd5
  go_wp2_with fail
  go_region_held3 (fun W => (W.cell? ⟨qbg, 0, none⟩ = some (.int .i64 m) ∧ W.cell? ⟨qbg, 1, none⟩ = some (.string p) ∧ W.cell? ⟨qbg, 2, none⟩ = some (.slice og np pg) ∧ W.cell? ⟨qbg, 3, none⟩ = some (.string bd)) ∧ (W.cell? ⟨qbq, 0, none⟩ = some (.int .i64 m) ∧ W.cell? ⟨qbq, 1, none⟩ = some (.string p) ∧ W.cell? ⟨qbq, 2, none⟩ = some (.slice oq fs.length pq) ∧ W.cell? ⟨qbq, 3, none⟩ = some (.string bd))) (first | assumption | go_keep) (first | (go_at_call 13; refine (HSA.out _ _ _ _ _ (FieldsV.of_owns HOq_5.out) (FieldsV.of_owns HOu_5.out)).mono ?_; rintro e w6 ⟨vs, rfl, owns, b⟩; obtain ⟨os, ps, rfl⟩ := slice_of_owns owns; have hb6 : Below w.heap.size w (w6) := hb5.trans (b.mono hb5.size); have HM6 : Hid ((w4.drew).heap.size ≤ (w6).heap.size) := b.size; have HOq_6 : Hid ((w6).ownsRow w.heap.size 68 2 (.slice oq fs.length pq) fs.length (flatF fs)) := owns_below HOq_5.out b (fun g hg => owns_lt HOq_5.out hg); have HOu_6 : Hid ((w6).ownsRow w.heap.size 68 2 (.slice ou gs.length pu) gs.length (flatF gs)) := owns_below HOu_5.out b (fun g hg => owns_lt HOu_5.out hg); have HOg_6 : Hid ((w6).ownsRow w.heap.size 68 2 (.slice og np pg) np (flatF P)) := owns_below HOg_5.out b (fun g hg => owns_lt HOg_5.out hg); have HBbq_6 : Hid ((w6).heap[qbq]? = some (.cells #[.int .i64 m, .string p, .slice oq fs.length pq, .string bd] 26)) := blk_below HBbq_5.out b; have HBbg_6 : Hid ((w6).heap[qbg]? = some (.cells #[.int .i64 m, .string p, .slice og np pg, .string bd] 26)) := blk_below HBbg_5.out b; have HOs_6 : Hid ((w6).ownsRow w.heap.size 68 2 (.slice os np ps) np (flatF P)) := owns_wide owns hb5.size; have LOs : Hid (∀ g, (Value.ownBlock (.slice os np ps)) = some g → (w4.drew).heap.size ≤ g) := fun g hg => owns_ge owns hg; have HIs : Hid (∀ g, (Value.ownBlock (.slice os np ps)) = some g → g < (w6).heap.size) := fun g hg => owns_lt owns hg; clear owns; have hSS6 : (w6.cell? ⟨qbg, 0, none⟩ = some (.int .i64 m) ∧ w6.cell? ⟨qbg, 1, none⟩ = some (.string p) ∧ w6.cell? ⟨qbg, 2, none⟩ = some (.slice og np pg) ∧ w6.cell? ⟨qbg, 3, none⟩ = some (.string bd)) ∧ (w6.cell? ⟨qbq, 0, none⟩ = some (.int .i64 m) ∧ w6.cell? ⟨qbq, 1, none⟩ = some (.string p) ∧ w6.cell? ⟨qbq, 2, none⟩ = some (.slice oq fs.length pq) ∧ w6.cell? ⟨qbq, 3, none⟩ = some (.string bd)) := ⟨(four_facts HBbg_6.out).1, (four_facts HBbq_6.out).1⟩; clear hb5 HOq_5 HOu_5 HOg_5 HBbq_5 HBbg_5 b) | (go_at_call 12; refine (sameFields_any _ _ np _ _ P _ (FieldsV.of_owns HOg_6.out) (FieldsV.of_owns HOs_6.out) (by omega)).mono ?_; rintro e w7 ⟨rfl, b⟩; have hb7 : Below w.heap.size w (w7) := hb6.trans (b.mono hb6.size); have HM7 : Hid ((w6).heap.size ≤ (w7).heap.size) := b.size; have HOq_7 : Hid ((w7).ownsRow w.heap.size 68 2 (.slice oq fs.length pq) fs.length (flatF fs)) := owns_below HOq_6.out b (fun g hg => owns_lt HOq_6.out hg); have HOu_7 : Hid ((w7).ownsRow w.heap.size 68 2 (.slice ou gs.length pu) gs.length (flatF gs)) := owns_below HOu_6.out b (fun g hg => owns_lt HOu_6.out hg); have HOg_7 : Hid ((w7).ownsRow w.heap.size 68 2 (.slice og np pg) np (flatF P)) := owns_below HOg_6.out b (fun g hg => owns_lt HOg_6.out hg); have HOs_7 : Hid ((w7).ownsRow w.heap.size 68 2 (.slice os np ps) np (flatF P)) := owns_below HOs_6.out b (fun g hg => owns_lt HOs_6.out hg); have HBbq_7 : Hid ((w7).heap[qbq]? = some (.cells #[.int .i64 m, .string p, .slice oq fs.length pq, .string bd] 26)) := blk_below HBbq_6.out b; have HBbg_7 : Hid ((w7).heap[qbg]? = some (.cells #[.int .i64 m, .string p, .slice og np pg, .string bd] 26)) := blk_below HBbg_6.out b; have hSS7 : (w7.cell? ⟨qbg, 0, none⟩ = some (.int .i64 m) ∧ w7.cell? ⟨qbg, 1, none⟩ = some (.string p) ∧ w7.cell? ⟨qbg, 2, none⟩ = some (.slice og np pg) ∧ w7.cell? ⟨qbg, 3, none⟩ = some (.string bd)) ∧ (w7.cell? ⟨qbq, 0, none⟩ = some (.int .i64 m) ∧ w7.cell? ⟨qbq, 1, none⟩ = some (.string p) ∧ w7.cell? ⟨qbq, 2, none⟩ = some (.slice oq fs.length pq) ∧ w7.cell? ⟨qbq, 3, none⟩ = some (.string bd)) := ⟨(four_facts HBbg_7.out).1, (four_facts HBbq_7.out).1⟩; clear hb6 HOq_6 HOu_6 HOg_6 HOs_6 HBbq_6 HBbg_6 b; clear HOs_7))
  clear hSS7
  clear hmm hpp hfd
  go_wp2_with fail
  refine (drawSame_any a0 len0 cap0 z0 _ (HCODE.out _ hb7)).mono ?_
  rintro e w8 ⟨m2, p2, vq2, fs2, bd2, vu2, gs2, rfl, hp2, ownq2, hfl2, hsh2, hbs2, ownu2, hgl2, hgsh2, b⟩
  obtain ⟨oq2, pq2, rfl⟩ := slice_of_owns ownq2
  obtain ⟨ou2, pu2, rfl⟩ := slice_of_owns ownu2
  have hb8 : Below w.heap.size w (w8) := hb7.trans (b.mono hb7.size)
  have HM8 : Hid ((w7).heap.size ≤ (w8).heap.size) := b.size
  have HOq_8 : Hid ((w8).ownsRow w.heap.size 68 2 (.slice oq fs.length pq) fs.length (flatF fs)) := owns_below HOq_7.out b (fun g hg => owns_lt HOq_7.out hg)
  have HOu_8 : Hid ((w8).ownsRow w.heap.size 68 2 (.slice ou gs.length pu) gs.length (flatF gs)) := owns_below HOu_7.out b (fun g hg => owns_lt HOu_7.out hg)
  have HOg_8 : Hid ((w8).ownsRow w.heap.size 68 2 (.slice og np pg) np (flatF P)) := owns_below HOg_7.out b (fun g hg => owns_lt HOg_7.out hg)
  have HBbq_8 : Hid ((w8).heap[qbq]? = some (.cells #[.int .i64 m, .string p, .slice oq fs.length pq, .string bd] 26)) := blk_below HBbq_7.out b
  have HBbg_8 : Hid ((w8).heap[qbg]? = some (.cells #[.int .i64 m, .string p, .slice og np pg, .string bd] 26)) := blk_below HBbg_7.out b
  have HOq2_8 : Hid ((w8).ownsRow w.heap.size 68 2 (.slice oq2 fs2.length pq2) fs2.length (flatF fs2)) := owns_wide ownq2 hb7.size
  have LOq2 : Hid (∀ g, (Value.ownBlock (.slice oq2 fs2.length pq2)) = some g → (w7).heap.size ≤ g) := fun g hg => owns_ge ownq2 hg
  have HIq2 : Hid (∀ g, (Value.ownBlock (.slice oq2 fs2.length pq2)) = some g → g < (w8).heap.size) := fun g hg => owns_lt ownq2 hg
  clear ownq2
  have HOu2_8 : Hid ((w8).ownsRow w.heap.size 68 2 (.slice ou2 gs2.length pu2) gs2.length (flatF gs2)) := owns_wide ownu2 hb7.size
  have LOu2 : Hid (∀ g, (Value.ownBlock (.slice ou2 gs2.length pu2)) = some g → (w7).heap.size ≤ g) := fun g hg => owns_ge ownu2 hg
  have HIu2 : Hid (∀ g, (Value.ownBlock (.slice ou2 gs2.length pu2)) = some g → g < (w8).heap.size) := fun g hg => owns_lt ownu2 hg
  clear ownu2
  clear hb7 HOq_7 HOu_7 HOg_7 HBbq_7 HBbg_7 b
  go_upto_region 8 with fail
  obtain ⟨qbq2, hqbq2⟩ : ∃ q, q = (w8).heap.size := ⟨_, rfl⟩
  obtain ⟨w9, hW9⟩ : ∃ W, W = (w8).alloc (.cells #[.int .i64 m2, .string p2, .slice oq2 fs2.length pq2, .string bd2] 26) := ⟨_, rfl⟩
  rw [← hW9, ← hqbq2]
  have b : Below (w8).heap.size (w8) w9 := by rw [hW9]; exact (Below.refl _ _).alloc (Nat.le_refl _) _
  have hb9 : Below w.heap.size w (w9) := hb8.trans (b.mono hb8.size)
  have HM9 : Hid ((w8).heap.size ≤ (w9).heap.size) := b.size
  have HOq_9 : Hid ((w9).ownsRow w.heap.size 68 2 (.slice oq fs.length pq) fs.length (flatF fs)) := owns_below HOq_8.out b (fun g hg => owns_lt HOq_8.out hg)
  have HOu_9 : Hid ((w9).ownsRow w.heap.size 68 2 (.slice ou gs.length pu) gs.length (flatF gs)) := owns_below HOu_8.out b (fun g hg => owns_lt HOu_8.out hg)
  have HOg_9 : Hid ((w9).ownsRow w.heap.size 68 2 (.slice og np pg) np (flatF P)) := owns_below HOg_8.out b (fun g hg => owns_lt HOg_8.out hg)
  have HOq2_9 : Hid ((w9).ownsRow w.heap.size 68 2 (.slice oq2 fs2.length pq2) fs2.length (flatF fs2)) := owns_below HOq2_8.out b (fun g hg => owns_lt HOq2_8.out hg)
  have HOu2_9 : Hid ((w9).ownsRow w.heap.size 68 2 (.slice ou2 gs2.length pu2) gs2.length (flatF gs2)) := owns_below HOu2_8.out b (fun g hg => owns_lt HOu2_8.out hg)
  have HBbq_9 : Hid ((w9).heap[qbq]? = some (.cells #[.int .i64 m, .string p, .slice oq fs.length pq, .string bd] 26)) := blk_below HBbq_8.out b
  have HBbg_9 : Hid ((w9).heap[qbg]? = some (.cells #[.int .i64 m, .string p, .slice og np pg, .string bd] 26)) := blk_below HBbg_8.out b
  have HBbq2_9 : Hid ((w9).heap[qbq2]? = some (.cells #[.int .i64 m2, .string p2, .slice oq2 fs2.length pq2, .string bd2] 26)) := by show _ = _; rw [hW9, hqbq2]; exact heap_alloc_new _ _
  clear hb8 HOq_8 HOu_8 HOg_8 HOq2_8 HOu2_8 HBbq_8 HBbg_8 b hW9 hqbq2
  go_wp2_with fail
  refine (drawShort_any a0 len0 cap0 z0 _ (HCODE.out _ hb9)).mono ?_
  rintro e w10 ⟨st, vx, hs, dd, rfl, hst, ownx, hxl, hxsh, hdd, b⟩
  obtain ⟨ox, px, rfl⟩ := slice_of_owns ownx
  have hb10 : Below w.heap.size w (w10) := hb9.trans (b.mono hb9.size)
  have HM10 : Hid ((w9).heap.size ≤ (w10).heap.size) := b.size
  have HOq_10 : Hid ((w10).ownsRow w.heap.size 68 2 (.slice oq fs.length pq) fs.length (flatF fs)) := owns_below HOq_9.out b (fun g hg => owns_lt HOq_9.out hg)
  have HOu_10 : Hid ((w10).ownsRow w.heap.size 68 2 (.slice ou gs.length pu) gs.length (flatF gs)) := owns_below HOu_9.out b (fun g hg => owns_lt HOu_9.out hg)
  have HOg_10 : Hid ((w10).ownsRow w.heap.size 68 2 (.slice og np pg) np (flatF P)) := owns_below HOg_9.out b (fun g hg => owns_lt HOg_9.out hg)
  have HOq2_10 : Hid ((w10).ownsRow w.heap.size 68 2 (.slice oq2 fs2.length pq2) fs2.length (flatF fs2)) := owns_below HOq2_9.out b (fun g hg => owns_lt HOq2_9.out hg)
  have HOu2_10 : Hid ((w10).ownsRow w.heap.size 68 2 (.slice ou2 gs2.length pu2) gs2.length (flatF gs2)) := owns_below HOu2_9.out b (fun g hg => owns_lt HOu2_9.out hg)
  have HBbq_10 : Hid ((w10).heap[qbq]? = some (.cells #[.int .i64 m, .string p, .slice oq fs.length pq, .string bd] 26)) := blk_below HBbq_9.out b
  have HBbg_10 : Hid ((w10).heap[qbg]? = some (.cells #[.int .i64 m, .string p, .slice og np pg, .string bd] 26)) := blk_below HBbg_9.out b
  have HBbq2_10 : Hid ((w10).heap[qbq2]? = some (.cells #[.int .i64 m2, .string p2, .slice oq2 fs2.length pq2, .string bd2] 26)) := blk_below HBbq2_9.out b
  have HOx_10 : Hid ((w10).ownsRow w.heap.size 68 2 (.slice ox hs.length px) hs.length (flatF hs)) := owns_wide ownx hb9.size
  have LOx : Hid (∀ g, (Value.ownBlock (.slice ox hs.length px)) = some g → (w9).heap.size ≤ g) := fun g hg => owns_ge ownx hg
  have HIx : Hid (∀ g, (Value.ownBlock (.slice ox hs.length px)) = some g → g < (w10).heap.size) := fun g hg => owns_lt ownx hg
  clear ownx
  clear hb9 HOq_9 HOu_9 HOg_9 HOq2_9 HOu2_9 HBbq_9 HBbg_9 HBbq2_9 b
  go_upto_region 9 with fail
  obtain ⟨qbx, hqbx⟩ : ∃ q, q = (w10).heap.size := ⟨_, rfl⟩
  obtain ⟨w11, hW11⟩ : ∃ W, W = (w10).alloc (.cells #[.int .i64 st, .slice ox hs.length px, .string dd] 32) := ⟨_, rfl⟩
  rw [← hW11, ← hqbx]
  have b : Below (w10).heap.size (w10) w11 := by rw [hW11]; exact (Below.refl _ _).alloc (Nat.le_refl _) _
  have hb11 : Below w.heap.size w (w11) := hb10.trans (b.mono hb10.size)
  have HM11 : Hid ((w10).heap.size ≤ (w11).heap.size) := b.size
  have HOq_11 : Hid ((w11).ownsRow w.heap.size 68 2 (.slice oq fs.length pq) fs.length (flatF fs)) := owns_below HOq_10.out b (fun g hg => owns_lt HOq_10.out hg)
  have HOu_11 : Hid ((w11).ownsRow w.heap.size 68 2 (.slice ou gs.length pu) gs.length (flatF gs)) := owns_below HOu_10.out b (fun g hg => owns_lt HOu_10.out hg)
  have HOg_11 : Hid ((w11).ownsRow w.heap.size 68 2 (.slice og np pg) np (flatF P)) := owns_below HOg_10.out b (fun g hg => owns_lt HOg_10.out hg)
  have HOq2_11 : Hid ((w11).ownsRow w.heap.size 68 2 (.slice oq2 fs2.length pq2) fs2.length (flatF fs2)) := owns_below HOq2_10.out b (fun g hg => owns_lt HOq2_10.out hg)
  have HOu2_11 : Hid ((w11).ownsRow w.heap.size 68 2 (.slice ou2 gs2.length pu2) gs2.length (flatF gs2)) := owns_below HOu2_10.out b (fun g hg => owns_lt HOu2_10.out hg)
  have HOx_11 : Hid ((w11).ownsRow w.heap.size 68 2 (.slice ox hs.length px) hs.length (flatF hs)) := owns_below HOx_10.out b (fun g hg => owns_lt HOx_10.out hg)
  have HBbq_11 : Hid ((w11).heap[qbq]? = some (.cells #[.int .i64 m, .string p, .slice oq fs.length pq, .string bd] 26)) := blk_below HBbq_10.out b
  have HBbg_11 : Hid ((w11).heap[qbg]? = some (.cells #[.int .i64 m, .string p, .slice og np pg, .string bd] 26)) := blk_below HBbg_10.out b
  have HBbq2_11 : Hid ((w11).heap[qbq2]? = some (.cells #[.int .i64 m2, .string p2, .slice oq2 fs2.length pq2, .string bd2] 26)) := blk_below HBbq2_10.out b
  have HBbx_11 : Hid ((w11).heap[qbx]? = some (.cells #[.int .i64 st, .slice ox hs.length px, .string dd] 32)) := by show _ = _; rw [hW11, hqbx]; exact heap_alloc_new _ _
  clear hb10 HOq_10 HOu_10 HOg_10 HOq2_10 HOu2_10 HOx_10 HBbq_10 HBbg_10 HBbq2_10 b hW11 hqbx
  obtain ⟨Q, hQ⟩ : ∃ P, P = shortF hs := ⟨_, rfl⟩
  obtain ⟨nq, hnq⟩ : ∃ m, m = Q.length := ⟨_, rfl⟩
  have hnq2 : nq ≤ 40 := by
    rw [hnq, hQ]
    have h1 := shortF_le hs
    omega
  have HSH : Hid (∀ (u0 : Value) (B0 : Nat) (W : World), FieldsV W B0 u0 hs.length hs → Calls Try.prog 19 #[.agg #[.int .i64 st, u0, .string dd]] W fun e w' => ∃ v, e = .returned (.agg #[.int .i64 304, v, .string ⟨#[]⟩]) ∧ w'.ownsRow W.heap.size 68 2 v nq (flatF Q) ∧ Below W.heap.size W w') := by
    intro u0 B0 W h0
    rw [hnq, hQ]
    exact specShort_any st u0 dd hs.length B0 hs W h0 (by omega)
  have HIH : Hid (∀ (u0 : Value) (B0 : Nat) (W : World), FieldsV W B0 u0 hs.length hs → Calls Try.prog 16 #[.agg #[.int .i64 st, u0, .string dd]] W fun e w' => ∃ v, e = .returned (.agg #[.int .i64 304, v, .string ⟨#[]⟩]) ∧ w'.ownsRow W.heap.size 68 2 v nq (flatF Q) ∧ Below W.heap.size W w') := by
    intro u0 B0 W h0
    rw [hnq, hQ]
    exact implShort_any st u0 dd hs.length B0 hs W h0 (by omega) hxsh.copy
  clear hQ hnq
  obtain ⟨sm, hsm⟩ : ∃ b, b = decide (SameP fs2 gs2) := ⟨_, rfl⟩
  have HSS1 : Hid (∀ (u0 u1 : Value) (B0 B1 : Nat) (W : World), FieldsV W B0 u0 fs2.length fs2 → FieldsV W B1 u1 gs2.length gs2 → Calls Try.prog 18 #[.agg #[.int .i64 m2, .string p2, u0, .string bd2], u1] W fun e w' => e = .returned (.bool sm) ∧ Below W.heap.size W w') := by
    intro u0 u1 B0 B1 W h0 h1
    rw [hsm]
    exact bool_is (specSame_any m2 p2 u0 bd2 fs2.length B0 fs2 u1 gs2.length B1 gs2 W h0 (by omega) h1 (by omega))
  have HIS1 : Hid (∀ (u0 u1 : Value) (B0 B1 : Nat) (W : World), FieldsV W B0 u0 fs2.length fs2 → FieldsV W B1 u1 gs2.length gs2 → Calls Try.prog 17 #[.agg #[.int .i64 m2, .string p2, u0, .string bd2], u1] W fun e w' => e = .returned (.bool sm) ∧ Below W.heap.size W w') := by
    intro u0 u1 B0 B1 W h0 h1
    rw [hsm]
    exact bool_is (implSame_any m2 p2 u0 bd2 fs2.length B0 fs2 u1 gs2.length B1 gs2 W h0 (by omega) h1 (by omega) hsh2.copy hgsh2.copy)
  clear hsm
  have hfr := fun o n c W => field_resp1 304 o n c ⟨#[]⟩ W
  have hss : (sm != sm) = false := by simp
  have hee : ((⟨#[]⟩ : ByteArray).toList != ([] : List UInt8)) = false := by rw [ByteArray.toList_eq]; rfl
  obtain ⟨⟨cbx0, cbx1, cbx2⟩, _⟩ := three_facts HBbx_11.out
  go_wp2_with fail
  refine (HIH.out _ _ _ (FieldsV.of_owns HOx_11.out)).mono ?_
  rintro e w12 ⟨vy, rfl, owny, b⟩
  obtain ⟨oy, py, rfl⟩ := slice_of_owns owny
  have hb12 : Below w.heap.size w (w12) := hb11.trans (b.mono hb11.size)
  have HM12 : Hid ((w11).heap.size ≤ (w12).heap.size) := b.size
  have HOq_12 : Hid ((w12).ownsRow w.heap.size 68 2 (.slice oq fs.length pq) fs.length (flatF fs)) := owns_below HOq_11.out b (fun g hg => owns_lt HOq_11.out hg)
  have HOu_12 : Hid ((w12).ownsRow w.heap.size 68 2 (.slice ou gs.length pu) gs.length (flatF gs)) := owns_below HOu_11.out b (fun g hg => owns_lt HOu_11.out hg)
  have HOg_12 : Hid ((w12).ownsRow w.heap.size 68 2 (.slice og np pg) np (flatF P)) := owns_below HOg_11.out b (fun g hg => owns_lt HOg_11.out hg)
  have HOq2_12 : Hid ((w12).ownsRow w.heap.size 68 2 (.slice oq2 fs2.length pq2) fs2.length (flatF fs2)) := owns_below HOq2_11.out b (fun g hg => owns_lt HOq2_11.out hg)
  have HOu2_12 : Hid ((w12).ownsRow w.heap.size 68 2 (.slice ou2 gs2.length pu2) gs2.length (flatF gs2)) := owns_below HOu2_11.out b (fun g hg => owns_lt HOu2_11.out hg)
  have HOx_12 : Hid ((w12).ownsRow w.heap.size 68 2 (.slice ox hs.length px) hs.length (flatF hs)) := owns_below HOx_11.out b (fun g hg => owns_lt HOx_11.out hg)
  have HBbq_12 : Hid ((w12).heap[qbq]? = some (.cells #[.int .i64 m, .string p, .slice oq fs.length pq, .string bd] 26)) := blk_below HBbq_11.out b
  have HBbg_12 : Hid ((w12).heap[qbg]? = some (.cells #[.int .i64 m, .string p, .slice og np pg, .string bd] 26)) := blk_below HBbg_11.out b
  have HBbq2_12 : Hid ((w12).heap[qbq2]? = some (.cells #[.int .i64 m2, .string p2, .slice oq2 fs2.length pq2, .string bd2] 26)) := blk_below HBbq2_11.out b
  have HBbx_12 : Hid ((w12).heap[qbx]? = some (.cells #[.int .i64 st, .slice ox hs.length px, .string dd] 32)) := blk_below HBbx_11.out b
  have HOy_12 : Hid ((w12).ownsRow w.heap.size 68 2 (.slice oy nq py) nq (flatF Q)) := owns_wide owny hb11.size
  have LOy : Hid (∀ g, (Value.ownBlock (.slice oy nq py)) = some g → (w11).heap.size ≤ g) := fun g hg => owns_ge owny hg
  have HIy : Hid (∀ g, (Value.ownBlock (.slice oy nq py)) = some g → g < (w12).heap.size) := fun g hg => owns_lt owny hg
  clear owny
  clear hb11 HOq_11 HOu_11 HOg_11 HOq2_11 HOu2_11 HOx_11 HBbq_11 HBbg_11 HBbq2_11 HBbx_11 cbx0 cbx1 cbx2 b
  go_upto_region 10 with fail
  obtain ⟨qby, hqby⟩ : ∃ q, q = (w12).heap.size := ⟨_, rfl⟩
  obtain ⟨w13, hW13⟩ : ∃ W, W = (w12).alloc (.cells #[.int .i64 304, .slice oy nq py, .string ⟨#[]⟩] 32) := ⟨_, rfl⟩
  rw [← hW13, ← hqby]
  have b : Below (w12).heap.size (w12) w13 := by rw [hW13]; exact (Below.refl _ _).alloc (Nat.le_refl _) _
  have hb13 : Below w.heap.size w (w13) := hb12.trans (b.mono hb12.size)
  have HM13 : Hid ((w12).heap.size ≤ (w13).heap.size) := b.size
  have HOq_13 : Hid ((w13).ownsRow w.heap.size 68 2 (.slice oq fs.length pq) fs.length (flatF fs)) := owns_below HOq_12.out b (fun g hg => owns_lt HOq_12.out hg)
  have HOu_13 : Hid ((w13).ownsRow w.heap.size 68 2 (.slice ou gs.length pu) gs.length (flatF gs)) := owns_below HOu_12.out b (fun g hg => owns_lt HOu_12.out hg)
  have HOg_13 : Hid ((w13).ownsRow w.heap.size 68 2 (.slice og np pg) np (flatF P)) := owns_below HOg_12.out b (fun g hg => owns_lt HOg_12.out hg)
  have HOq2_13 : Hid ((w13).ownsRow w.heap.size 68 2 (.slice oq2 fs2.length pq2) fs2.length (flatF fs2)) := owns_below HOq2_12.out b (fun g hg => owns_lt HOq2_12.out hg)
  have HOu2_13 : Hid ((w13).ownsRow w.heap.size 68 2 (.slice ou2 gs2.length pu2) gs2.length (flatF gs2)) := owns_below HOu2_12.out b (fun g hg => owns_lt HOu2_12.out hg)
  have HOx_13 : Hid ((w13).ownsRow w.heap.size 68 2 (.slice ox hs.length px) hs.length (flatF hs)) := owns_below HOx_12.out b (fun g hg => owns_lt HOx_12.out hg)
  have HOy_13 : Hid ((w13).ownsRow w.heap.size 68 2 (.slice oy nq py) nq (flatF Q)) := owns_below HOy_12.out b (fun g hg => owns_lt HOy_12.out hg)
  have HBbq_13 : Hid ((w13).heap[qbq]? = some (.cells #[.int .i64 m, .string p, .slice oq fs.length pq, .string bd] 26)) := blk_below HBbq_12.out b
  have HBbg_13 : Hid ((w13).heap[qbg]? = some (.cells #[.int .i64 m, .string p, .slice og np pg, .string bd] 26)) := blk_below HBbg_12.out b
  have HBbq2_13 : Hid ((w13).heap[qbq2]? = some (.cells #[.int .i64 m2, .string p2, .slice oq2 fs2.length pq2, .string bd2] 26)) := blk_below HBbq2_12.out b
  have HBbx_13 : Hid ((w13).heap[qbx]? = some (.cells #[.int .i64 st, .slice ox hs.length px, .string dd] 32)) := blk_below HBbx_12.out b
  have HBby_13 : Hid ((w13).heap[qby]? = some (.cells #[.int .i64 304, .slice oy nq py, .string ⟨#[]⟩] 32)) := by show _ = _; rw [hW13, hqby]; exact heap_alloc_new _ _
  clear hb12 HOq_12 HOu_12 HOg_12 HOq2_12 HOu2_12 HOx_12 HOy_12 HBbq_12 HBbg_12 HBbq2_12 HBbx_12 b hW13 hqby
  have bd14 : Below (w13).heap.size (w13) (w13).drew := (Below.refl _ _).drew
  have hb14 : Below w.heap.size w (w13.drew) := hb13.trans (bd14.mono hb13.size)
  have HM14 : Hid ((w13).heap.size ≤ (w13.drew).heap.size) := bd14.size
  have HOq_14 : Hid ((w13.drew).ownsRow w.heap.size 68 2 (.slice oq fs.length pq) fs.length (flatF fs)) := owns_below HOq_13.out bd14 (fun g hg => owns_lt HOq_13.out hg)
  have HOu_14 : Hid ((w13.drew).ownsRow w.heap.size 68 2 (.slice ou gs.length pu) gs.length (flatF gs)) := owns_below HOu_13.out bd14 (fun g hg => owns_lt HOu_13.out hg)
  have HOg_14 : Hid ((w13.drew).ownsRow w.heap.size 68 2 (.slice og np pg) np (flatF P)) := owns_below HOg_13.out bd14 (fun g hg => owns_lt HOg_13.out hg)
  have HOq2_14 : Hid ((w13.drew).ownsRow w.heap.size 68 2 (.slice oq2 fs2.length pq2) fs2.length (flatF fs2)) := owns_below HOq2_13.out bd14 (fun g hg => owns_lt HOq2_13.out hg)
  have HOu2_14 : Hid ((w13.drew).ownsRow w.heap.size 68 2 (.slice ou2 gs2.length pu2) gs2.length (flatF gs2)) := owns_below HOu2_13.out bd14 (fun g hg => owns_lt HOu2_13.out hg)
  have HOx_14 : Hid ((w13.drew).ownsRow w.heap.size 68 2 (.slice ox hs.length px) hs.length (flatF hs)) := owns_below HOx_13.out bd14 (fun g hg => owns_lt HOx_13.out hg)
  have HOy_14 : Hid ((w13.drew).ownsRow w.heap.size 68 2 (.slice oy nq py) nq (flatF Q)) := owns_below HOy_13.out bd14 (fun g hg => owns_lt HOy_13.out hg)
  have HBbq_14 : Hid ((w13.drew).heap[qbq]? = some (.cells #[.int .i64 m, .string p, .slice oq fs.length pq, .string bd] 26)) := blk_below HBbq_13.out bd14
  have HBbg_14 : Hid ((w13.drew).heap[qbg]? = some (.cells #[.int .i64 m, .string p, .slice og np pg, .string bd] 26)) := blk_below HBbg_13.out bd14
  have HBbq2_14 : Hid ((w13.drew).heap[qbq2]? = some (.cells #[.int .i64 m2, .string p2, .slice oq2 fs2.length pq2, .string bd2] 26)) := blk_below HBbq2_13.out bd14
  have HBbx_14 : Hid ((w13.drew).heap[qbx]? = some (.cells #[.int .i64 st, .slice ox hs.length px, .string dd] 32)) := blk_below HBbx_13.out bd14
  have HBby_14 : Hid ((w13.drew).heap[qby]? = some (.cells #[.int .i64 304, .slice oy nq py, .string ⟨#[]⟩] 32)) := blk_below HBby_13.out bd14
  obtain ⟨⟨cbq20, cbq21, cbq22, cbq23⟩, _⟩ := four_facts HBbq2_13.out
  obtain ⟨⟨cby0, cby1, cby2⟩, _⟩ := three_facts HBby_13.out
  obtain ⟨⟨cbx0, cbx1, cbx2⟩, _⟩ := three_facts HBbx_13.out
  clear hb13 HOq_13 HOu_13 HOg_13 HOq2_13 HOu2_13 HOx_13 HOy_13 HBbq_13 HBbg_13 HBbq2_13 HBbx_13 HBby_13 bd14
  go_wp2_with fail
  go_region_held3 (fun W => (W.cell? ⟨qbq2, 0, none⟩ = some (.int .i64 m2) ∧ W.cell? ⟨qbq2, 1, none⟩ = some (.string p2) ∧ W.cell? ⟨qbq2, 2, none⟩ = some (.slice oq2 fs2.length pq2) ∧ W.cell? ⟨qbq2, 3, none⟩ = some (.string bd2)) ∧ (W.cell? ⟨qby, 0, none⟩ = some (.int .i64 304) ∧ W.cell? ⟨qby, 1, none⟩ = some (.slice oy nq py) ∧ W.cell? ⟨qby, 2, none⟩ = some (.string ⟨#[]⟩)) ∧ (W.cell? ⟨qbx, 0, none⟩ = some (.int .i64 st) ∧ W.cell? ⟨qbx, 1, none⟩ = some (.slice ox hs.length px) ∧ W.cell? ⟨qbx, 2, none⟩ = some (.string dd))) (first | assumption | go_keep) (first | (go_at_call 17; refine (HIS1.out _ _ _ _ _ (FieldsV.of_owns HOq2_14.out) (FieldsV.of_owns HOu2_14.out)).mono ?_; rintro e w15 ⟨rfl, b⟩; have hb15 : Below w.heap.size w (w15) := hb14.trans (b.mono hb14.size); have HM15 : Hid ((w13.drew).heap.size ≤ (w15).heap.size) := b.size; have HOq_15 : Hid ((w15).ownsRow w.heap.size 68 2 (.slice oq fs.length pq) fs.length (flatF fs)) := owns_below HOq_14.out b (fun g hg => owns_lt HOq_14.out hg); have HOu_15 : Hid ((w15).ownsRow w.heap.size 68 2 (.slice ou gs.length pu) gs.length (flatF gs)) := owns_below HOu_14.out b (fun g hg => owns_lt HOu_14.out hg); have HOg_15 : Hid ((w15).ownsRow w.heap.size 68 2 (.slice og np pg) np (flatF P)) := owns_below HOg_14.out b (fun g hg => owns_lt HOg_14.out hg); have HOq2_15 : Hid ((w15).ownsRow w.heap.size 68 2 (.slice oq2 fs2.length pq2) fs2.length (flatF fs2)) := owns_below HOq2_14.out b (fun g hg => owns_lt HOq2_14.out hg); have HOu2_15 : Hid ((w15).ownsRow w.heap.size 68 2 (.slice ou2 gs2.length pu2) gs2.length (flatF gs2)) := owns_below HOu2_14.out b (fun g hg => owns_lt HOu2_14.out hg); have HOx_15 : Hid ((w15).ownsRow w.heap.size 68 2 (.slice ox hs.length px) hs.length (flatF hs)) := owns_below HOx_14.out b (fun g hg => owns_lt HOx_14.out hg); have HOy_15 : Hid ((w15).ownsRow w.heap.size 68 2 (.slice oy nq py) nq (flatF Q)) := owns_below HOy_14.out b (fun g hg => owns_lt HOy_14.out hg); have HBbq_15 : Hid ((w15).heap[qbq]? = some (.cells #[.int .i64 m, .string p, .slice oq fs.length pq, .string bd] 26)) := blk_below HBbq_14.out b; have HBbg_15 : Hid ((w15).heap[qbg]? = some (.cells #[.int .i64 m, .string p, .slice og np pg, .string bd] 26)) := blk_below HBbg_14.out b; have HBbq2_15 : Hid ((w15).heap[qbq2]? = some (.cells #[.int .i64 m2, .string p2, .slice oq2 fs2.length pq2, .string bd2] 26)) := blk_below HBbq2_14.out b; have HBbx_15 : Hid ((w15).heap[qbx]? = some (.cells #[.int .i64 st, .slice ox hs.length px, .string dd] 32)) := blk_below HBbx_14.out b; have HBby_15 : Hid ((w15).heap[qby]? = some (.cells #[.int .i64 304, .slice oy nq py, .string ⟨#[]⟩] 32)) := blk_below HBby_14.out b; have hSS15 : (w15.cell? ⟨qbq2, 0, none⟩ = some (.int .i64 m2) ∧ w15.cell? ⟨qbq2, 1, none⟩ = some (.string p2) ∧ w15.cell? ⟨qbq2, 2, none⟩ = some (.slice oq2 fs2.length pq2) ∧ w15.cell? ⟨qbq2, 3, none⟩ = some (.string bd2)) ∧ (w15.cell? ⟨qby, 0, none⟩ = some (.int .i64 304) ∧ w15.cell? ⟨qby, 1, none⟩ = some (.slice oy nq py) ∧ w15.cell? ⟨qby, 2, none⟩ = some (.string ⟨#[]⟩)) ∧ (w15.cell? ⟨qbx, 0, none⟩ = some (.int .i64 st) ∧ w15.cell? ⟨qbx, 1, none⟩ = some (.slice ox hs.length px) ∧ w15.cell? ⟨qbx, 2, none⟩ = some (.string dd)) := ⟨(four_facts HBbq2_15.out).1, (three_facts HBby_15.out).1, (three_facts HBbx_15.out).1⟩; clear hb14 HOq_14 HOu_14 HOg_14 HOq2_14 HOu2_14 HOx_14 HOy_14 HBbq_14 HBbg_14 HBbq2_14 HBbx_14 HBby_14 b) | (go_at_call 18; refine (HSS1.out _ _ _ _ _ (FieldsV.of_owns HOq2_15.out) (FieldsV.of_owns HOu2_15.out)).mono ?_; rintro e w16 ⟨rfl, b⟩; have hb16 : Below w.heap.size w (w16) := hb15.trans (b.mono hb15.size); have HM16 : Hid ((w15).heap.size ≤ (w16).heap.size) := b.size; have HOq_16 : Hid ((w16).ownsRow w.heap.size 68 2 (.slice oq fs.length pq) fs.length (flatF fs)) := owns_below HOq_15.out b (fun g hg => owns_lt HOq_15.out hg); have HOu_16 : Hid ((w16).ownsRow w.heap.size 68 2 (.slice ou gs.length pu) gs.length (flatF gs)) := owns_below HOu_15.out b (fun g hg => owns_lt HOu_15.out hg); have HOg_16 : Hid ((w16).ownsRow w.heap.size 68 2 (.slice og np pg) np (flatF P)) := owns_below HOg_15.out b (fun g hg => owns_lt HOg_15.out hg); have HOq2_16 : Hid ((w16).ownsRow w.heap.size 68 2 (.slice oq2 fs2.length pq2) fs2.length (flatF fs2)) := owns_below HOq2_15.out b (fun g hg => owns_lt HOq2_15.out hg); have HOu2_16 : Hid ((w16).ownsRow w.heap.size 68 2 (.slice ou2 gs2.length pu2) gs2.length (flatF gs2)) := owns_below HOu2_15.out b (fun g hg => owns_lt HOu2_15.out hg); have HOx_16 : Hid ((w16).ownsRow w.heap.size 68 2 (.slice ox hs.length px) hs.length (flatF hs)) := owns_below HOx_15.out b (fun g hg => owns_lt HOx_15.out hg); have HOy_16 : Hid ((w16).ownsRow w.heap.size 68 2 (.slice oy nq py) nq (flatF Q)) := owns_below HOy_15.out b (fun g hg => owns_lt HOy_15.out hg); have HBbq_16 : Hid ((w16).heap[qbq]? = some (.cells #[.int .i64 m, .string p, .slice oq fs.length pq, .string bd] 26)) := blk_below HBbq_15.out b; have HBbg_16 : Hid ((w16).heap[qbg]? = some (.cells #[.int .i64 m, .string p, .slice og np pg, .string bd] 26)) := blk_below HBbg_15.out b; have HBbq2_16 : Hid ((w16).heap[qbq2]? = some (.cells #[.int .i64 m2, .string p2, .slice oq2 fs2.length pq2, .string bd2] 26)) := blk_below HBbq2_15.out b; have HBbx_16 : Hid ((w16).heap[qbx]? = some (.cells #[.int .i64 st, .slice ox hs.length px, .string dd] 32)) := blk_below HBbx_15.out b; have HBby_16 : Hid ((w16).heap[qby]? = some (.cells #[.int .i64 304, .slice oy nq py, .string ⟨#[]⟩] 32)) := blk_below HBby_15.out b; have hSS16 : (w16.cell? ⟨qbq2, 0, none⟩ = some (.int .i64 m2) ∧ w16.cell? ⟨qbq2, 1, none⟩ = some (.string p2) ∧ w16.cell? ⟨qbq2, 2, none⟩ = some (.slice oq2 fs2.length pq2) ∧ w16.cell? ⟨qbq2, 3, none⟩ = some (.string bd2)) ∧ (w16.cell? ⟨qby, 0, none⟩ = some (.int .i64 304) ∧ w16.cell? ⟨qby, 1, none⟩ = some (.slice oy nq py) ∧ w16.cell? ⟨qby, 2, none⟩ = some (.string ⟨#[]⟩)) ∧ (w16.cell? ⟨qbx, 0, none⟩ = some (.int .i64 st) ∧ w16.cell? ⟨qbx, 1, none⟩ = some (.slice ox hs.length px) ∧ w16.cell? ⟨qbx, 2, none⟩ = some (.string dd)) := ⟨(four_facts HBbq2_16.out).1, (three_facts HBby_16.out).1, (three_facts HBbx_16.out).1⟩; clear hb15 HOq_15 HOu_15 HOg_15 HOq2_15 HOu2_15 HOx_15 HOy_15 HBbq_15 HBbg_15 HBbq2_15 HBbx_15 HBby_15 b) | (go_at_call 19; refine (HSH.out _ _ _ (FieldsV.of_owns HOx_16.out)).mono ?_; rintro e w17 ⟨vz, rfl, ownz, b⟩; obtain ⟨oz, pz, rfl⟩ := slice_of_owns ownz; have hb17 : Below w.heap.size w (w17) := hb16.trans (b.mono hb16.size); have HM17 : Hid ((w16).heap.size ≤ (w17).heap.size) := b.size; have HOq_17 : Hid ((w17).ownsRow w.heap.size 68 2 (.slice oq fs.length pq) fs.length (flatF fs)) := owns_below HOq_16.out b (fun g hg => owns_lt HOq_16.out hg); have HOu_17 : Hid ((w17).ownsRow w.heap.size 68 2 (.slice ou gs.length pu) gs.length (flatF gs)) := owns_below HOu_16.out b (fun g hg => owns_lt HOu_16.out hg); have HOg_17 : Hid ((w17).ownsRow w.heap.size 68 2 (.slice og np pg) np (flatF P)) := owns_below HOg_16.out b (fun g hg => owns_lt HOg_16.out hg); have HOq2_17 : Hid ((w17).ownsRow w.heap.size 68 2 (.slice oq2 fs2.length pq2) fs2.length (flatF fs2)) := owns_below HOq2_16.out b (fun g hg => owns_lt HOq2_16.out hg); have HOu2_17 : Hid ((w17).ownsRow w.heap.size 68 2 (.slice ou2 gs2.length pu2) gs2.length (flatF gs2)) := owns_below HOu2_16.out b (fun g hg => owns_lt HOu2_16.out hg); have HOx_17 : Hid ((w17).ownsRow w.heap.size 68 2 (.slice ox hs.length px) hs.length (flatF hs)) := owns_below HOx_16.out b (fun g hg => owns_lt HOx_16.out hg); have HOy_17 : Hid ((w17).ownsRow w.heap.size 68 2 (.slice oy nq py) nq (flatF Q)) := owns_below HOy_16.out b (fun g hg => owns_lt HOy_16.out hg); have HBbq_17 : Hid ((w17).heap[qbq]? = some (.cells #[.int .i64 m, .string p, .slice oq fs.length pq, .string bd] 26)) := blk_below HBbq_16.out b; have HBbg_17 : Hid ((w17).heap[qbg]? = some (.cells #[.int .i64 m, .string p, .slice og np pg, .string bd] 26)) := blk_below HBbg_16.out b; have HBbq2_17 : Hid ((w17).heap[qbq2]? = some (.cells #[.int .i64 m2, .string p2, .slice oq2 fs2.length pq2, .string bd2] 26)) := blk_below HBbq2_16.out b; have HBbx_17 : Hid ((w17).heap[qbx]? = some (.cells #[.int .i64 st, .slice ox hs.length px, .string dd] 32)) := blk_below HBbx_16.out b; have HBby_17 : Hid ((w17).heap[qby]? = some (.cells #[.int .i64 304, .slice oy nq py, .string ⟨#[]⟩] 32)) := blk_below HBby_16.out b; have HOz_17 : Hid ((w17).ownsRow w.heap.size 68 2 (.slice oz nq pz) nq (flatF Q)) := owns_wide ownz hb16.size; have LOz : Hid (∀ g, (Value.ownBlock (.slice oz nq pz)) = some g → (w16).heap.size ≤ g) := fun g hg => owns_ge ownz hg; have HIz : Hid (∀ g, (Value.ownBlock (.slice oz nq pz)) = some g → g < (w17).heap.size) := fun g hg => owns_lt ownz hg; clear ownz; have hSS17 : (w17.cell? ⟨qbq2, 0, none⟩ = some (.int .i64 m2) ∧ w17.cell? ⟨qbq2, 1, none⟩ = some (.string p2) ∧ w17.cell? ⟨qbq2, 2, none⟩ = some (.slice oq2 fs2.length pq2) ∧ w17.cell? ⟨qbq2, 3, none⟩ = some (.string bd2)) ∧ (w17.cell? ⟨qby, 0, none⟩ = some (.int .i64 304) ∧ w17.cell? ⟨qby, 1, none⟩ = some (.slice oy nq py) ∧ w17.cell? ⟨qby, 2, none⟩ = some (.string ⟨#[]⟩)) ∧ (w17.cell? ⟨qbx, 0, none⟩ = some (.int .i64 st) ∧ w17.cell? ⟨qbx, 1, none⟩ = some (.slice ox hs.length px) ∧ w17.cell? ⟨qbx, 2, none⟩ = some (.string dd)) := ⟨(four_facts HBbq2_17.out).1, (three_facts HBby_17.out).1, (three_facts HBbx_17.out).1⟩; clear hb16 HOq_16 HOu_16 HOg_16 HOq2_16 HOu2_16 HOx_16 HOy_16 HBbq_16 HBbg_16 HBbq2_16 HBbx_16 HBby_16 b) | (go_at_call 12; refine (sameFields_any _ _ nq _ _ Q _ (FieldsV.of_owns HOy_17.out) (FieldsV.of_owns HOz_17.out) (by omega)).mono ?_; rintro e w18 ⟨rfl, b⟩; have hb18 : Below w.heap.size w (w18) := hb17.trans (b.mono hb17.size); have HM18 : Hid ((w17).heap.size ≤ (w18).heap.size) := b.size; have HOq_18 : Hid ((w18).ownsRow w.heap.size 68 2 (.slice oq fs.length pq) fs.length (flatF fs)) := owns_below HOq_17.out b (fun g hg => owns_lt HOq_17.out hg); have HOu_18 : Hid ((w18).ownsRow w.heap.size 68 2 (.slice ou gs.length pu) gs.length (flatF gs)) := owns_below HOu_17.out b (fun g hg => owns_lt HOu_17.out hg); have HOg_18 : Hid ((w18).ownsRow w.heap.size 68 2 (.slice og np pg) np (flatF P)) := owns_below HOg_17.out b (fun g hg => owns_lt HOg_17.out hg); have HOq2_18 : Hid ((w18).ownsRow w.heap.size 68 2 (.slice oq2 fs2.length pq2) fs2.length (flatF fs2)) := owns_below HOq2_17.out b (fun g hg => owns_lt HOq2_17.out hg); have HOu2_18 : Hid ((w18).ownsRow w.heap.size 68 2 (.slice ou2 gs2.length pu2) gs2.length (flatF gs2)) := owns_below HOu2_17.out b (fun g hg => owns_lt HOu2_17.out hg); have HOx_18 : Hid ((w18).ownsRow w.heap.size 68 2 (.slice ox hs.length px) hs.length (flatF hs)) := owns_below HOx_17.out b (fun g hg => owns_lt HOx_17.out hg); have HOy_18 : Hid ((w18).ownsRow w.heap.size 68 2 (.slice oy nq py) nq (flatF Q)) := owns_below HOy_17.out b (fun g hg => owns_lt HOy_17.out hg); have HOz_18 : Hid ((w18).ownsRow w.heap.size 68 2 (.slice oz nq pz) nq (flatF Q)) := owns_below HOz_17.out b (fun g hg => owns_lt HOz_17.out hg); have HBbq_18 : Hid ((w18).heap[qbq]? = some (.cells #[.int .i64 m, .string p, .slice oq fs.length pq, .string bd] 26)) := blk_below HBbq_17.out b; have HBbg_18 : Hid ((w18).heap[qbg]? = some (.cells #[.int .i64 m, .string p, .slice og np pg, .string bd] 26)) := blk_below HBbg_17.out b; have HBbq2_18 : Hid ((w18).heap[qbq2]? = some (.cells #[.int .i64 m2, .string p2, .slice oq2 fs2.length pq2, .string bd2] 26)) := blk_below HBbq2_17.out b; have HBbx_18 : Hid ((w18).heap[qbx]? = some (.cells #[.int .i64 st, .slice ox hs.length px, .string dd] 32)) := blk_below HBbx_17.out b; have HBby_18 : Hid ((w18).heap[qby]? = some (.cells #[.int .i64 304, .slice oy nq py, .string ⟨#[]⟩] 32)) := blk_below HBby_17.out b; have hSS18 : (w18.cell? ⟨qbq2, 0, none⟩ = some (.int .i64 m2) ∧ w18.cell? ⟨qbq2, 1, none⟩ = some (.string p2) ∧ w18.cell? ⟨qbq2, 2, none⟩ = some (.slice oq2 fs2.length pq2) ∧ w18.cell? ⟨qbq2, 3, none⟩ = some (.string bd2)) ∧ (w18.cell? ⟨qby, 0, none⟩ = some (.int .i64 304) ∧ w18.cell? ⟨qby, 1, none⟩ = some (.slice oy nq py) ∧ w18.cell? ⟨qby, 2, none⟩ = some (.string ⟨#[]⟩)) ∧ (w18.cell? ⟨qbx, 0, none⟩ = some (.int .i64 st) ∧ w18.cell? ⟨qbx, 1, none⟩ = some (.slice ox hs.length px) ∧ w18.cell? ⟨qbx, 2, none⟩ = some (.string dd)) := ⟨(four_facts HBbq2_18.out).1, (three_facts HBby_18.out).1, (three_facts HBbx_18.out).1⟩; clear hb17 HOq_17 HOu_17 HOg_17 HOq2_17 HOu2_17 HOx_17 HOy_17 HOz_17 HBbq_17 HBbg_17 HBbq2_17 HBbx_17 HBby_17 b; clear HOz_18))
  clear hSS18
  clear hss hee hfr HSH HIH HSS1 HIS1 HSA HIA
  clear HOq2_18 HOu2_18 HBbq2_18 HOx_18 HBbx_18 HOy_18 HBby_18
  go_wp2_with fail
  refine (implGet_any _ gs.length _ gs tagName _ (FieldsV.of_owns HOu_18.out) (by omega) hgsh.copy).mono ?_
  rintro e w19 ⟨rfl, b⟩
  have hb19 : Below w.heap.size w (w19) := hb18.trans (b.mono hb18.size)
  have HM19 : Hid ((w18).heap.size ≤ (w19).heap.size) := b.size
  have HOq_19 : Hid ((w19).ownsRow w.heap.size 68 2 (.slice oq fs.length pq) fs.length (flatF fs)) := owns_below HOq_18.out b (fun g hg => owns_lt HOq_18.out hg)
  have HOu_19 : Hid ((w19).ownsRow w.heap.size 68 2 (.slice ou gs.length pu) gs.length (flatF gs)) := owns_below HOu_18.out b (fun g hg => owns_lt HOu_18.out hg)
  have HOg_19 : Hid ((w19).ownsRow w.heap.size 68 2 (.slice og np pg) np (flatF P)) := owns_below HOg_18.out b (fun g hg => owns_lt HOg_18.out hg)
  have HBbq_19 : Hid ((w19).heap[qbq]? = some (.cells #[.int .i64 m, .string p, .slice oq fs.length pq, .string bd] 26)) := blk_below HBbq_18.out b
  have HBbg_19 : Hid ((w19).heap[qbg]? = some (.cells #[.int .i64 m, .string p, .slice og np pg, .string bd] 26)) := blk_below HBbg_18.out b
  clear hb18 HOq_18 HOu_18 HOg_18 HBbq_18 HBbg_18 b
  obtain ⟨tg, htg⟩ : ∃ t, t = getV gs tagName := ⟨_, rfl⟩
  obtain ⟨ok, hok⟩ : ∃ t, t = getB gs tagName := ⟨_, rfl⟩
  rw [← htg, ← hok] at HPT ⊢
  have HTG : Hid (tg = getV gs tagName ∧ ok = getB gs tagName) := ⟨htg, hok⟩
  clear htg hok
  obtain ⟨⟨cbg0, cbg1, cbg2, cbg3⟩, _⟩ := four_facts HBbg_19.out
  go_wp2_with fail
  refine (implGet_any _ np _ P inmName _ (FieldsV.of_owns HOg_19.out) (by omega) HPS.out.copy).mono ?_
  rintro e w20 ⟨rfl, b⟩
  have hb20 : Below w.heap.size w (w20) := hb19.trans (b.mono hb19.size)
  have HM20 : Hid ((w19).heap.size ≤ (w20).heap.size) := b.size
  have HOq_20 : Hid ((w20).ownsRow w.heap.size 68 2 (.slice oq fs.length pq) fs.length (flatF fs)) := owns_below HOq_19.out b (fun g hg => owns_lt HOq_19.out hg)
  have HOu_20 : Hid ((w20).ownsRow w.heap.size 68 2 (.slice ou gs.length pu) gs.length (flatF gs)) := owns_below HOu_19.out b (fun g hg => owns_lt HOu_19.out hg)
  have HOg_20 : Hid ((w20).ownsRow w.heap.size 68 2 (.slice og np pg) np (flatF P)) := owns_below HOg_19.out b (fun g hg => owns_lt HOg_19.out hg)
  have HBbq_20 : Hid ((w20).heap[qbq]? = some (.cells #[.int .i64 m, .string p, .slice oq fs.length pq, .string bd] 26)) := blk_below HBbq_19.out b
  have HBbg_20 : Hid ((w20).heap[qbg]? = some (.cells #[.int .i64 m, .string p, .slice og np pg, .string bd] 26)) := blk_below HBbg_19.out b
  clear hb19 HOq_19 HOu_19 HOg_19 HBbq_19 HBbg_19 cbg0 cbg1 cbg2 cbg3 b
  obtain ⟨tv, htv⟩ : ∃ t, t = getV P inmName := ⟨_, rfl⟩
  obtain ⟨there, hth⟩ : ∃ t, t = getB P inmName := ⟨_, rfl⟩
  have HSP : Hid (there = true → ok = true → tv = tg → SameP P gs) := fun h1 h2 h3 => ⟨by rw [← hth]; exact h1, by rw [← HTG.out.2]; exact h2, by rw [← htv, h3]; exact HTG.out.1⟩
  rw [← htv, ← hth] at HPT ⊢
  clear HTG htv hth
  obtain ⟨⟨cq0, cq1, cq2, cq3⟩, _⟩ := four_facts HBbq_20.out
  go_wp2_with fail
  refine (implReqOk_any m p _ bd fs.length _ fs _ (FieldsV.of_owns HOq_20.out) (by omega) (shortWalk hsh) (by unfold maxLen; omega) (by unfold maxLen; omega)).mono ?_
  rintro e v1 ⟨t1, rfl, ht1, b⟩
  have hc1 : Below w.heap.size w v1 := hb20.trans (b.mono hb20.size)
  have HG1 : Hid ((v1).ownsRow w.heap.size 68 2 (.slice og np pg) np (flatF P)) := owns_below HOg_20.out b (fun g hg => owns_lt HOg_20.out hg)
  have HU1 : Hid ((v1).ownsRow w.heap.size 68 2 (.slice ou gs.length pu) gs.length (flatF gs)) := owns_below HOu_20.out b (fun g hg => owns_lt HOu_20.out hg)
  have HC1 : Hid ((v1).heap[qbg]? = some (.cells #[.int .i64 m, .string p, .slice og np pg, .string bd] 26)) := blk_below HBbg_20.out b
  clear b cq0 cq1 cq2 cq3 hb20 HOq_20 HOu_20 HOg_20 HBbq_20 HBbg_20
  cases t1 with
  | false =>
    clear ht1 HPT HSP HPR
    go_wp2_with fail
    go_ret
    exact ⟨rfl, hc1⟩
  | true =>
    have HQ : Hid (ReqP m p fs bd) := ht1.1 rfl
    have HWP : Hid (WalkF np P) := by have h := shortWalk HPS.out; rw [HNP.out] at h; exact h
    have hfp := FieldsV.of_owns HG1.out
    obtain ⟨⟨d0, d1, d2, d3⟩, _⟩ := four_facts HC1.out
    clear ht1
    go_wp2_with fail
    refine (implReqOk_any m p _ bd np _ P _ hfp (by omega) HWP.out (by unfold maxLen; omega) (by unfold maxLen; omega)).mono ?_
    rintro e v2 ⟨t2, rfl, ht2, b⟩
    obtain rfl : t2 = true := ht2.2 (HPR.out HQ.out)
    have hc2 : Below w.heap.size w v2 := hc1.trans (b.mono hc1.size)
    have HG2 : Hid ((v2).ownsRow w.heap.size 68 2 (.slice og np pg) np (flatF P)) := owns_below HG1.out b (fun g hg => owns_lt HG1.out hg)
    have HU2 : Hid ((v2).ownsRow w.heap.size 68 2 (.slice ou gs.length pu) gs.length (flatF gs)) := owns_below HU1.out b (fun g hg => owns_lt HU1.out hg)
    have HC2 : Hid ((v2).heap[qbg]? = some (.cells #[.int .i64 m, .string p, .slice og np pg, .string bd] 26)) := blk_below HC1.out b
    clear b ht2 d0 d1 d2 d3 hfp HG1 HU1 HC1 hc1
    cases there with
    | false =>
      clear HPT HSP HPR
      cases ok with
      | false =>
        go_wp2_with fail
        go_ret
        exact ⟨rfl, hc2⟩
      | true =>
        go_wp2_with fail
        go_ret
        exact ⟨rfl, hc2⟩
    | true =>
      obtain ⟨ho, hv⟩ := HPT.out HQ.out rfl
      have HSA2 : Hid (SameP P gs) := HSP.out rfl ho hv
      subst ho
      subst hv
      have htt : (tv.toList == tv.toList) = true := by simp
      have hfp := FieldsV.of_owns HG2.out
      have hfu := FieldsV.of_owns HU2.out
      obtain ⟨⟨d0, d1, d2, d3⟩, _⟩ := four_facts HC2.out
      clear HPT HSP HPR HQ
      go_wp2_with fail
      refine (implSame_any m p _ bd np _ P _ gs.length _ gs _ hfp (by omega) hfu (by omega) HPS.out.copy hgsh.copy).mono ?_
      rintro e v3 ⟨t3, rfl, ht3, b⟩
      obtain rfl : t3 = true := ht3.2 HSA2.out
      have hc3 : Below w.heap.size w v3 := hc2.trans (b.mono hc2.size)
      clear b ht3 d0 d1 d2 d3 hfp hfu
      go_wp2_with fail
      go_ret
      exact ⟨rfl, hc3⟩

set_option maxRecDepth 100000 in
theorem lifted (os : Os) (started : os.Started) (H : Type) (enc : TypeId × Value → H) :
    ReturnsInHanded {} Try.checked os 3 .any (Rows.fnAskedAgainSpec.pre6 enc Try.prog Try.f3 Rows.fnAskedAgainRow.domain false) (Rows.fnAskedAgainSpec.post enc Try.prog Try.f3 false true false false) := by
  refine returnsInHanded_of_change (C := Try.checked) own started (by kernel_rfl) Try.func3
    (ChangeSpec.witness6 (enc := enc) (C := Try.checked) false ⟨#[], #[.slice none 0 0], []⟩ 8 (by kernel_rfl) (by kernel_rfl) (by kernel_rfl) (by kernel_rfl)) ?_
  intro W base args ds gs before hval0 hW _ _
  have hval : ∀ (j : Nat) t v, Try.f3.params[j]? = some t → args[j]? = some v → Value.okWide Try.prog W .any base t v := hval0
  have hW' := hW
  obtain ⟨p, q, hA0, hV, rfl, hfz, hnd⟩ := hW
  have hA : DataW.TrodAll enc Try.prog W 0 (fun _ => true) true Try.f3.params.toList args.toList ds p := hA0
  rw [Try.params3] at hA hval
  obtain ⟨v0, vs0, d0, ds0, p0, q0, hargs, rfl, rfl, h0, r0⟩ := trodAll_cons hA
  obtain ⟨rfl, rfl, rfl⟩ := trodAll_nil r0
  obtain rfl : args = #[v0] := by cases args; simp_all
  obtain ⟨rfl, rfl⟩ := trodVars_none hV
  obtain ⟨a0, len0, cap0, rfl⟩ := okWide_slice Try.underlying22 (hval 0 22 v0 rfl rfl)
  have k0 := h0
  have lt0 : ∀ x ∈ p0, x.block < W.heap.size := by obtain ⟨m, hm⟩ := k0; exact DataW.trod_lt m _ _ _ hm
  obtain ⟨z0, w0⟩ : ∃ zs, IsRow .u8 W a0 len0 cap0 zs := by
    obtain ⟨fuel, hf⟩ := h0
    rcases open_ints Try.underlying22 Try.underlying5 (by kernel_rfl) hf with ⟨hcs, _⟩ | ⟨x, l, c, zs, hcs, _, hl, hm, hz, _, hcell, hwz⟩
    · simp [Value.cells] at hcs
      obtain ⟨rfl, rfl, rfl⟩ := hcs
      exact ⟨[], .inl ⟨rfl, rfl, rfl, rfl⟩⟩
    · simp [Value.cells] at hcs
      obtain ⟨rfl, rfl, rfl⟩ := hcs
      exact ⟨zs, .inr ⟨_, rfl, hl, hm, by simpa using hz, hcell, hwz⟩⟩
  clear hA0 hval0
  refine (walk1 W a0 len0 cap0 z0 w0).mono fun e W' ⟨he, bel⟩ => ?_
  subst he
  exact ⟨_, rfl, _, _, _, [], _, [], hW', trodAll_mk1 (shut_bool Try.underlying4 _), (trodAll_cons_mk (Below.trod laidOut (by kernel_rfl) (of_decide_eq_true (by kernel_rfl)) k0 bel lt0) trodAll_mk0), rfl, bel.frame _, fun h => by cases h⟩

theorem over : Rows.fnAskedAgainRow.holds Try.pinned (OpenSpec.ofChange Rows.fnAskedAgainSpec) :=
  OpenClaim.holds_of_wide 3 Try.f3 rfl rfl rfl rfl rfl rfl rfl ⟨rfl, rfl, rfl, rfl, rfl⟩ rfl rfl rfl rfl rfl (by kernel_rfl) Try.func3 (by kernel_rfl)
    (of_decide_eq_true (by kernel_rfl)) (by unfold Func.isWrapper; first | (rw [if_pos (by decide +kernel)]; kernel_rfl) | (rw [if_neg (by decide +kernel)]; exact ⟨rfl, rfl⟩))
    (fun os started H enc _ => lifted os started H enc)
end fnAskedAgain

theorem fnAskedAgain_holds : Rows.FnAskedAgainSaid := fnAskedAgain.over
#print axioms fnAskedAgain_holds
end Go.Proofs.Ythlmnmbhgkmbfaa
