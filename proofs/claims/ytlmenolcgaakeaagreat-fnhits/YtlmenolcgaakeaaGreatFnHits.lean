/- What came behind a drawn ban is not hit by it; a later ban hits whatever an earlier one does; a path is below itself (the law answers true), and the code reads as it did: for every code. -/
import Derived.Test.YtlmenolcgaakeaaGreatFnHitsI
import Derived.Test.YtlmenolcgaakeaaGreatRows
import Derived.WalkKit
import Derived.ProofKit
import Derived.OpenShut
import Derived.ShutString
import Derived.ChangeOld
import Derived.Below
import Derived.Deep.RegionHeld3
import Derived.Deep.DrawnRows
import Derived.Deep.CutRange
import Derived.Deep.DeepCutAuto
namespace Go.Proofs.YtlmenolcgaakeaaGreat
namespace fnHits
open Go.ChangeShapes Go.WideShapes Go.ChangeAt Go.RowKit
open Go.ChangeMaps (open_string shut_string)
attribute [local go_sem ↓] Go.wp_at_zero Go.wp_at_succ

theorem own : ownKnob Tryz.prog.godebug = none := by kernel_rfl
theorem laidOut : laidOutB Tryz.prog = true := by kernel_rfl
def IsRow (k : IntKind) (w : World) (a : Option Addr) (len cap : Nat) (zs : List Int) : Prop :=
  (a = none ∧ len = 0 ∧ cap = 0 ∧ zs = []) ∨
  ∃ x, a = some x ∧ len ≤ cap ∧ cap ≤ maxLen ∧ zs.length = cap ∧ (∀ i, i < zs.length → w.cell? (x.add i) = some (.int k (zs.getD i 0))) ∧ ∀ n ∈ zs, (Lit.int k n).wf = true
theorem row_cell {k : IntKind} {w : World} {x : Addr} {zs : List Int} (h : ∀ i, i < zs.length → w.cell? (x.add i) = some (.int k (zs.getD i 0))) (j : Nat) (hj : j < zs.length) : ∃ b off, x = ⟨b, off, none⟩ ∧ w.cell? ⟨b, off + j, none⟩ = some (.int k (zs.getD j 0)) := by
  obtain ⟨b, off, spot⟩ := x
  have hc := h j hj
  have hspot : spot = none := by
    have := World.cell?_spot (h 0 (by omega))
    simpa [Addr.add] using this
  subst hspot
  refine ⟨b, off, rfl, ?_⟩
  by_cases e : j = 0
  · subst e; simpa [Addr.add] using hc
  · simpa [Addr.add, e] using hc
theorem row_code {w : World} {a : Option Addr} {len cap : Nat} {zs : List Int} (h : IsRow .u8 w a len cap zs) (hl : len ≤ 1048576) : CodeAt w w.heap.size a len zs := by
  refine ⟨hl, fun j hj => ?_⟩
  rcases h with ⟨rfl, rfl, _, _⟩ | ⟨x, rfl, h1, _, h3, h4, h5⟩
  · omega
  · obtain ⟨b, off, rfl, hc2⟩ := row_cell h4 j (by omega)
    have hm : zs.getD j 0 ∈ zs := by
      rw [List.getD_eq_getElem?_getD, List.getElem?_eq_getElem (by omega)]
      exact List.getElem_mem _
    have hr := bounds_u8 (h5 _ hm)
    exact ⟨b, off, rfl, World.block_lt_of_cell? _ _ hc2, hc2, hr.1, by omega⟩
theorem hit_below {a b : ByteArray} {t : Int} {p : ByteArray} {xs ys : List ByteArray} {st : Int} {fs : List (ByteArray × ByteArray)} {d : ByteArray} {u : Int} (h : HitP 1 a b t p xs ys st fs d u) : HitP 2 a b t p xs ys st fs d u := by
  obtain ⟨⟨h0, h1⟩, h2, h3, h4⟩ := h
  have hb : PathOk a ∧ b = ⟨#[]⟩ := by
    rcases h1 with ⟨_, h5, h6⟩ | ⟨h5, _⟩
    · exact ⟨h5, h6⟩
    · omega
  have hp : p = a := by
    rcases h4 with ⟨_, h5⟩ | ⟨h5, _⟩ | ⟨h5, _⟩
    · exact h5
    · omega
    · omega
  exact ⟨⟨h0, .inl ⟨.inr rfl, hb.1, hb.2⟩⟩, h2, h3, .inr (.inl ⟨rfl, [], by rw [hp, List.append_nil]⟩)⟩
theorem hit_late {k : Int} {a b : ByteArray} {t : Int} {p : ByteArray} {xs ys : List ByteArray} {st : Int} {fs : List (ByteArray × ByteArray)} {d : ByteArray} {u : Int} (h : HitP k a b t p xs ys st fs d u) : HitP k a b 1000000 p xs ys st fs d u := by
  obtain ⟨⟨h0, h1⟩, h2, h3, h4⟩ := h
  exact ⟨⟨⟨by omega, by omega⟩, h1⟩, h2, by omega, h4⟩

open Go.Lib hiding intOf
set_option maxHeartbeats 400000 in
theorem big_no (a : Option Addr) (len cap : Nat) (w : World) (h : ¬ (1048576 : Int) < (len : Int)) : Calls Tryz.prog 4 #[.slice a len cap] w fun e w' => e = .returned (.bool false) ∧ w' = w := by
  go_enter Tryz.func4, Tryz.ntmps4
  go_wp2
  go_ret
  exact ⟨rfl, rfl⟩
set_option maxHeartbeats 400000 in
theorem big_yes (a : Option Addr) (len cap : Nat) (w : World) (h : (1048576 : Int) < (len : Int)) : Calls Tryz.prog 4 #[.slice a len cap] w fun e w' => e = .returned (.bool true) ∧ w' = w := by
  go_enter Tryz.func4, Tryz.ntmps4
  go_wp2
  go_ret
  exact ⟨rfl, rfl⟩
set_option maxHeartbeats 16000000 in
set_option maxRecDepth 100000 in
theorem walk1 (w : World) (a0 : Option Addr) (len0 cap0 : Nat) (zc0 : List Int) (w0 : IsRow .u8 w a0 len0 cap0 zc0) :
    Calls Tryz.prog 3 #[.slice a0 len0 cap0] w fun e w' => e = .returned (.bool true) ∧ Below w.heap.size w w' := by
  classical
  by_cases hbig : (1048576 : Int) < (len0 : Int)
  · go_enter Tryz.func3, Tryz.ntmps3
    go_wp2_with fail
    refine (big_yes a0 len0 cap0 _ hbig).mono ?_
    rintro e w1 ⟨rfl, rfl⟩
    go_wp2
    go_ret
    exact ⟨rfl, Below.refl _ _⟩
  have hcode := row_code w0 (by omega)
  have HCODE : Hid (∀ W, Below w.heap.size w W → CodeAt W W.heap.size a0 len0 zc0) := fun W h => (hcode.below h).upTo h.size
  have HBIG : Hid (¬ (1048576 : Int) < (len0 : Int)) := hbig
  clear w0 hcode hbig
  have hb0 : Below w.heap.size w w := Below.refl _ _
  go_enter Tryz.func3, Tryz.ntmps3
  go_wp2_with fail
  refine (big_no a0 len0 cap0 _ (by have := HBIG.out; omega)).mono ?_
  rintro e w1 ⟨rfl, hwe⟩
  have bw : Below (w).heap.size (w) w1 := by rw [hwe]; exact Below.refl _ _
  clear hwe
  have hb1 : Below w.heap.size w (w1) := hb0.trans (bw.mono hb0.size)
  clear hb0 bw
  go_wp2_with fail
  refine (drawHits_any a0 len0 cap0 zc0 _ (HCODE.out _ hb1)).mono ?_
  rintro e w2 ⟨k, a, b, t, p1, vv1, xs1, vv2, ys1, st1, vv3, fs1, d1, u1, rfl, hz, ⟨ownX1, ownY1, ownG1⟩, hsm, bw⟩
  obtain ⟨oX1, pX1, rfl⟩ := slice_of_owns ownX1
  obtain ⟨oY1, pY1, rfl⟩ := slice_of_owns ownY1
  obtain ⟨oG1, pG1, rfl⟩ := slice_of_owns ownG1
  have HSM1 : Hid (SmallO p1 xs1 ys1 fs1 d1 u1) := hsm
  have HZB : Hid (a.size ≤ 64 ∧ b.size ≤ 64) := hz
  obtain ⟨hh, hhE⟩ : ∃ x, x = decide (HitP k a b t p1 xs1 ys1 st1 fs1 d1 u1) := ⟨_, rfl⟩
  have HHE : Hid (hh = decide (HitP k a b t p1 xs1 ys1 st1 fs1 d1 u1)) := hhE
  clear hsm hz hhE
  have hb2 : Below w.heap.size w (w2) := hb1.trans (bw.mono hb1.size)
  have HOX1_2 : Hid ((w2).ownsRow w.heap.size 9 1 (.slice oX1 xs1.length pX1) xs1.length (xs1.map Value.string)) := owns_wide ownX1 hb1.size
  clear ownX1
  have HOY1_2 : Hid ((w2).ownsRow w.heap.size 9 1 (.slice oY1 ys1.length pY1) ys1.length (ys1.map Value.string)) := owns_wide ownY1 hb1.size
  clear ownY1
  have HOG1_2 : Hid ((w2).ownsRow w.heap.size 75 2 (.slice oG1 fs1.length pG1) fs1.length (flatF fs1)) := owns_wide ownG1 hb1.size
  clear ownG1
  clear hb1 bw
  go_upto_region 4 with fail
  obtain ⟨qv1, hqv1⟩ : ∃ q, q = (w2).heap.size := ⟨_, rfl⟩
  obtain ⟨w3, hW3⟩ : ∃ W, W = (w2).alloc (.cells #[.int .i64 k, .string a, .string b, .int .i64 t] 25) := ⟨_, rfl⟩
  have hz3 : (w2).heap.size = qv1 := hqv1.symm
  first | rw [← hW3, ← hqv1] | rw [← hW3]
  have hs3 : w3.heap.size = qv1 + 1 := by rw [hW3, ← hz3]; simp
  have bw : Below (w2).heap.size (w2) w3 := by rw [hW3]; exact (Below.refl _ _).alloc (Nat.le_refl _) _
  have hb3 : Below w.heap.size w (w3) := hb2.trans (bw.mono hb2.size)
  have HOX1_3 : Hid ((w3).ownsRow w.heap.size 9 1 (.slice oX1 xs1.length pX1) xs1.length (xs1.map Value.string)) := owns_below HOX1_2.out bw (fun g hg => owns_lt HOX1_2.out hg)
  have HOY1_3 : Hid ((w3).ownsRow w.heap.size 9 1 (.slice oY1 ys1.length pY1) ys1.length (ys1.map Value.string)) := owns_below HOY1_2.out bw (fun g hg => owns_lt HOY1_2.out hg)
  have HOG1_3 : Hid ((w3).ownsRow w.heap.size 75 2 (.slice oG1 fs1.length pG1) fs1.length (flatF fs1)) := owns_below HOG1_2.out bw (fun g hg => owns_lt HOG1_2.out hg)
  have HBv1_3 : Hid ((w3).heap[qv1]? = some (.cells #[.int .i64 k, .string a, .string b, .int .i64 t] 25)) := by show _ = _; rw [hW3, ← hz3]; exact heap_alloc_new _ _
  clear hb2 HOX1_2 HOY1_2 HOG1_2 bw hW3 hz3
  obtain ⟨qv2, hqv2⟩ : ∃ q, q = qv1 + 1 := ⟨_, rfl⟩
  obtain ⟨w4, hW4⟩ : ∃ W, W = (w3).alloc (.cells #[.string p1, .slice oX1 xs1.length pX1, .slice oY1 ys1.length pY1, .int .i64 st1, .slice oG1 fs1.length pG1, .string d1, .int .i64 u1] 31) := ⟨_, rfl⟩
  have hz4 : (w3).heap.size = qv2 := by rw [hqv2]; exact hs3
  first | rw [← hW4, ← hqv2] | rw [← hW4]
  have hs4 : w4.heap.size = qv2 + 1 := by rw [hW4, ← hz4]; simp
  have bw : Below (w3).heap.size (w3) w4 := by rw [hW4]; exact (Below.refl _ _).alloc (Nat.le_refl _) _
  have hb4 : Below w.heap.size w (w4) := hb3.trans (bw.mono hb3.size)
  have HOX1_4 : Hid ((w4).ownsRow w.heap.size 9 1 (.slice oX1 xs1.length pX1) xs1.length (xs1.map Value.string)) := owns_below HOX1_3.out bw (fun g hg => owns_lt HOX1_3.out hg)
  have HOY1_4 : Hid ((w4).ownsRow w.heap.size 9 1 (.slice oY1 ys1.length pY1) ys1.length (ys1.map Value.string)) := owns_below HOY1_3.out bw (fun g hg => owns_lt HOY1_3.out hg)
  have HOG1_4 : Hid ((w4).ownsRow w.heap.size 75 2 (.slice oG1 fs1.length pG1) fs1.length (flatF fs1)) := owns_below HOG1_3.out bw (fun g hg => owns_lt HOG1_3.out hg)
  have HBv1_4 : Hid ((w4).heap[qv1]? = some (.cells #[.int .i64 k, .string a, .string b, .int .i64 t] 25)) := blk_below HBv1_3.out bw
  have HBv2_4 : Hid ((w4).heap[qv2]? = some (.cells #[.string p1, .slice oX1 xs1.length pX1, .slice oY1 ys1.length pY1, .int .i64 st1, .slice oG1 fs1.length pG1, .string d1, .int .i64 u1] 31)) := by show _ = _; rw [hW4, ← hz4]; exact heap_alloc_new _ _
  clear hb3 HOX1_3 HOY1_3 HOG1_3 HBv1_3 bw hW4 hz4
  clear hs4 hqv2 hs3 hqv1
  cases hh with
  | false =>
    have HK : Hid (¬ HitP k a b t p1 xs1 ys1 st1 fs1 d1 u1) := (show ¬ HitP k a b t p1 xs1 ys1 st1 fs1 d1 u1 from of_decide_eq_false HHE.out.symm)
    clear HHE
    have cv1_0 : (w4).cell? ⟨qv1, 0, none⟩ = some (.int .i64 k) := (cell_of HBv1_4.out 0).trans rfl
    have cv1_1 : (w4).cell? ⟨qv1, 1, none⟩ = some (.string a) := (cell_of HBv1_4.out 1).trans rfl
    have cv1_2 : (w4).cell? ⟨qv1, 2, none⟩ = some (.string b) := (cell_of HBv1_4.out 2).trans rfl
    have cv1_3 : (w4).cell? ⟨qv1, 3, none⟩ = some (.int .i64 t) := (cell_of HBv1_4.out 3).trans rfl
    have cv2_0 : (w4).cell? ⟨qv2, 0, none⟩ = some (.string p1) := (cell_of HBv2_4.out 0).trans rfl
    have cv2_1 : (w4).cell? ⟨qv2, 1, none⟩ = some (.slice oX1 xs1.length pX1) := (cell_of HBv2_4.out 1).trans rfl
    have cv2_2 : (w4).cell? ⟨qv2, 2, none⟩ = some (.slice oY1 ys1.length pY1) := (cell_of HBv2_4.out 2).trans rfl
    have cv2_3 : (w4).cell? ⟨qv2, 3, none⟩ = some (.int .i64 st1) := (cell_of HBv2_4.out 3).trans rfl
    have cv2_4 : (w4).cell? ⟨qv2, 4, none⟩ = some (.slice oG1 fs1.length pG1) := (cell_of HBv2_4.out 4).trans rfl
    have cv2_5 : (w4).cell? ⟨qv2, 5, none⟩ = some (.string d1) := (cell_of HBv2_4.out 5).trans rfl
    have cv2_6 : (w4).cell? ⟨qv2, 6, none⟩ = some (.int .i64 u1) := (cell_of HBv2_4.out 6).trans rfl
    go_wp2_with fail
    refine (implHits_any k a b t p1 _ xs1.length _ xs1 _ ys1.length _ ys1 st1 _ fs1.length _ fs1 d1 u1 _ (by have := HZB.out; unfold maxLen; omega) (by have := HZB.out; unfold maxLen; omega) (texts_view HOX1_4.out) (texts_view HOY1_4.out) (FieldsV.of_owns HOG1_4.out) (by have := HSM1.out.2.1.1; omega) (by have := HSM1.out.2.2.1.1; omega) (by have := HSM1.out.2.2.2.1.1; omega) (fun i hi => by have := HSM1.out.2.1.2 _ (textAt_mem xs1 i hi); unfold maxLen; omega) (fun i hi => by have := HSM1.out.2.2.1.2 _ (textAt_mem ys1 i hi); unfold maxLen; omega) (shortWalk HSM1.out.2.2.2.1.2) HSM1.out.2.2.2.1.2.copy (by have := HSM1.out.1; unfold maxLen; omega) (by have := HSM1.out.2.2.2.2.1; unfold maxLen; omega) (by have := short_get2 HSM1.out.2.2.2.1.2 varyName; omega)).mono ?_
    rintro e w5 ⟨bb, rfl, hbb, bw⟩
    obtain rfl : false = bb := by cases bb with
      | false => rfl
      | true => exact absurd (hbb.1 rfl) HK.out
    clear hbb
    have hb5 : Below w.heap.size w (w5) := hb4.trans (bw.mono hb4.size)
    have HM5 : Hid ((w4).heap.size ≤ (w5).heap.size) := bw.size
    have HOX1_5 : Hid ((w5).ownsRow w.heap.size 9 1 (.slice oX1 xs1.length pX1) xs1.length (xs1.map Value.string)) := owns_below HOX1_4.out bw (fun g hg => owns_lt HOX1_4.out hg)
    have HOY1_5 : Hid ((w5).ownsRow w.heap.size 9 1 (.slice oY1 ys1.length pY1) ys1.length (ys1.map Value.string)) := owns_below HOY1_4.out bw (fun g hg => owns_lt HOY1_4.out hg)
    have HOG1_5 : Hid ((w5).ownsRow w.heap.size 75 2 (.slice oG1 fs1.length pG1) fs1.length (flatF fs1)) := owns_below HOG1_4.out bw (fun g hg => owns_lt HOG1_4.out hg)
    have HBv1_5 : Hid ((w5).heap[qv1]? = some (.cells #[.int .i64 k, .string a, .string b, .int .i64 t] 25)) := blk_below HBv1_4.out bw
    have HBv2_5 : Hid ((w5).heap[qv2]? = some (.cells #[.string p1, .slice oX1 xs1.length pX1, .slice oY1 ys1.length pY1, .int .i64 st1, .slice oG1 fs1.length pG1, .string d1, .int .i64 u1] 31)) := blk_below HBv2_4.out bw
    clear hb4 HOX1_4 HOY1_4 HOG1_4 HBv1_4 HBv2_4 bw
    clear cv1_0 cv1_1 cv1_2 cv1_3 cv2_0 cv2_1 cv2_2 cv2_3 cv2_4 cv2_5 cv2_6
    have cv1_0 : (w5).cell? ⟨qv1, 0, none⟩ = some (.int .i64 k) := (cell_of HBv1_5.out 0).trans rfl
    have cv1_1 : (w5).cell? ⟨qv1, 1, none⟩ = some (.string a) := (cell_of HBv1_5.out 1).trans rfl
    have cv1_2 : (w5).cell? ⟨qv1, 2, none⟩ = some (.string b) := (cell_of HBv1_5.out 2).trans rfl
    have cv1_3 : (w5).cell? ⟨qv1, 3, none⟩ = some (.int .i64 t) := (cell_of HBv1_5.out 3).trans rfl
    have cv2_0 : (w5).cell? ⟨qv2, 0, none⟩ = some (.string p1) := (cell_of HBv2_5.out 0).trans rfl
    have cv2_1 : (w5).cell? ⟨qv2, 1, none⟩ = some (.slice oX1 xs1.length pX1) := (cell_of HBv2_5.out 1).trans rfl
    have cv2_2 : (w5).cell? ⟨qv2, 2, none⟩ = some (.slice oY1 ys1.length pY1) := (cell_of HBv2_5.out 2).trans rfl
    have cv2_3 : (w5).cell? ⟨qv2, 3, none⟩ = some (.int .i64 st1) := (cell_of HBv2_5.out 3).trans rfl
    have cv2_4 : (w5).cell? ⟨qv2, 4, none⟩ = some (.slice oG1 fs1.length pG1) := (cell_of HBv2_5.out 4).trans rfl
    have cv2_5 : (w5).cell? ⟨qv2, 5, none⟩ = some (.string d1) := (cell_of HBv2_5.out 5).trans rfl
    have cv2_6 : (w5).cell? ⟨qv2, 6, none⟩ = some (.int .i64 u1) := (cell_of HBv2_5.out 6).trans rfl
    go_wp2_with fail
    refine (specHits_any k a b t p1 _ xs1.length _ xs1 _ ys1.length _ ys1 st1 _ fs1.length _ fs1 d1 u1 _ (by have := HZB.out; unfold maxLen; omega) (by have := HZB.out; unfold maxLen; omega) (texts_view HOX1_5.out) (texts_view HOY1_5.out) (FieldsV.of_owns HOG1_5.out) (by have := HSM1.out.2.1.1; omega) (by have := HSM1.out.2.2.1.1; omega) (by have := HSM1.out.2.2.2.1.1; omega) (fun i hi => by have := HSM1.out.2.1.2 _ (textAt_mem xs1 i hi); unfold maxLen; omega) (fun i hi => by have := HSM1.out.2.2.1.2 _ (textAt_mem ys1 i hi); unfold maxLen; omega) (shortWalk HSM1.out.2.2.2.1.2) (by have := HSM1.out.1; unfold maxLen; omega) (by have := HSM1.out.2.2.2.2.1; unfold maxLen; omega) (by have := short_get2 HSM1.out.2.2.2.1.2 varyName; omega)).mono ?_
    rintro e w6 ⟨bb, rfl, hbb, bw⟩
    obtain rfl : false = bb := by cases bb with
      | false => rfl
      | true => exact absurd (hbb.1 rfl) HK.out
    clear hbb
    have hb6 : Below w.heap.size w (w6) := hb5.trans (bw.mono hb5.size)
    have HM6 : Hid ((w5).heap.size ≤ (w6).heap.size) := bw.size
    have HOX1_6 : Hid ((w6).ownsRow w.heap.size 9 1 (.slice oX1 xs1.length pX1) xs1.length (xs1.map Value.string)) := owns_below HOX1_5.out bw (fun g hg => owns_lt HOX1_5.out hg)
    have HOY1_6 : Hid ((w6).ownsRow w.heap.size 9 1 (.slice oY1 ys1.length pY1) ys1.length (ys1.map Value.string)) := owns_below HOY1_5.out bw (fun g hg => owns_lt HOY1_5.out hg)
    have HOG1_6 : Hid ((w6).ownsRow w.heap.size 75 2 (.slice oG1 fs1.length pG1) fs1.length (flatF fs1)) := owns_below HOG1_5.out bw (fun g hg => owns_lt HOG1_5.out hg)
    have HBv1_6 : Hid ((w6).heap[qv1]? = some (.cells #[.int .i64 k, .string a, .string b, .int .i64 t] 25)) := blk_below HBv1_5.out bw
    have HBv2_6 : Hid ((w6).heap[qv2]? = some (.cells #[.string p1, .slice oX1 xs1.length pX1, .slice oY1 ys1.length pY1, .int .i64 st1, .slice oG1 fs1.length pG1, .string d1, .int .i64 u1] 31)) := blk_below HBv2_5.out bw
    clear hb5 HOX1_5 HOY1_5 HOG1_5 HBv1_5 HBv2_5 bw
    clear cv1_0 cv1_1 cv1_2 cv1_3 cv2_0 cv2_1 cv2_2 cv2_3 cv2_4 cv2_5 cv2_6
    go_wp2_with fail
    refine (drawHitsAny_any a0 len0 cap0 zc0 _ (HCODE.out _ hb6)).mono ?_
    rintro e w7 ⟨vv0, l, p2, vv1, xs2, vv2, ys2, st2, vv3, fs2, d2, u2, rfl, ownL, hz, ⟨ownX2, ownY2, ownG2⟩, hsm, bw⟩
    obtain ⟨oL, pL, rfl⟩ := slice_of_owns ownL
    obtain ⟨oX2, pX2, rfl⟩ := slice_of_owns ownX2
    obtain ⟨oY2, pY2, rfl⟩ := slice_of_owns ownY2
    obtain ⟨oG2, pG2, rfl⟩ := slice_of_owns ownG2
    have HSM2 : Hid (SmallO p2 xs2 ys2 fs2 d2 u2) := hsm
    have hll := hz.1
    have HZL : Hid (∀ x ∈ l, (x.2.1).size ≤ 64 ∧ (x.2.2.1).size ≤ 64) := hz.2
    obtain ⟨an, hanE⟩ : ∃ x, x = decide (AnyP l p2 xs2 ys2 st2 fs2 d2 u2) := ⟨_, rfl⟩
    have HAN : Hid (an = decide (AnyP l p2 xs2 ys2 st2 fs2 d2 u2)) := hanE
    have haa : (an != an) = false := by simp
    have hae : (an == an) = true := by simp
    clear hsm hz hanE
    have hb7 : Below w.heap.size w (w7) := hb6.trans (bw.mono hb6.size)
    have HM7 : Hid ((w6).heap.size ≤ (w7).heap.size) := bw.size
    have HOX1_7 : Hid ((w7).ownsRow w.heap.size 9 1 (.slice oX1 xs1.length pX1) xs1.length (xs1.map Value.string)) := owns_below HOX1_6.out bw (fun g hg => owns_lt HOX1_6.out hg)
    have HOY1_7 : Hid ((w7).ownsRow w.heap.size 9 1 (.slice oY1 ys1.length pY1) ys1.length (ys1.map Value.string)) := owns_below HOY1_6.out bw (fun g hg => owns_lt HOY1_6.out hg)
    have HOG1_7 : Hid ((w7).ownsRow w.heap.size 75 2 (.slice oG1 fs1.length pG1) fs1.length (flatF fs1)) := owns_below HOG1_6.out bw (fun g hg => owns_lt HOG1_6.out hg)
    have HBv1_7 : Hid ((w7).heap[qv1]? = some (.cells #[.int .i64 k, .string a, .string b, .int .i64 t] 25)) := blk_below HBv1_6.out bw
    have HBv2_7 : Hid ((w7).heap[qv2]? = some (.cells #[.string p1, .slice oX1 xs1.length pX1, .slice oY1 ys1.length pY1, .int .i64 st1, .slice oG1 fs1.length pG1, .string d1, .int .i64 u1] 31)) := blk_below HBv2_6.out bw
    have HOX2_7 : Hid ((w7).ownsRow w.heap.size 9 1 (.slice oX2 xs2.length pX2) xs2.length (xs2.map Value.string)) := owns_wide ownX2 hb6.size
    have LOX2 : Hid (∀ g, (Value.ownBlock (.slice oX2 xs2.length pX2)) = some g → (w6).heap.size ≤ g) := fun g hg => owns_ge ownX2 hg
    have HIX2 : Hid (∀ g, (Value.ownBlock (.slice oX2 xs2.length pX2)) = some g → g < (w7).heap.size) := fun g hg => owns_lt ownX2 hg
    clear ownX2
    have HOY2_7 : Hid ((w7).ownsRow w.heap.size 9 1 (.slice oY2 ys2.length pY2) ys2.length (ys2.map Value.string)) := owns_wide ownY2 hb6.size
    have LOY2 : Hid (∀ g, (Value.ownBlock (.slice oY2 ys2.length pY2)) = some g → (w6).heap.size ≤ g) := fun g hg => owns_ge ownY2 hg
    have HIY2 : Hid (∀ g, (Value.ownBlock (.slice oY2 ys2.length pY2)) = some g → g < (w7).heap.size) := fun g hg => owns_lt ownY2 hg
    clear ownY2
    have HOG2_7 : Hid ((w7).ownsRow w.heap.size 75 2 (.slice oG2 fs2.length pG2) fs2.length (flatF fs2)) := owns_wide ownG2 hb6.size
    have LOG2 : Hid (∀ g, (Value.ownBlock (.slice oG2 fs2.length pG2)) = some g → (w6).heap.size ≤ g) := fun g hg => owns_ge ownG2 hg
    have HIG2 : Hid (∀ g, (Value.ownBlock (.slice oG2 fs2.length pG2)) = some g → g < (w7).heap.size) := fun g hg => owns_lt ownG2 hg
    clear ownG2
    have HOL_7 : Hid ((w7).ownsRow w.heap.size 25 4 (.slice oL l.length pL) l.length (flatBan l)) := owns_wide ownL hb6.size
    have LOL : Hid (∀ g, (Value.ownBlock (.slice oL l.length pL)) = some g → (w6).heap.size ≤ g) := fun g hg => owns_ge ownL hg
    have HIL : Hid (∀ g, (Value.ownBlock (.slice oL l.length pL)) = some g → g < (w7).heap.size) := fun g hg => owns_lt ownL hg
    clear ownL
    have HRLv1 : Hid (∀ g, (Value.ownBlock (.slice oL l.length pL)) = some g → g ≠ qv1) := fun g hg e => by have h1 := LOL.out g hg; have h2 := (Array.getElem?_eq_some_iff.1 HBv1_6.out).1; omega
    clear hb6 HOX1_6 HOY1_6 HOG1_6 HBv1_6 HBv2_6 bw
    go_upto_region 8 with fail
    obtain ⟨qv3, hqv3⟩ : ∃ q, q = (w7).heap.size := ⟨_, rfl⟩
    obtain ⟨w8, hW8⟩ : ∃ W, W = (w7).alloc (.cells #[.string p2, .slice oX2 xs2.length pX2, .slice oY2 ys2.length pY2, .int .i64 st2, .slice oG2 fs2.length pG2, .string d2, .int .i64 u2] 31) := ⟨_, rfl⟩
    have hz8 : (w7).heap.size = qv3 := hqv3.symm
    first | rw [← hW8, ← hqv3] | rw [← hW8]
    have hs8 : w8.heap.size = qv3 + 1 := by rw [hW8, ← hz8]; simp
    have bw : Below (w7).heap.size (w7) w8 := by rw [hW8]; exact (Below.refl _ _).alloc (Nat.le_refl _) _
    have hb8 : Below w.heap.size w (w8) := hb7.trans (bw.mono hb7.size)
    have HM8 : Hid ((w7).heap.size ≤ (w8).heap.size) := bw.size
    have HOX1_8 : Hid ((w8).ownsRow w.heap.size 9 1 (.slice oX1 xs1.length pX1) xs1.length (xs1.map Value.string)) := owns_below HOX1_7.out bw (fun g hg => owns_lt HOX1_7.out hg)
    have HOY1_8 : Hid ((w8).ownsRow w.heap.size 9 1 (.slice oY1 ys1.length pY1) ys1.length (ys1.map Value.string)) := owns_below HOY1_7.out bw (fun g hg => owns_lt HOY1_7.out hg)
    have HOG1_8 : Hid ((w8).ownsRow w.heap.size 75 2 (.slice oG1 fs1.length pG1) fs1.length (flatF fs1)) := owns_below HOG1_7.out bw (fun g hg => owns_lt HOG1_7.out hg)
    have HOX2_8 : Hid ((w8).ownsRow w.heap.size 9 1 (.slice oX2 xs2.length pX2) xs2.length (xs2.map Value.string)) := owns_below HOX2_7.out bw (fun g hg => owns_lt HOX2_7.out hg)
    have HOY2_8 : Hid ((w8).ownsRow w.heap.size 9 1 (.slice oY2 ys2.length pY2) ys2.length (ys2.map Value.string)) := owns_below HOY2_7.out bw (fun g hg => owns_lt HOY2_7.out hg)
    have HOG2_8 : Hid ((w8).ownsRow w.heap.size 75 2 (.slice oG2 fs2.length pG2) fs2.length (flatF fs2)) := owns_below HOG2_7.out bw (fun g hg => owns_lt HOG2_7.out hg)
    have HOL_8 : Hid ((w8).ownsRow w.heap.size 25 4 (.slice oL l.length pL) l.length (flatBan l)) := owns_below HOL_7.out bw (fun g hg => owns_lt HOL_7.out hg)
    have HBv1_8 : Hid ((w8).heap[qv1]? = some (.cells #[.int .i64 k, .string a, .string b, .int .i64 t] 25)) := blk_below HBv1_7.out bw
    have HBv2_8 : Hid ((w8).heap[qv2]? = some (.cells #[.string p1, .slice oX1 xs1.length pX1, .slice oY1 ys1.length pY1, .int .i64 st1, .slice oG1 fs1.length pG1, .string d1, .int .i64 u1] 31)) := blk_below HBv2_7.out bw
    have HNv1v3 : Hid (qv1 ≠ qv3) := fun e => by have h1 := (Array.getElem?_eq_some_iff.1 HBv1_7.out).1; omega
    have HNv2v3 : Hid (qv2 ≠ qv3) := fun e => by have h1 := (Array.getElem?_eq_some_iff.1 HBv2_7.out).1; omega
    have HBv3_8 : Hid ((w8).heap[qv3]? = some (.cells #[.string p2, .slice oX2 xs2.length pX2, .slice oY2 ys2.length pY2, .int .i64 st2, .slice oG2 fs2.length pG2, .string d2, .int .i64 u2] 31)) := by show _ = _; rw [hW8, ← hz8]; exact heap_alloc_new _ _
    have HGv3 : Hid (w.heap.size ≤ qv3) := by show _ ≤ _; rw [← hz8]; exact hb7.size
    clear hb7 HOX1_7 HOY1_7 HOG1_7 HOX2_7 HOY2_7 HOG2_7 HOL_7 HBv1_7 HBv2_7 bw hW8 hz8
    clear hs8 hqv3
    have cv3_0 : (w8).cell? ⟨qv3, 0, none⟩ = some (.string p2) := (cell_of HBv3_8.out 0).trans rfl
    have cv3_1 : (w8).cell? ⟨qv3, 1, none⟩ = some (.slice oX2 xs2.length pX2) := (cell_of HBv3_8.out 1).trans rfl
    have cv3_2 : (w8).cell? ⟨qv3, 2, none⟩ = some (.slice oY2 ys2.length pY2) := (cell_of HBv3_8.out 2).trans rfl
    have cv3_3 : (w8).cell? ⟨qv3, 3, none⟩ = some (.int .i64 st2) := (cell_of HBv3_8.out 3).trans rfl
    have cv3_4 : (w8).cell? ⟨qv3, 4, none⟩ = some (.slice oG2 fs2.length pG2) := (cell_of HBv3_8.out 4).trans rfl
    have cv3_5 : (w8).cell? ⟨qv3, 5, none⟩ = some (.string d2) := (cell_of HBv3_8.out 5).trans rfl
    have cv3_6 : (w8).cell? ⟨qv3, 6, none⟩ = some (.int .i64 u2) := (cell_of HBv3_8.out 6).trans rfl
    go_wp2_with fail
    refine (implHitsAny_any _ l.length _ l p2 _ xs2.length _ xs2 _ ys2.length _ ys2 st2 _ fs2.length _ fs2 d2 u2 _ (ban_view HOL_8.out) (by omega) (fun x hx => by have := HZL.out x hx; unfold maxLen; exact ⟨by omega, by omega⟩) (texts_view HOX2_8.out) (texts_view HOY2_8.out) (FieldsV.of_owns HOG2_8.out) (by have := HSM2.out.2.1.1; omega) (by have := HSM2.out.2.2.1.1; omega) (by have := HSM2.out.2.2.2.1.1; omega) (fun i hi => by have := HSM2.out.2.1.2 _ (textAt_mem xs2 i hi); unfold maxLen; omega) (fun i hi => by have := HSM2.out.2.2.1.2 _ (textAt_mem ys2 i hi); unfold maxLen; omega) (shortWalk HSM2.out.2.2.2.1.2) HSM2.out.2.2.2.1.2.copy (by have := HSM2.out.1; unfold maxLen; omega) (by have := HSM2.out.2.2.2.2.1; unfold maxLen; omega) (by have := short_get2 HSM2.out.2.2.2.1.2 varyName; omega)).mono ?_
    rintro e w9 ⟨bb, rfl, hbb, bw⟩
    obtain rfl : an = bb := by rw [HAN.out, Bool.eq_iff_iff, hbb, decide_eq_true_iff]
    clear hbb
    have hb9 : Below w.heap.size w (w9) := hb8.trans (bw.mono hb8.size)
    have HM9 : Hid ((w8).heap.size ≤ (w9).heap.size) := bw.size
    have HOX1_9 : Hid ((w9).ownsRow w.heap.size 9 1 (.slice oX1 xs1.length pX1) xs1.length (xs1.map Value.string)) := owns_below HOX1_8.out bw (fun g hg => owns_lt HOX1_8.out hg)
    have HOY1_9 : Hid ((w9).ownsRow w.heap.size 9 1 (.slice oY1 ys1.length pY1) ys1.length (ys1.map Value.string)) := owns_below HOY1_8.out bw (fun g hg => owns_lt HOY1_8.out hg)
    have HOG1_9 : Hid ((w9).ownsRow w.heap.size 75 2 (.slice oG1 fs1.length pG1) fs1.length (flatF fs1)) := owns_below HOG1_8.out bw (fun g hg => owns_lt HOG1_8.out hg)
    have HOX2_9 : Hid ((w9).ownsRow w.heap.size 9 1 (.slice oX2 xs2.length pX2) xs2.length (xs2.map Value.string)) := owns_below HOX2_8.out bw (fun g hg => owns_lt HOX2_8.out hg)
    have HOY2_9 : Hid ((w9).ownsRow w.heap.size 9 1 (.slice oY2 ys2.length pY2) ys2.length (ys2.map Value.string)) := owns_below HOY2_8.out bw (fun g hg => owns_lt HOY2_8.out hg)
    have HOG2_9 : Hid ((w9).ownsRow w.heap.size 75 2 (.slice oG2 fs2.length pG2) fs2.length (flatF fs2)) := owns_below HOG2_8.out bw (fun g hg => owns_lt HOG2_8.out hg)
    have HOL_9 : Hid ((w9).ownsRow w.heap.size 25 4 (.slice oL l.length pL) l.length (flatBan l)) := owns_below HOL_8.out bw (fun g hg => owns_lt HOL_8.out hg)
    have HBv1_9 : Hid ((w9).heap[qv1]? = some (.cells #[.int .i64 k, .string a, .string b, .int .i64 t] 25)) := blk_below HBv1_8.out bw
    have HBv2_9 : Hid ((w9).heap[qv2]? = some (.cells #[.string p1, .slice oX1 xs1.length pX1, .slice oY1 ys1.length pY1, .int .i64 st1, .slice oG1 fs1.length pG1, .string d1, .int .i64 u1] 31)) := blk_below HBv2_8.out bw
    have HBv3_9 : Hid ((w9).heap[qv3]? = some (.cells #[.string p2, .slice oX2 xs2.length pX2, .slice oY2 ys2.length pY2, .int .i64 st2, .slice oG2 fs2.length pG2, .string d2, .int .i64 u2] 31)) := blk_below HBv3_8.out bw
    clear hb8 HOX1_8 HOY1_8 HOG1_8 HOX2_8 HOY2_8 HOG2_8 HOL_8 HBv1_8 HBv2_8 HBv3_8 bw
    clear cv3_0 cv3_1 cv3_2 cv3_3 cv3_4 cv3_5 cv3_6
    have cv3_0 : (w9).cell? ⟨qv3, 0, none⟩ = some (.string p2) := (cell_of HBv3_9.out 0).trans rfl
    have cv3_1 : (w9).cell? ⟨qv3, 1, none⟩ = some (.slice oX2 xs2.length pX2) := (cell_of HBv3_9.out 1).trans rfl
    have cv3_2 : (w9).cell? ⟨qv3, 2, none⟩ = some (.slice oY2 ys2.length pY2) := (cell_of HBv3_9.out 2).trans rfl
    have cv3_3 : (w9).cell? ⟨qv3, 3, none⟩ = some (.int .i64 st2) := (cell_of HBv3_9.out 3).trans rfl
    have cv3_4 : (w9).cell? ⟨qv3, 4, none⟩ = some (.slice oG2 fs2.length pG2) := (cell_of HBv3_9.out 4).trans rfl
    have cv3_5 : (w9).cell? ⟨qv3, 5, none⟩ = some (.string d2) := (cell_of HBv3_9.out 5).trans rfl
    have cv3_6 : (w9).cell? ⟨qv3, 6, none⟩ = some (.int .i64 u2) := (cell_of HBv3_9.out 6).trans rfl
    go_wp2_with fail
    refine (specHitsAny_any _ l.length _ l p2 _ xs2.length _ xs2 _ ys2.length _ ys2 st2 _ fs2.length _ fs2 d2 u2 _ (ban_view HOL_9.out) (by omega) (fun x hx => by have := HZL.out x hx; unfold maxLen; exact ⟨by omega, by omega⟩) (texts_view HOX2_9.out) (texts_view HOY2_9.out) (FieldsV.of_owns HOG2_9.out) (by have := HSM2.out.2.1.1; omega) (by have := HSM2.out.2.2.1.1; omega) (by have := HSM2.out.2.2.2.1.1; omega) (fun i hi => by have := HSM2.out.2.1.2 _ (textAt_mem xs2 i hi); unfold maxLen; omega) (fun i hi => by have := HSM2.out.2.2.1.2 _ (textAt_mem ys2 i hi); unfold maxLen; omega) (shortWalk HSM2.out.2.2.2.1.2) (by have := HSM2.out.1; unfold maxLen; omega) (by have := HSM2.out.2.2.2.2.1; unfold maxLen; omega) (by have := short_get2 HSM2.out.2.2.2.1.2 varyName; omega)).mono ?_
    rintro e w10 ⟨bb, rfl, hbb, bw⟩
    obtain rfl : an = bb := by rw [HAN.out, Bool.eq_iff_iff, hbb, decide_eq_true_iff]
    clear hbb
    have hb10 : Below w.heap.size w (w10) := hb9.trans (bw.mono hb9.size)
    have HM10 : Hid ((w9).heap.size ≤ (w10).heap.size) := bw.size
    have HOX1_10 : Hid ((w10).ownsRow w.heap.size 9 1 (.slice oX1 xs1.length pX1) xs1.length (xs1.map Value.string)) := owns_below HOX1_9.out bw (fun g hg => owns_lt HOX1_9.out hg)
    have HOY1_10 : Hid ((w10).ownsRow w.heap.size 9 1 (.slice oY1 ys1.length pY1) ys1.length (ys1.map Value.string)) := owns_below HOY1_9.out bw (fun g hg => owns_lt HOY1_9.out hg)
    have HOG1_10 : Hid ((w10).ownsRow w.heap.size 75 2 (.slice oG1 fs1.length pG1) fs1.length (flatF fs1)) := owns_below HOG1_9.out bw (fun g hg => owns_lt HOG1_9.out hg)
    have HOX2_10 : Hid ((w10).ownsRow w.heap.size 9 1 (.slice oX2 xs2.length pX2) xs2.length (xs2.map Value.string)) := owns_below HOX2_9.out bw (fun g hg => owns_lt HOX2_9.out hg)
    have HOY2_10 : Hid ((w10).ownsRow w.heap.size 9 1 (.slice oY2 ys2.length pY2) ys2.length (ys2.map Value.string)) := owns_below HOY2_9.out bw (fun g hg => owns_lt HOY2_9.out hg)
    have HOG2_10 : Hid ((w10).ownsRow w.heap.size 75 2 (.slice oG2 fs2.length pG2) fs2.length (flatF fs2)) := owns_below HOG2_9.out bw (fun g hg => owns_lt HOG2_9.out hg)
    have HOL_10 : Hid ((w10).ownsRow w.heap.size 25 4 (.slice oL l.length pL) l.length (flatBan l)) := owns_below HOL_9.out bw (fun g hg => owns_lt HOL_9.out hg)
    have HBv1_10 : Hid ((w10).heap[qv1]? = some (.cells #[.int .i64 k, .string a, .string b, .int .i64 t] 25)) := blk_below HBv1_9.out bw
    have HBv2_10 : Hid ((w10).heap[qv2]? = some (.cells #[.string p1, .slice oX1 xs1.length pX1, .slice oY1 ys1.length pY1, .int .i64 st1, .slice oG1 fs1.length pG1, .string d1, .int .i64 u1] 31)) := blk_below HBv2_9.out bw
    have HBv3_10 : Hid ((w10).heap[qv3]? = some (.cells #[.string p2, .slice oX2 xs2.length pX2, .slice oY2 ys2.length pY2, .int .i64 st2, .slice oG2 fs2.length pG2, .string d2, .int .i64 u2] 31)) := blk_below HBv3_9.out bw
    clear hb9 HOX1_9 HOY1_9 HOG1_9 HOX2_9 HOY2_9 HOG2_9 HOL_9 HBv1_9 HBv2_9 HBv3_9 bw
    clear cv3_0 cv3_1 cv3_2 cv3_3 cv3_4 cv3_5 cv3_6
    go_wp2_with fail
    go_loopw [9, 10] (fun o i wr => ∃ (j : Nat) (ob : Bool), j ≤ l.length ∧ i = .int .i64 (j : Int) ∧ o = .bool ob ∧ Hid (Below w.heap.size w wr ∧ (wr).heap[qv1]? = some (.cells #[.int .i64 k, .string a, .string b, .int .i64 t] 25) ∧ (wr).heap[qv2]? = some (.cells #[.string p1, .slice oX1 xs1.length pX1, .slice oY1 ys1.length pY1, .int .i64 st1, .slice oG1 fs1.length pG1, .string d1, .int .i64 u1] 31) ∧ (wr).heap[qv3]? = some (.cells #[.string p2, .slice oX2 xs2.length pX2, .slice oY2 ys2.length pY2, .int .i64 st2, .slice oG2 fs2.length pG2, .string d2, .int .i64 u2] 31) ∧ (wr).ownsRow w.heap.size 9 1 (.slice oX1 xs1.length pX1) xs1.length (xs1.map Value.string) ∧ (wr).ownsRow w.heap.size 9 1 (.slice oY1 ys1.length pY1) ys1.length (ys1.map Value.string) ∧ (wr).ownsRow w.heap.size 75 2 (.slice oG1 fs1.length pG1) fs1.length (flatF fs1) ∧ (wr).ownsRow w.heap.size 9 1 (.slice oX2 xs2.length pX2) xs2.length (xs2.map Value.string) ∧ (wr).ownsRow w.heap.size 9 1 (.slice oY2 ys2.length pY2) ys2.length (ys2.map Value.string) ∧ (wr).ownsRow w.heap.size 75 2 (.slice oG2 fs2.length pG2) fs2.length (flatF fs2) ∧ (wr).ownsRow w.heap.size 25 4 (.slice oL l.length pL) l.length (flatBan l)) ∧ Hid (ob = true ↔ ∃ x ∈ l.take j, HitP x.1 x.2.1 x.2.2.1 x.2.2.2 p2 xs2 ys2 st2 fs2 d2 u2)) (fun _ i _ => l.length - (intOf i).toNat)
    case atStart => exact ⟨0, false, Nat.zero_le _, rfl, rfl, ⟨hb10, HBv1_10.out, HBv2_10.out, HBv3_10.out, HOX1_10.out, HOY1_10.out, HOG1_10.out, HOX2_10.out, HOY2_10.out, HOG2_10.out, HOL_10.out⟩, ⟨fun h => (by cases h), fun ⟨x, hx, _⟩ => (by simp at hx)⟩⟩
    case round =>
      obtain ⟨j, ob, hj, rfl, rfl, HW, HOB⟩ := hrel
      by_cases hlt : (j : Int) < (l.length : Int)
      · have hb11 := HW.out.1
        have HBv1_11 : Hid ((wr).heap[qv1]? = some (.cells #[.int .i64 k, .string a, .string b, .int .i64 t] 25)) := HW.out.2.1
        have HBv2_11 : Hid ((wr).heap[qv2]? = some (.cells #[.string p1, .slice oX1 xs1.length pX1, .slice oY1 ys1.length pY1, .int .i64 st1, .slice oG1 fs1.length pG1, .string d1, .int .i64 u1] 31)) := HW.out.2.2.1
        have HBv3_11 : Hid ((wr).heap[qv3]? = some (.cells #[.string p2, .slice oX2 xs2.length pX2, .slice oY2 ys2.length pY2, .int .i64 st2, .slice oG2 fs2.length pG2, .string d2, .int .i64 u2] 31)) := HW.out.2.2.2.1
        have HOX1_11 : Hid ((wr).ownsRow w.heap.size 9 1 (.slice oX1 xs1.length pX1) xs1.length (xs1.map Value.string)) := HW.out.2.2.2.2.1
        have HOY1_11 : Hid ((wr).ownsRow w.heap.size 9 1 (.slice oY1 ys1.length pY1) ys1.length (ys1.map Value.string)) := HW.out.2.2.2.2.2.1
        have HOG1_11 : Hid ((wr).ownsRow w.heap.size 75 2 (.slice oG1 fs1.length pG1) fs1.length (flatF fs1)) := HW.out.2.2.2.2.2.2.1
        have HOX2_11 : Hid ((wr).ownsRow w.heap.size 9 1 (.slice oX2 xs2.length pX2) xs2.length (xs2.map Value.string)) := HW.out.2.2.2.2.2.2.2.1
        have HOY2_11 : Hid ((wr).ownsRow w.heap.size 9 1 (.slice oY2 ys2.length pY2) ys2.length (ys2.map Value.string)) := HW.out.2.2.2.2.2.2.2.2.1
        have HOG2_11 : Hid ((wr).ownsRow w.heap.size 75 2 (.slice oG2 fs2.length pG2) fs2.length (flatF fs2)) := HW.out.2.2.2.2.2.2.2.2.2.1
        have HOL_11 : Hid ((wr).ownsRow w.heap.size 25 4 (.slice oL l.length pL) l.length (flatBan l)) := HW.out.2.2.2.2.2.2.2.2.2.2
        clear HW hb10 HOX1_10 HOY1_10 HOG1_10 HOX2_10 HOY2_10 HOG2_10 HOL_10 HBv1_10 HBv2_10 HBv3_10
        have hjx : j < l.length := by omega
        obtain ⟨g, hog, _⟩ := (ban_view HOL_11.out).2 j hjx
        subst hog
        obtain ⟨y, hy⟩ : ∃ y, y = banAt l j := ⟨_, rfl⟩
        have HM : Hid (y ∈ l) := by show _ ∈ _; rw [hy]; exact banAt_mem l j hjx
        have HTK : Hid (l.take (j + 1) = l.take j ++ [y]) := by show _ = _; rw [hy]; exact take_banAt l j hjx
        have HZY : Hid (y.2.1.size ≤ 64 ∧ y.2.2.1.size ≤ 64) := HZL.out y HM.out
        have HYE : Hid (banAt l j = y) := hy.symm
        clear hy
        obtain ⟨y0, y1, y2, y3⟩ := y
        have HZY2 : Hid (y1.size ≤ 64 ∧ y2.size ≤ 64) := HZY.out
        have HELL : Hid (∀ W : World, (W).ownsRow w.heap.size 25 4 (.slice (some ⟨g, 0, none⟩) l.length pL) l.length (flatBan l) → (W.cell? ⟨g, j * 4, none⟩ = some (.int .i64 y0) ∧ W.cell? ⟨g, j * 4 + 1, none⟩ = some (.string y1) ∧ W.cell? ⟨g, j * 4 + 2, none⟩ = some (.string y2) ∧ W.cell? ⟨g, j * 4 + 3, none⟩ = some (.int .i64 y3))) := fun W h => by
          obtain ⟨g', hg, _, r0, r1, r2, r3⟩ := (ban_view h).2 j hjx
          cases hg
          rw [HYE.out] at r0 r1 r2 r3
          exact ⟨r0, r1, r2, r3⟩
        clear hjx
        go_upto_region 15 with fail
        refine wp_region_held_drew (S := fun W => (W.cell? ⟨g, j * 4, none⟩ = some (.int .i64 y0) ∧ W.cell? ⟨g, j * 4 + 1, none⟩ = some (.string y1) ∧ W.cell? ⟨g, j * 4 + 2, none⟩ = some (.string y2) ∧ W.cell? ⟨g, j * 4 + 3, none⟩ = some (.int .i64 y3)) ∧ W.heap[qv3]? = some (.cells #[.string p2, .slice oX2 xs2.length pX2, .slice oY2 ys2.length pY2, .int .i64 st2, .slice oG2 fs2.length pG2, .string d2, .int .i64 u2] 31)) (by kernel_rfl) ⟨HELL.out _ HOL_11.out, HBv3_11.out⟩ (fun _ => ?_)
        obtain ⟨w12, hX⟩ : ∃ X, X = wr.drew := ⟨_, rfl⟩
        have bw : Below wr.heap.size wr w12 := by rw [hX]; exact (Below.refl _ _).drew
        rw [← hX]
        have hb12 : Below w.heap.size w (w12) := hb11.trans (bw.mono hb11.size)
        have HM12 : Hid ((wr).heap.size ≤ (w12).heap.size) := bw.size
        have HOX1_12 : Hid ((w12).ownsRow w.heap.size 9 1 (.slice oX1 xs1.length pX1) xs1.length (xs1.map Value.string)) := owns_below HOX1_11.out bw (fun g hg => owns_lt HOX1_11.out hg)
        have HOY1_12 : Hid ((w12).ownsRow w.heap.size 9 1 (.slice oY1 ys1.length pY1) ys1.length (ys1.map Value.string)) := owns_below HOY1_11.out bw (fun g hg => owns_lt HOY1_11.out hg)
        have HOG1_12 : Hid ((w12).ownsRow w.heap.size 75 2 (.slice oG1 fs1.length pG1) fs1.length (flatF fs1)) := owns_below HOG1_11.out bw (fun g hg => owns_lt HOG1_11.out hg)
        have HOX2_12 : Hid ((w12).ownsRow w.heap.size 9 1 (.slice oX2 xs2.length pX2) xs2.length (xs2.map Value.string)) := owns_below HOX2_11.out bw (fun g hg => owns_lt HOX2_11.out hg)
        have HOY2_12 : Hid ((w12).ownsRow w.heap.size 9 1 (.slice oY2 ys2.length pY2) ys2.length (ys2.map Value.string)) := owns_below HOY2_11.out bw (fun g hg => owns_lt HOY2_11.out hg)
        have HOG2_12 : Hid ((w12).ownsRow w.heap.size 75 2 (.slice oG2 fs2.length pG2) fs2.length (flatF fs2)) := owns_below HOG2_11.out bw (fun g hg => owns_lt HOG2_11.out hg)
        have HOL_12 : Hid ((w12).ownsRow w.heap.size 25 4 (.slice (some ⟨g, 0, none⟩) l.length pL) l.length (flatBan l)) := owns_below HOL_11.out bw (fun g hg => owns_lt HOL_11.out hg)
        have HBv1_12 : Hid ((w12).heap[qv1]? = some (.cells #[.int .i64 k, .string a, .string b, .int .i64 t] 25)) := blk_below HBv1_11.out bw
        have HBv2_12 : Hid ((w12).heap[qv2]? = some (.cells #[.string p1, .slice oX1 xs1.length pX1, .slice oY1 ys1.length pY1, .int .i64 st1, .slice oG1 fs1.length pG1, .string d1, .int .i64 u1] 31)) := blk_below HBv2_11.out bw
        have HBv3_12 : Hid ((w12).heap[qv3]? = some (.cells #[.string p2, .slice oX2 xs2.length pX2, .slice oY2 ys2.length pY2, .int .i64 st2, .slice oG2 fs2.length pG2, .string d2, .int .i64 u2] 31)) := blk_below HBv3_11.out bw
        have hS12 : (w12.cell? ⟨g, j * 4, none⟩ = some (.int .i64 y0) ∧ w12.cell? ⟨g, j * 4 + 1, none⟩ = some (.string y1) ∧ w12.cell? ⟨g, j * 4 + 2, none⟩ = some (.string y2) ∧ w12.cell? ⟨g, j * 4 + 3, none⟩ = some (.int .i64 y3)) ∧ w12.heap[qv3]? = some (.cells #[.string p2, .slice oX2 xs2.length pX2, .slice oY2 ys2.length pY2, .int .i64 st2, .slice oG2 fs2.length pG2, .string d2, .int .i64 u2] 31) := ⟨HELL.out _ HOL_12.out, HBv3_12.out⟩
        clear hb11 HOX1_11 HOY1_11 HOG1_11 HOX2_11 HOY2_11 HOG2_11 HOL_11 HBv1_11 HBv2_11 HBv3_11 bw hX
        refine wpAnyH_takeD (i := 0) (v := .bool ob) (some 67) rfl rfl (by kernel_rfl) (by kernel_rfl) (by kernel_rfl) (fun _ _ _ h => h) (Or.inl ⟨by rfl, by intro W _; go_simp⟩) hS12 ?_
        simp only [Act.put, List.setIfInBounds_toArray, List.set_cons_zero, List.set_cons_succ]
        refine wpAnyH_takeD (i := 1) (v := .bool ob) (some 68) rfl rfl (by kernel_rfl) (by kernel_rfl) (by kernel_rfl) (fun _ _ _ h => h) (Or.inl ⟨by rfl, by intro W _; go_simp⟩) hS12 ?_
        simp only [Act.put, List.setIfInBounds_toArray, List.set_cons_zero, List.set_cons_succ]
        cases ob with
        | false =>
          refine wpAnyH_takeD (i := 2) (v := .slice (some ⟨g, 0, none⟩) l.length pL) (some 69) rfl rfl (by kernel_rfl) (by kernel_rfl) (by kernel_rfl) (fun _ _ _ h => h) (Or.inl ⟨by rfl, by intro W _; go_simp⟩) hS12 ?_
          simp only [Act.put, List.setIfInBounds_toArray, List.set_cons_zero, List.set_cons_succ]
          refine wpAnyH_takeD (i := 3) (v := .int .i64 (j : Int)) (some 70) rfl rfl (by kernel_rfl) (by kernel_rfl) (by kernel_rfl) (fun _ _ _ h => h) (Or.inl ⟨by rfl, by intro W _; go_simp⟩) hS12 ?_
          simp only [Act.put, List.setIfInBounds_toArray, List.set_cons_zero, List.set_cons_succ]
          refine wpAnyH_takeD (i := 4) (v := .pointer (some ⟨g, j * 4, none⟩)) (some 71) rfl rfl (by kernel_rfl) (by kernel_rfl) (by kernel_rfl) (fun _ _ _ h => h) (Or.inl ⟨by rfl, by intro W _; go_simp⟩) hS12 ?_
          simp only [Act.put, List.setIfInBounds_toArray, List.set_cons_zero, List.set_cons_succ]
          refine wpAnyH_takeD (i := 5) (v := .agg #[.int .i64 y0, .string y1, .string y2, .int .i64 y3]) (some 72) rfl rfl (by kernel_rfl) (by kernel_rfl) (by kernel_rfl) (fun _ _ _ h => h) (Or.inl ⟨by rfl, by intro W hW; obtain ⟨hhE_L, hhv3⟩ := hW; have y0 := hhE_L.1; have y1 := hhE_L.2.1; have y2 := hhE_L.2.2.1; have y3 := hhE_L.2.2.2; go_simp⟩) hS12 ?_
          simp only [Act.put, List.setIfInBounds_toArray, List.set_cons_zero, List.set_cons_succ]
          refine wpAnyH_takeD (i := 6) (v := .agg #[.string p2, .slice oX2 xs2.length pX2, .slice oY2 ys2.length pY2, .int .i64 st2, .slice oG2 fs2.length pG2, .string d2, .int .i64 u2]) (some 73) rfl rfl (by kernel_rfl) (by kernel_rfl) (by kernel_rfl) (fun _ _ _ h => h) (Or.inl ⟨by rfl, by intro W hW; obtain ⟨hhE_L, hhv3⟩ := hW; have y0 := (cell_of hhv3 0).trans rfl; have y1 := (cell_of hhv3 1).trans rfl; have y2 := (cell_of hhv3 2).trans rfl; have y3 := (cell_of hhv3 3).trans rfl; have y4 := (cell_of hhv3 4).trans rfl; have y5 := (cell_of hhv3 5).trans rfl; have y6 := (cell_of hhv3 6).trans rfl; go_simp⟩) hS12 ?_
          simp only [Act.put, List.setIfInBounds_toArray, List.set_cons_zero, List.set_cons_succ]
          refine wpAnyH_ready (rs := [7]) (by kernel_rfl) (by simp) ?_
          refine AllReadyH.cons rfl (fun K hK => ?_) AllReadyH.nil
          go_simp
          refine (implHits_any y0 y1 y2 y3 p2 _ xs2.length _ xs2 _ ys2.length _ ys2 st2 _ fs2.length _ fs2 d2 u2 _ (by have := HZY2.out; unfold maxLen; omega) (by have := HZY2.out; unfold maxLen; omega) (texts_view HOX2_12.out) (texts_view HOY2_12.out) (FieldsV.of_owns HOG2_12.out) (by have := HSM2.out.2.1.1; omega) (by have := HSM2.out.2.2.1.1; omega) (by have := HSM2.out.2.2.2.1.1; omega) (fun i hi => by have := HSM2.out.2.1.2 _ (textAt_mem xs2 i hi); unfold maxLen; omega) (fun i hi => by have := HSM2.out.2.2.1.2 _ (textAt_mem ys2 i hi); unfold maxLen; omega) (shortWalk HSM2.out.2.2.2.1.2) HSM2.out.2.2.2.1.2.copy (by have := HSM2.out.1; unfold maxLen; omega) (by have := HSM2.out.2.2.2.2.1; unfold maxLen; omega) (by have := short_get2 HSM2.out.2.2.2.1.2 varyName; omega)).mono ?_
          rintro e w13 ⟨yh, rfl, hyh, bw⟩
          have HYH : Hid (yh = true ↔ HitP y0 y1 y2 y3 p2 xs2 ys2 st2 fs2 d2 u2) := hyh
          clear hyh
          have hb13 : Below w.heap.size w (w13) := hb12.trans (bw.mono hb12.size)
          have HM13 : Hid ((w12).heap.size ≤ (w13).heap.size) := bw.size
          have HOX1_13 : Hid ((w13).ownsRow w.heap.size 9 1 (.slice oX1 xs1.length pX1) xs1.length (xs1.map Value.string)) := owns_below HOX1_12.out bw (fun g hg => owns_lt HOX1_12.out hg)
          have HOY1_13 : Hid ((w13).ownsRow w.heap.size 9 1 (.slice oY1 ys1.length pY1) ys1.length (ys1.map Value.string)) := owns_below HOY1_12.out bw (fun g hg => owns_lt HOY1_12.out hg)
          have HOG1_13 : Hid ((w13).ownsRow w.heap.size 75 2 (.slice oG1 fs1.length pG1) fs1.length (flatF fs1)) := owns_below HOG1_12.out bw (fun g hg => owns_lt HOG1_12.out hg)
          have HOX2_13 : Hid ((w13).ownsRow w.heap.size 9 1 (.slice oX2 xs2.length pX2) xs2.length (xs2.map Value.string)) := owns_below HOX2_12.out bw (fun g hg => owns_lt HOX2_12.out hg)
          have HOY2_13 : Hid ((w13).ownsRow w.heap.size 9 1 (.slice oY2 ys2.length pY2) ys2.length (ys2.map Value.string)) := owns_below HOY2_12.out bw (fun g hg => owns_lt HOY2_12.out hg)
          have HOG2_13 : Hid ((w13).ownsRow w.heap.size 75 2 (.slice oG2 fs2.length pG2) fs2.length (flatF fs2)) := owns_below HOG2_12.out bw (fun g hg => owns_lt HOG2_12.out hg)
          have HOL_13 : Hid ((w13).ownsRow w.heap.size 25 4 (.slice (some ⟨g, 0, none⟩) l.length pL) l.length (flatBan l)) := owns_below HOL_12.out bw (fun g hg => owns_lt HOL_12.out hg)
          have HBv1_13 : Hid ((w13).heap[qv1]? = some (.cells #[.int .i64 k, .string a, .string b, .int .i64 t] 25)) := blk_below HBv1_12.out bw
          have HBv2_13 : Hid ((w13).heap[qv2]? = some (.cells #[.string p1, .slice oX1 xs1.length pX1, .slice oY1 ys1.length pY1, .int .i64 st1, .slice oG1 fs1.length pG1, .string d1, .int .i64 u1] 31)) := blk_below HBv2_12.out bw
          have HBv3_13 : Hid ((w13).heap[qv3]? = some (.cells #[.string p2, .slice oX2 xs2.length pX2, .slice oY2 ys2.length pY2, .int .i64 st2, .slice oG2 fs2.length pG2, .string d2, .int .i64 u2] 31)) := blk_below HBv3_12.out bw
          clear hb12 HOX1_12 HOY1_12 HOG1_12 HOX2_12 HOY2_12 HOG2_12 HOL_12 HBv1_12 HBv2_12 HBv3_12 bw
          have hS13 : (w13.cell? ⟨g, j * 4, none⟩ = some (.int .i64 y0) ∧ w13.cell? ⟨g, j * 4 + 1, none⟩ = some (.string y1) ∧ w13.cell? ⟨g, j * 4 + 2, none⟩ = some (.string y2) ∧ w13.cell? ⟨g, j * 4 + 3, none⟩ = some (.int .i64 y3)) ∧ w13.heap[qv3]? = some (.cells #[.string p2, .slice oX2 xs2.length pX2, .slice oY2 ys2.length pY2, .int .i64 st2, .slice oG2 fs2.length pG2, .string d2, .int .i64 u2] 31) := ⟨HELL.out _ HOL_13.out, HBv3_13.out⟩
          refine hK.out _ _ hS13 (fun _ => ?_)
          clear hK K hS12
          refine wpAnyH_takeD (i := 8) (v := .bool yh) (some 75) rfl rfl (by kernel_rfl) (by kernel_rfl) (by kernel_rfl) (fun _ _ _ h => h) (Or.inl ⟨by rfl, by intro W _; go_simp⟩) hS13 ?_
          simp only [Act.put, List.setIfInBounds_toArray, List.set_cons_zero, List.set_cons_succ]
          refine wpAnyH_takeD (i := 9) (v := .bool yh) (some 9) rfl rfl (by kernel_rfl) (by kernel_rfl) (by kernel_rfl) (fun _ _ _ h => h) (Or.inl ⟨by rfl, by intro W _; go_simp⟩) hS13 ?_
          simp only [Act.put, List.setIfInBounds_toArray, List.set_cons_zero, List.set_cons_succ]
          clear hS13
          refine wpAnyH_done (by kernel_rfl) ?_ _
          have HOB2 : Hid (yh = true ↔ ∃ x ∈ l.take (j + 1), HitP x.1 x.2.1 x.2.2.1 x.2.2.2 p2 xs2 ys2 st2 fs2 d2 u2) := by
            show _ ↔ _
            rw [HTK.out]
            have z1 := HOB.out
            have z2 := HYH.out
            constructor
            · intro h
              exact ⟨_, List.mem_append.2 (.inr (List.mem_singleton.2 rfl)), z2.1 h⟩
            · rintro ⟨x, hx, h⟩
              rcases List.mem_append.1 hx with hx | hx
              · exact absurd (z1.2 ⟨x, hx, h⟩) (by decide)
              · rw [List.mem_singleton.1 hx] at h
                exact z2.2 h
          clear HOB
          go_wp2_with fail
          go_roundw
          case rel => exact ⟨j + 1, _, by omega, by go_num, rfl, ⟨hb13, HBv1_13.out, HBv2_13.out, HBv3_13.out, HOX1_13.out, HOY1_13.out, HOG1_13.out, HOX2_13.out, HOY2_13.out, HOG2_13.out, HOL_13.out⟩, HOB2⟩
          case measure => simp [intOf]; omega
        | true =>
          refine wpAnyH_takeD (i := 2) (v := undef) (some 69) rfl rfl (by kernel_rfl) (by kernel_rfl) (by kernel_rfl) (fun _ _ _ h => h) (Or.inr ⟨by rfl, rfl⟩) hS12 ?_
          simp only [Act.put, List.setIfInBounds_toArray, List.set_cons_zero, List.set_cons_succ]
          refine wpAnyH_takeD (i := 3) (v := undef) (some 70) rfl rfl (by kernel_rfl) (by kernel_rfl) (by kernel_rfl) (fun _ _ _ h => h) (Or.inr ⟨by rfl, rfl⟩) hS12 ?_
          simp only [Act.put, List.setIfInBounds_toArray, List.set_cons_zero, List.set_cons_succ]
          refine wpAnyH_takeD (i := 4) (v := undef) (some 71) rfl rfl (by kernel_rfl) (by kernel_rfl) (by kernel_rfl) (fun _ _ _ h => h) (Or.inr ⟨by rfl, rfl⟩) hS12 ?_
          simp only [Act.put, List.setIfInBounds_toArray, List.set_cons_zero, List.set_cons_succ]
          refine wpAnyH_takeD (i := 5) (v := undef) (some 72) rfl rfl (by kernel_rfl) (by kernel_rfl) (by kernel_rfl) (fun _ _ _ h => h) (Or.inr ⟨by rfl, rfl⟩) hS12 ?_
          simp only [Act.put, List.setIfInBounds_toArray, List.set_cons_zero, List.set_cons_succ]
          refine wpAnyH_takeD (i := 6) (v := undef) (some 73) rfl rfl (by kernel_rfl) (by kernel_rfl) (by kernel_rfl) (fun _ _ _ h => h) (Or.inr ⟨by rfl, rfl⟩) hS12 ?_
          simp only [Act.put, List.setIfInBounds_toArray, List.set_cons_zero, List.set_cons_succ]
          refine wpAnyH_takeD (i := 7) (v := undef) (some 74) rfl rfl (by kernel_rfl) (by kernel_rfl) (by kernel_rfl) (fun _ _ _ h => h) (Or.inr ⟨by rfl, rfl⟩) hS12 ?_
          simp only [Act.put, List.setIfInBounds_toArray, List.set_cons_zero, List.set_cons_succ]
          refine wpAnyH_takeD (i := 8) (v := .bool true) (some 75) rfl rfl (by kernel_rfl) (by kernel_rfl) (by kernel_rfl) (fun _ _ _ h => h) (Or.inl ⟨by rfl, by intro W _; go_simp⟩) hS12 ?_
          simp only [Act.put, List.setIfInBounds_toArray, List.set_cons_zero, List.set_cons_succ]
          refine wpAnyH_takeD (i := 9) (v := .bool true) (some 9) rfl rfl (by kernel_rfl) (by kernel_rfl) (by kernel_rfl) (fun _ _ _ h => h) (Or.inl ⟨by rfl, by intro W _; go_simp⟩) hS12 ?_
          simp only [Act.put, List.setIfInBounds_toArray, List.set_cons_zero, List.set_cons_succ]
          clear hS12
          refine wpAnyH_done (by kernel_rfl) ?_ _
          have HOB2 : Hid (true = true ↔ ∃ x ∈ l.take (j + 1), HitP x.1 x.2.1 x.2.2.1 x.2.2.2 p2 xs2 ys2 st2 fs2 d2 u2) := by
            show _ ↔ _
            rw [HTK.out]
            have z1 := HOB.out
            constructor
            · intro _
              obtain ⟨x, hx, h⟩ := z1.1 rfl
              exact ⟨x, List.mem_append.2 (.inl hx), h⟩
            · intro _
              rfl
          clear HOB
          go_wp2_with fail
          go_roundw
          case rel => exact ⟨j + 1, _, by omega, by go_num, rfl, ⟨hb12, HBv1_12.out, HBv2_12.out, HBv3_12.out, HOX1_12.out, HOY1_12.out, HOG1_12.out, HOX2_12.out, HOY2_12.out, HOG2_12.out, HOL_12.out⟩, HOB2⟩
          case measure => simp [intOf]; omega
      · have hb11 := HW.out.1
        have HBv1_11 : Hid ((wr).heap[qv1]? = some (.cells #[.int .i64 k, .string a, .string b, .int .i64 t] 25)) := HW.out.2.1
        have HBv2_11 : Hid ((wr).heap[qv2]? = some (.cells #[.string p1, .slice oX1 xs1.length pX1, .slice oY1 ys1.length pY1, .int .i64 st1, .slice oG1 fs1.length pG1, .string d1, .int .i64 u1] 31)) := HW.out.2.2.1
        have HBv3_11 : Hid ((wr).heap[qv3]? = some (.cells #[.string p2, .slice oX2 xs2.length pX2, .slice oY2 ys2.length pY2, .int .i64 st2, .slice oG2 fs2.length pG2, .string d2, .int .i64 u2] 31)) := HW.out.2.2.2.1
        have HOX1_11 : Hid ((wr).ownsRow w.heap.size 9 1 (.slice oX1 xs1.length pX1) xs1.length (xs1.map Value.string)) := HW.out.2.2.2.2.1
        have HOY1_11 : Hid ((wr).ownsRow w.heap.size 9 1 (.slice oY1 ys1.length pY1) ys1.length (ys1.map Value.string)) := HW.out.2.2.2.2.2.1
        have HOG1_11 : Hid ((wr).ownsRow w.heap.size 75 2 (.slice oG1 fs1.length pG1) fs1.length (flatF fs1)) := HW.out.2.2.2.2.2.2.1
        have HOX2_11 : Hid ((wr).ownsRow w.heap.size 9 1 (.slice oX2 xs2.length pX2) xs2.length (xs2.map Value.string)) := HW.out.2.2.2.2.2.2.2.1
        have HOY2_11 : Hid ((wr).ownsRow w.heap.size 9 1 (.slice oY2 ys2.length pY2) ys2.length (ys2.map Value.string)) := HW.out.2.2.2.2.2.2.2.2.1
        have HOG2_11 : Hid ((wr).ownsRow w.heap.size 75 2 (.slice oG2 fs2.length pG2) fs2.length (flatF fs2)) := HW.out.2.2.2.2.2.2.2.2.2.1
        have HOL_11 : Hid ((wr).ownsRow w.heap.size 25 4 (.slice oL l.length pL) l.length (flatBan l)) := HW.out.2.2.2.2.2.2.2.2.2.2
        clear HW hb10 HOX1_10 HOY1_10 HOG1_10 HOX2_10 HOY2_10 HOG2_10 HOL_10 HBv1_10 HBv2_10 HBv3_10
        have hoa : ob = an := by
          rw [HAN.out, Bool.eq_iff_iff, HOB.out, decide_eq_true_iff, List.take_of_length_le (by omega)]
          rfl
        subst hoa
        clear HOB
        have cv1_0 : (wr).cell? ⟨qv1, 0, none⟩ = some (.int .i64 k) := (cell_of HBv1_11.out 0).trans rfl
        have cv1_1 : (wr).cell? ⟨qv1, 1, none⟩ = some (.string a) := (cell_of HBv1_11.out 1).trans rfl
        have cv1_2 : (wr).cell? ⟨qv1, 2, none⟩ = some (.string b) := (cell_of HBv1_11.out 2).trans rfl
        have cv1_3 : (wr).cell? ⟨qv1, 3, none⟩ = some (.int .i64 t) := (cell_of HBv1_11.out 3).trans rfl
        go_upto_region 17 with fail
        obtain ⟨qv4, hqv4⟩ : ∃ q, q = (wr).heap.size := ⟨_, rfl⟩
        obtain ⟨w12, hW12⟩ : ∃ W, W = (wr).alloc (.cells #[.int .i64 k, .string a, .string b, .int .i64 t] 25) := ⟨_, rfl⟩
        have hz12 : (wr).heap.size = qv4 := hqv4.symm
        first | rw [← hW12, ← hqv4] | rw [← hW12]
        have hs12 : w12.heap.size = qv4 + 1 := by rw [hW12, ← hz12]; simp
        have bw : Below (wr).heap.size (wr) w12 := by rw [hW12]; exact (Below.refl _ _).alloc (Nat.le_refl _) _
        have hb12 : Below w.heap.size w (w12) := hb11.trans (bw.mono hb11.size)
        have HM12 : Hid ((wr).heap.size ≤ (w12).heap.size) := bw.size
        have HOX1_12 : Hid ((w12).ownsRow w.heap.size 9 1 (.slice oX1 xs1.length pX1) xs1.length (xs1.map Value.string)) := owns_below HOX1_11.out bw (fun g hg => owns_lt HOX1_11.out hg)
        have HOY1_12 : Hid ((w12).ownsRow w.heap.size 9 1 (.slice oY1 ys1.length pY1) ys1.length (ys1.map Value.string)) := owns_below HOY1_11.out bw (fun g hg => owns_lt HOY1_11.out hg)
        have HOG1_12 : Hid ((w12).ownsRow w.heap.size 75 2 (.slice oG1 fs1.length pG1) fs1.length (flatF fs1)) := owns_below HOG1_11.out bw (fun g hg => owns_lt HOG1_11.out hg)
        have HOX2_12 : Hid ((w12).ownsRow w.heap.size 9 1 (.slice oX2 xs2.length pX2) xs2.length (xs2.map Value.string)) := owns_below HOX2_11.out bw (fun g hg => owns_lt HOX2_11.out hg)
        have HOY2_12 : Hid ((w12).ownsRow w.heap.size 9 1 (.slice oY2 ys2.length pY2) ys2.length (ys2.map Value.string)) := owns_below HOY2_11.out bw (fun g hg => owns_lt HOY2_11.out hg)
        have HOG2_12 : Hid ((w12).ownsRow w.heap.size 75 2 (.slice oG2 fs2.length pG2) fs2.length (flatF fs2)) := owns_below HOG2_11.out bw (fun g hg => owns_lt HOG2_11.out hg)
        have HOL_12 : Hid ((w12).ownsRow w.heap.size 25 4 (.slice oL l.length pL) l.length (flatBan l)) := owns_below HOL_11.out bw (fun g hg => owns_lt HOL_11.out hg)
        have HBv1_12 : Hid ((w12).heap[qv1]? = some (.cells #[.int .i64 k, .string a, .string b, .int .i64 t] 25)) := blk_below HBv1_11.out bw
        have HBv2_12 : Hid ((w12).heap[qv2]? = some (.cells #[.string p1, .slice oX1 xs1.length pX1, .slice oY1 ys1.length pY1, .int .i64 st1, .slice oG1 fs1.length pG1, .string d1, .int .i64 u1] 31)) := blk_below HBv2_11.out bw
        have HBv3_12 : Hid ((w12).heap[qv3]? = some (.cells #[.string p2, .slice oX2 xs2.length pX2, .slice oY2 ys2.length pY2, .int .i64 st2, .slice oG2 fs2.length pG2, .string d2, .int .i64 u2] 31)) := blk_below HBv3_11.out bw
        have HNv1v4 : Hid (qv1 ≠ qv4) := fun e => by have h1 := (Array.getElem?_eq_some_iff.1 HBv1_11.out).1; omega
        have HNv2v4 : Hid (qv2 ≠ qv4) := fun e => by have h1 := (Array.getElem?_eq_some_iff.1 HBv2_11.out).1; omega
        have HNv3v4 : Hid (qv3 ≠ qv4) := fun e => by have h1 := (Array.getElem?_eq_some_iff.1 HBv3_11.out).1; omega
        have HRLv4 : Hid (∀ g, (Value.ownBlock (.slice oL l.length pL)) = some g → g ≠ qv4) := fun g hg e => by have h1 := owns_lt HOL_11.out hg; omega
        have HBv4_12 : Hid ((w12).heap[qv4]? = some (.cells #[.int .i64 k, .string a, .string b, .int .i64 t] 25)) := by show _ = _; rw [hW12, ← hz12]; exact heap_alloc_new _ _
        have HGv4 : Hid (w.heap.size ≤ qv4) := by show _ ≤ _; rw [← hz12]; exact hb11.size
        clear hb11 HOX1_11 HOY1_11 HOG1_11 HOX2_11 HOY2_11 HOG2_11 HOL_11 HBv1_11 HBv2_11 HBv3_11 bw hW12 hz12
        clear hs12 hqv4
        clear cv1_0 cv1_1 cv1_2 cv1_3
        have cv4_3 : (w12).cell? ⟨qv4, 3, none⟩ = some (.int .i64 t) := (cell_of HBv4_12.out 3).trans rfl
        have fcv4_3 : (w12).frozen? ⟨qv4, 3, none⟩ = false := frozen_of HBv4_12.out 3
        go_upto_region 18 with fail
        obtain ⟨w13, hW13⟩ : ∃ W, W = (w12).setCell ⟨qv4, 3, none⟩ (.int .i64 1000000) := ⟨_, rfl⟩
        rw [← hW13]
        have hb13 : Below w.heap.size w (w13) := by rw [hW13]; exact (hb12.setCell (p := ⟨qv4, 3, none⟩) HGv4.out _)
        have HM13 : Hid ((w12).heap.size ≤ w13.heap.size) := by show _ ≤ _; rw [hW13]; simp
        have HOX1_13 : Hid ((w13).ownsRow w.heap.size 9 1 (.slice oX1 xs1.length pX1) xs1.length (xs1.map Value.string)) := by show World.ownsRow _ _ _ _ _ _ _; rw [hW13]; exact owns_same HOX1_12.out (fun g hg => heap_setCell_other _ _ g _ (own_ne HOX1_12.out HBv4_12.out (by decide) g hg))
        have HOY1_13 : Hid ((w13).ownsRow w.heap.size 9 1 (.slice oY1 ys1.length pY1) ys1.length (ys1.map Value.string)) := by show World.ownsRow _ _ _ _ _ _ _; rw [hW13]; exact owns_same HOY1_12.out (fun g hg => heap_setCell_other _ _ g _ (own_ne HOY1_12.out HBv4_12.out (by decide) g hg))
        have HOG1_13 : Hid ((w13).ownsRow w.heap.size 75 2 (.slice oG1 fs1.length pG1) fs1.length (flatF fs1)) := by show World.ownsRow _ _ _ _ _ _ _; rw [hW13]; exact owns_same HOG1_12.out (fun g hg => heap_setCell_other _ _ g _ (own_ne HOG1_12.out HBv4_12.out (by decide) g hg))
        have HOX2_13 : Hid ((w13).ownsRow w.heap.size 9 1 (.slice oX2 xs2.length pX2) xs2.length (xs2.map Value.string)) := by show World.ownsRow _ _ _ _ _ _ _; rw [hW13]; exact owns_same HOX2_12.out (fun g hg => heap_setCell_other _ _ g _ (own_ne HOX2_12.out HBv4_12.out (by decide) g hg))
        have HOY2_13 : Hid ((w13).ownsRow w.heap.size 9 1 (.slice oY2 ys2.length pY2) ys2.length (ys2.map Value.string)) := by show World.ownsRow _ _ _ _ _ _ _; rw [hW13]; exact owns_same HOY2_12.out (fun g hg => heap_setCell_other _ _ g _ (own_ne HOY2_12.out HBv4_12.out (by decide) g hg))
        have HOG2_13 : Hid ((w13).ownsRow w.heap.size 75 2 (.slice oG2 fs2.length pG2) fs2.length (flatF fs2)) := by show World.ownsRow _ _ _ _ _ _ _; rw [hW13]; exact owns_same HOG2_12.out (fun g hg => heap_setCell_other _ _ g _ (own_ne HOG2_12.out HBv4_12.out (by decide) g hg))
        have HOL_13 : Hid ((w13).ownsRow w.heap.size 25 4 (.slice oL l.length pL) l.length (flatBan l)) := by show World.ownsRow _ _ _ _ _ _ _; rw [hW13]; exact owns_same HOL_12.out (fun g hg => heap_setCell_other _ _ g _ (HRLv4.out g hg))
        have HBv1_13 : Hid ((w13).heap[qv1]? = some (.cells #[.int .i64 k, .string a, .string b, .int .i64 t] 25)) := by show _ = _; rw [hW13, heap_setCell_other _ _ _ _ HNv1v4.out]; exact HBv1_12.out
        have HBv2_13 : Hid ((w13).heap[qv2]? = some (.cells #[.string p1, .slice oX1 xs1.length pX1, .slice oY1 ys1.length pY1, .int .i64 st1, .slice oG1 fs1.length pG1, .string d1, .int .i64 u1] 31)) := by show _ = _; rw [hW13, heap_setCell_other _ _ _ _ HNv2v4.out]; exact HBv2_12.out
        have HBv3_13 : Hid ((w13).heap[qv3]? = some (.cells #[.string p2, .slice oX2 xs2.length pX2, .slice oY2 ys2.length pY2, .int .i64 st2, .slice oG2 fs2.length pG2, .string d2, .int .i64 u2] 31)) := by show _ = _; rw [hW13, heap_setCell_other _ _ _ _ HNv3v4.out]; exact HBv3_12.out
        have HBv4_13 : Hid ((w13).heap[qv4]? = some (.cells #[.int .i64 k, .string a, .string b, .int .i64 1000000] 25)) := by show _ = _; rw [hW13]; have h := heap_set _ _ 3 _ _ _ (.int .i64 1000000) HBv4_12.out; simpa using h
        clear hb12 HOX1_12 HOY1_12 HOG1_12 HOX2_12 HOY2_12 HOG2_12 HOL_12 HBv1_12 HBv2_12 HBv3_12 HBv4_12 hW13
        clear cv4_3 fcv4_3
        by_cases hc1 : k = 1
        · have hc1b : ((k : Int) == (1 : Int)) = true := by simpa using hc1
          have hc1n : ((k : Int) != (1 : Int)) = false := by simpa using hc1
          have HK1 : Hid (k = 1) := hc1
          have hc1H : Hid (k = 1) := hc1
          clear hc1
          have cv1_0 : (w13).cell? ⟨qv1, 0, none⟩ = some (.int .i64 k) := (cell_of HBv1_13.out 0).trans rfl
          go_wp2_with fail
          go_ret
          exact ⟨rfl, hb13⟩
        · have hc1b : ((k : Int) == (1 : Int)) = false := by simpa using hc1
          have hc1n : ((k : Int) != (1 : Int)) = true := by simpa using hc1
          have HK1 : Hid (¬ k = 1) := hc1
          have hc1H : Hid (¬ (k = 1)) := hc1
          clear hc1
          have cv1_0 : (w13).cell? ⟨qv1, 0, none⟩ = some (.int .i64 k) := (cell_of HBv1_13.out 0).trans rfl
          go_wp2_with fail
          go_ret
          exact ⟨rfl, hb13⟩
  | true =>
    have HK : Hid (HitP k a b t p1 xs1 ys1 st1 fs1 d1 u1) := (show HitP k a b t p1 xs1 ys1 st1 fs1 d1 u1 from of_decide_eq_true HHE.out.symm)
    have hut : ¬ t < u1 := by have := HK.out.2.2.1; omega
    clear HHE
    have cv1_0 : (w4).cell? ⟨qv1, 0, none⟩ = some (.int .i64 k) := (cell_of HBv1_4.out 0).trans rfl
    have cv1_1 : (w4).cell? ⟨qv1, 1, none⟩ = some (.string a) := (cell_of HBv1_4.out 1).trans rfl
    have cv1_2 : (w4).cell? ⟨qv1, 2, none⟩ = some (.string b) := (cell_of HBv1_4.out 2).trans rfl
    have cv1_3 : (w4).cell? ⟨qv1, 3, none⟩ = some (.int .i64 t) := (cell_of HBv1_4.out 3).trans rfl
    have cv2_0 : (w4).cell? ⟨qv2, 0, none⟩ = some (.string p1) := (cell_of HBv2_4.out 0).trans rfl
    have cv2_1 : (w4).cell? ⟨qv2, 1, none⟩ = some (.slice oX1 xs1.length pX1) := (cell_of HBv2_4.out 1).trans rfl
    have cv2_2 : (w4).cell? ⟨qv2, 2, none⟩ = some (.slice oY1 ys1.length pY1) := (cell_of HBv2_4.out 2).trans rfl
    have cv2_3 : (w4).cell? ⟨qv2, 3, none⟩ = some (.int .i64 st1) := (cell_of HBv2_4.out 3).trans rfl
    have cv2_4 : (w4).cell? ⟨qv2, 4, none⟩ = some (.slice oG1 fs1.length pG1) := (cell_of HBv2_4.out 4).trans rfl
    have cv2_5 : (w4).cell? ⟨qv2, 5, none⟩ = some (.string d1) := (cell_of HBv2_4.out 5).trans rfl
    have cv2_6 : (w4).cell? ⟨qv2, 6, none⟩ = some (.int .i64 u1) := (cell_of HBv2_4.out 6).trans rfl
    go_wp2_with fail
    refine (implHits_any k a b t p1 _ xs1.length _ xs1 _ ys1.length _ ys1 st1 _ fs1.length _ fs1 d1 u1 _ (by have := HZB.out; unfold maxLen; omega) (by have := HZB.out; unfold maxLen; omega) (texts_view HOX1_4.out) (texts_view HOY1_4.out) (FieldsV.of_owns HOG1_4.out) (by have := HSM1.out.2.1.1; omega) (by have := HSM1.out.2.2.1.1; omega) (by have := HSM1.out.2.2.2.1.1; omega) (fun i hi => by have := HSM1.out.2.1.2 _ (textAt_mem xs1 i hi); unfold maxLen; omega) (fun i hi => by have := HSM1.out.2.2.1.2 _ (textAt_mem ys1 i hi); unfold maxLen; omega) (shortWalk HSM1.out.2.2.2.1.2) HSM1.out.2.2.2.1.2.copy (by have := HSM1.out.1; unfold maxLen; omega) (by have := HSM1.out.2.2.2.2.1; unfold maxLen; omega) (by have := short_get2 HSM1.out.2.2.2.1.2 varyName; omega)).mono ?_
    rintro e w5 ⟨bb, rfl, hbb, bw⟩
    obtain rfl : true = bb := (hbb.2 HK.out).symm
    clear hbb
    have hb5 : Below w.heap.size w (w5) := hb4.trans (bw.mono hb4.size)
    have HM5 : Hid ((w4).heap.size ≤ (w5).heap.size) := bw.size
    have HOX1_5 : Hid ((w5).ownsRow w.heap.size 9 1 (.slice oX1 xs1.length pX1) xs1.length (xs1.map Value.string)) := owns_below HOX1_4.out bw (fun g hg => owns_lt HOX1_4.out hg)
    have HOY1_5 : Hid ((w5).ownsRow w.heap.size 9 1 (.slice oY1 ys1.length pY1) ys1.length (ys1.map Value.string)) := owns_below HOY1_4.out bw (fun g hg => owns_lt HOY1_4.out hg)
    have HOG1_5 : Hid ((w5).ownsRow w.heap.size 75 2 (.slice oG1 fs1.length pG1) fs1.length (flatF fs1)) := owns_below HOG1_4.out bw (fun g hg => owns_lt HOG1_4.out hg)
    have HBv1_5 : Hid ((w5).heap[qv1]? = some (.cells #[.int .i64 k, .string a, .string b, .int .i64 t] 25)) := blk_below HBv1_4.out bw
    have HBv2_5 : Hid ((w5).heap[qv2]? = some (.cells #[.string p1, .slice oX1 xs1.length pX1, .slice oY1 ys1.length pY1, .int .i64 st1, .slice oG1 fs1.length pG1, .string d1, .int .i64 u1] 31)) := blk_below HBv2_4.out bw
    clear hb4 HOX1_4 HOY1_4 HOG1_4 HBv1_4 HBv2_4 bw
    clear cv1_0 cv1_1 cv1_2 cv1_3 cv2_0 cv2_1 cv2_2 cv2_3 cv2_4 cv2_5 cv2_6
    have cv1_0 : (w5).cell? ⟨qv1, 0, none⟩ = some (.int .i64 k) := (cell_of HBv1_5.out 0).trans rfl
    have cv1_1 : (w5).cell? ⟨qv1, 1, none⟩ = some (.string a) := (cell_of HBv1_5.out 1).trans rfl
    have cv1_2 : (w5).cell? ⟨qv1, 2, none⟩ = some (.string b) := (cell_of HBv1_5.out 2).trans rfl
    have cv1_3 : (w5).cell? ⟨qv1, 3, none⟩ = some (.int .i64 t) := (cell_of HBv1_5.out 3).trans rfl
    have cv2_0 : (w5).cell? ⟨qv2, 0, none⟩ = some (.string p1) := (cell_of HBv2_5.out 0).trans rfl
    have cv2_1 : (w5).cell? ⟨qv2, 1, none⟩ = some (.slice oX1 xs1.length pX1) := (cell_of HBv2_5.out 1).trans rfl
    have cv2_2 : (w5).cell? ⟨qv2, 2, none⟩ = some (.slice oY1 ys1.length pY1) := (cell_of HBv2_5.out 2).trans rfl
    have cv2_3 : (w5).cell? ⟨qv2, 3, none⟩ = some (.int .i64 st1) := (cell_of HBv2_5.out 3).trans rfl
    have cv2_4 : (w5).cell? ⟨qv2, 4, none⟩ = some (.slice oG1 fs1.length pG1) := (cell_of HBv2_5.out 4).trans rfl
    have cv2_5 : (w5).cell? ⟨qv2, 5, none⟩ = some (.string d1) := (cell_of HBv2_5.out 5).trans rfl
    have cv2_6 : (w5).cell? ⟨qv2, 6, none⟩ = some (.int .i64 u1) := (cell_of HBv2_5.out 6).trans rfl
    go_wp2_with fail
    refine (specHits_any k a b t p1 _ xs1.length _ xs1 _ ys1.length _ ys1 st1 _ fs1.length _ fs1 d1 u1 _ (by have := HZB.out; unfold maxLen; omega) (by have := HZB.out; unfold maxLen; omega) (texts_view HOX1_5.out) (texts_view HOY1_5.out) (FieldsV.of_owns HOG1_5.out) (by have := HSM1.out.2.1.1; omega) (by have := HSM1.out.2.2.1.1; omega) (by have := HSM1.out.2.2.2.1.1; omega) (fun i hi => by have := HSM1.out.2.1.2 _ (textAt_mem xs1 i hi); unfold maxLen; omega) (fun i hi => by have := HSM1.out.2.2.1.2 _ (textAt_mem ys1 i hi); unfold maxLen; omega) (shortWalk HSM1.out.2.2.2.1.2) (by have := HSM1.out.1; unfold maxLen; omega) (by have := HSM1.out.2.2.2.2.1; unfold maxLen; omega) (by have := short_get2 HSM1.out.2.2.2.1.2 varyName; omega)).mono ?_
    rintro e w6 ⟨bb, rfl, hbb, bw⟩
    obtain rfl : true = bb := (hbb.2 HK.out).symm
    clear hbb
    have hb6 : Below w.heap.size w (w6) := hb5.trans (bw.mono hb5.size)
    have HM6 : Hid ((w5).heap.size ≤ (w6).heap.size) := bw.size
    have HOX1_6 : Hid ((w6).ownsRow w.heap.size 9 1 (.slice oX1 xs1.length pX1) xs1.length (xs1.map Value.string)) := owns_below HOX1_5.out bw (fun g hg => owns_lt HOX1_5.out hg)
    have HOY1_6 : Hid ((w6).ownsRow w.heap.size 9 1 (.slice oY1 ys1.length pY1) ys1.length (ys1.map Value.string)) := owns_below HOY1_5.out bw (fun g hg => owns_lt HOY1_5.out hg)
    have HOG1_6 : Hid ((w6).ownsRow w.heap.size 75 2 (.slice oG1 fs1.length pG1) fs1.length (flatF fs1)) := owns_below HOG1_5.out bw (fun g hg => owns_lt HOG1_5.out hg)
    have HBv1_6 : Hid ((w6).heap[qv1]? = some (.cells #[.int .i64 k, .string a, .string b, .int .i64 t] 25)) := blk_below HBv1_5.out bw
    have HBv2_6 : Hid ((w6).heap[qv2]? = some (.cells #[.string p1, .slice oX1 xs1.length pX1, .slice oY1 ys1.length pY1, .int .i64 st1, .slice oG1 fs1.length pG1, .string d1, .int .i64 u1] 31)) := blk_below HBv2_5.out bw
    clear hb5 HOX1_5 HOY1_5 HOG1_5 HBv1_5 HBv2_5 bw
    clear cv1_0 cv1_1 cv1_2 cv1_3 cv2_0 cv2_1 cv2_2 cv2_3 cv2_4 cv2_5 cv2_6
    have cv1_0 : (w6).cell? ⟨qv1, 0, none⟩ = some (.int .i64 k) := (cell_of HBv1_6.out 0).trans rfl
    have cv1_1 : (w6).cell? ⟨qv1, 1, none⟩ = some (.string a) := (cell_of HBv1_6.out 1).trans rfl
    have cv1_2 : (w6).cell? ⟨qv1, 2, none⟩ = some (.string b) := (cell_of HBv1_6.out 2).trans rfl
    have cv1_3 : (w6).cell? ⟨qv1, 3, none⟩ = some (.int .i64 t) := (cell_of HBv1_6.out 3).trans rfl
    have cv2_6 : (w6).cell? ⟨qv2, 6, none⟩ = some (.int .i64 u1) := (cell_of HBv2_6.out 6).trans rfl
    go_wp2_with fail
    refine (implBanOk_any k a b t _ (by have := HZB.out; unfold maxLen; omega) (by have := HZB.out; unfold maxLen; omega)).mono ?_
    rintro e w7 ⟨bb, rfl, hbb, bw⟩
    obtain rfl : true = bb := (hbb.2 HK.out.1).symm
    clear hbb
    have hb7 : Below w.heap.size w (w7) := hb6.trans (bw.mono hb6.size)
    have HM7 : Hid ((w6).heap.size ≤ (w7).heap.size) := bw.size
    have HOX1_7 : Hid ((w7).ownsRow w.heap.size 9 1 (.slice oX1 xs1.length pX1) xs1.length (xs1.map Value.string)) := owns_below HOX1_6.out bw (fun g hg => owns_lt HOX1_6.out hg)
    have HOY1_7 : Hid ((w7).ownsRow w.heap.size 9 1 (.slice oY1 ys1.length pY1) ys1.length (ys1.map Value.string)) := owns_below HOY1_6.out bw (fun g hg => owns_lt HOY1_6.out hg)
    have HOG1_7 : Hid ((w7).ownsRow w.heap.size 75 2 (.slice oG1 fs1.length pG1) fs1.length (flatF fs1)) := owns_below HOG1_6.out bw (fun g hg => owns_lt HOG1_6.out hg)
    have HBv1_7 : Hid ((w7).heap[qv1]? = some (.cells #[.int .i64 k, .string a, .string b, .int .i64 t] 25)) := blk_below HBv1_6.out bw
    have HBv2_7 : Hid ((w7).heap[qv2]? = some (.cells #[.string p1, .slice oX1 xs1.length pX1, .slice oY1 ys1.length pY1, .int .i64 st1, .slice oG1 fs1.length pG1, .string d1, .int .i64 u1] 31)) := blk_below HBv2_6.out bw
    clear hb6 HOX1_6 HOY1_6 HOG1_6 HBv1_6 HBv2_6 bw
    clear cv1_0 cv1_1 cv1_2 cv1_3 cv2_6
    have cv2_0 : (w7).cell? ⟨qv2, 0, none⟩ = some (.string p1) := (cell_of HBv2_7.out 0).trans rfl
    have cv2_1 : (w7).cell? ⟨qv2, 1, none⟩ = some (.slice oX1 xs1.length pX1) := (cell_of HBv2_7.out 1).trans rfl
    have cv2_2 : (w7).cell? ⟨qv2, 2, none⟩ = some (.slice oY1 ys1.length pY1) := (cell_of HBv2_7.out 2).trans rfl
    have cv2_3 : (w7).cell? ⟨qv2, 3, none⟩ = some (.int .i64 st1) := (cell_of HBv2_7.out 3).trans rfl
    have cv2_4 : (w7).cell? ⟨qv2, 4, none⟩ = some (.slice oG1 fs1.length pG1) := (cell_of HBv2_7.out 4).trans rfl
    have cv2_5 : (w7).cell? ⟨qv2, 5, none⟩ = some (.string d1) := (cell_of HBv2_7.out 5).trans rfl
    have cv2_6 : (w7).cell? ⟨qv2, 6, none⟩ = some (.int .i64 u1) := (cell_of HBv2_7.out 6).trans rfl
    go_wp2_with fail
    refine (implObjOk_any p1 _ xs1.length _ xs1 _ ys1.length _ ys1 st1 _ fs1.length _ fs1 d1 u1 _ (texts_view HOX1_7.out) (texts_view HOY1_7.out) (FieldsV.of_owns HOG1_7.out) (by have := HSM1.out.2.1.1; omega) (by have := HSM1.out.2.2.1.1; omega) (by have := HSM1.out.2.2.2.1.1; omega) (fun i hi => by have := HSM1.out.2.1.2 _ (textAt_mem xs1 i hi); unfold maxLen; omega) (fun i hi => by have := HSM1.out.2.2.1.2 _ (textAt_mem ys1 i hi); unfold maxLen; omega) (shortWalk HSM1.out.2.2.2.1.2) HSM1.out.2.2.2.1.2.copy (by have := HSM1.out.1; unfold maxLen; omega) (by have := HSM1.out.2.2.2.2.1; unfold maxLen; omega) (by have := short_get2 HSM1.out.2.2.2.1.2 varyName; omega)).mono ?_
    rintro e w8 ⟨bb, rfl, hbb, bw⟩
    obtain rfl : true = bb := (hbb.2 HK.out.2.1).symm
    clear hbb
    have hb8 : Below w.heap.size w (w8) := hb7.trans (bw.mono hb7.size)
    have HM8 : Hid ((w7).heap.size ≤ (w8).heap.size) := bw.size
    have HOX1_8 : Hid ((w8).ownsRow w.heap.size 9 1 (.slice oX1 xs1.length pX1) xs1.length (xs1.map Value.string)) := owns_below HOX1_7.out bw (fun g hg => owns_lt HOX1_7.out hg)
    have HOY1_8 : Hid ((w8).ownsRow w.heap.size 9 1 (.slice oY1 ys1.length pY1) ys1.length (ys1.map Value.string)) := owns_below HOY1_7.out bw (fun g hg => owns_lt HOY1_7.out hg)
    have HOG1_8 : Hid ((w8).ownsRow w.heap.size 75 2 (.slice oG1 fs1.length pG1) fs1.length (flatF fs1)) := owns_below HOG1_7.out bw (fun g hg => owns_lt HOG1_7.out hg)
    have HBv1_8 : Hid ((w8).heap[qv1]? = some (.cells #[.int .i64 k, .string a, .string b, .int .i64 t] 25)) := blk_below HBv1_7.out bw
    have HBv2_8 : Hid ((w8).heap[qv2]? = some (.cells #[.string p1, .slice oX1 xs1.length pX1, .slice oY1 ys1.length pY1, .int .i64 st1, .slice oG1 fs1.length pG1, .string d1, .int .i64 u1] 31)) := blk_below HBv2_7.out bw
    clear hb7 HOX1_7 HOY1_7 HOG1_7 HBv1_7 HBv2_7 bw
    clear cv2_0 cv2_1 cv2_2 cv2_3 cv2_4 cv2_5 cv2_6
    go_wp2_with fail
    refine (drawHitsAny_any a0 len0 cap0 zc0 _ (HCODE.out _ hb8)).mono ?_
    rintro e w9 ⟨vv0, l, p2, vv1, xs2, vv2, ys2, st2, vv3, fs2, d2, u2, rfl, ownL, hz, ⟨ownX2, ownY2, ownG2⟩, hsm, bw⟩
    obtain ⟨oL, pL, rfl⟩ := slice_of_owns ownL
    obtain ⟨oX2, pX2, rfl⟩ := slice_of_owns ownX2
    obtain ⟨oY2, pY2, rfl⟩ := slice_of_owns ownY2
    obtain ⟨oG2, pG2, rfl⟩ := slice_of_owns ownG2
    have HSM2 : Hid (SmallO p2 xs2 ys2 fs2 d2 u2) := hsm
    have hll := hz.1
    have HZL : Hid (∀ x ∈ l, (x.2.1).size ≤ 64 ∧ (x.2.2.1).size ≤ 64) := hz.2
    obtain ⟨an, hanE⟩ : ∃ x, x = decide (AnyP l p2 xs2 ys2 st2 fs2 d2 u2) := ⟨_, rfl⟩
    have HAN : Hid (an = decide (AnyP l p2 xs2 ys2 st2 fs2 d2 u2)) := hanE
    have haa : (an != an) = false := by simp
    have hae : (an == an) = true := by simp
    clear hsm hz hanE
    have hb9 : Below w.heap.size w (w9) := hb8.trans (bw.mono hb8.size)
    have HM9 : Hid ((w8).heap.size ≤ (w9).heap.size) := bw.size
    have HOX1_9 : Hid ((w9).ownsRow w.heap.size 9 1 (.slice oX1 xs1.length pX1) xs1.length (xs1.map Value.string)) := owns_below HOX1_8.out bw (fun g hg => owns_lt HOX1_8.out hg)
    have HOY1_9 : Hid ((w9).ownsRow w.heap.size 9 1 (.slice oY1 ys1.length pY1) ys1.length (ys1.map Value.string)) := owns_below HOY1_8.out bw (fun g hg => owns_lt HOY1_8.out hg)
    have HOG1_9 : Hid ((w9).ownsRow w.heap.size 75 2 (.slice oG1 fs1.length pG1) fs1.length (flatF fs1)) := owns_below HOG1_8.out bw (fun g hg => owns_lt HOG1_8.out hg)
    have HBv1_9 : Hid ((w9).heap[qv1]? = some (.cells #[.int .i64 k, .string a, .string b, .int .i64 t] 25)) := blk_below HBv1_8.out bw
    have HBv2_9 : Hid ((w9).heap[qv2]? = some (.cells #[.string p1, .slice oX1 xs1.length pX1, .slice oY1 ys1.length pY1, .int .i64 st1, .slice oG1 fs1.length pG1, .string d1, .int .i64 u1] 31)) := blk_below HBv2_8.out bw
    have HOX2_9 : Hid ((w9).ownsRow w.heap.size 9 1 (.slice oX2 xs2.length pX2) xs2.length (xs2.map Value.string)) := owns_wide ownX2 hb8.size
    have LOX2 : Hid (∀ g, (Value.ownBlock (.slice oX2 xs2.length pX2)) = some g → (w8).heap.size ≤ g) := fun g hg => owns_ge ownX2 hg
    have HIX2 : Hid (∀ g, (Value.ownBlock (.slice oX2 xs2.length pX2)) = some g → g < (w9).heap.size) := fun g hg => owns_lt ownX2 hg
    clear ownX2
    have HOY2_9 : Hid ((w9).ownsRow w.heap.size 9 1 (.slice oY2 ys2.length pY2) ys2.length (ys2.map Value.string)) := owns_wide ownY2 hb8.size
    have LOY2 : Hid (∀ g, (Value.ownBlock (.slice oY2 ys2.length pY2)) = some g → (w8).heap.size ≤ g) := fun g hg => owns_ge ownY2 hg
    have HIY2 : Hid (∀ g, (Value.ownBlock (.slice oY2 ys2.length pY2)) = some g → g < (w9).heap.size) := fun g hg => owns_lt ownY2 hg
    clear ownY2
    have HOG2_9 : Hid ((w9).ownsRow w.heap.size 75 2 (.slice oG2 fs2.length pG2) fs2.length (flatF fs2)) := owns_wide ownG2 hb8.size
    have LOG2 : Hid (∀ g, (Value.ownBlock (.slice oG2 fs2.length pG2)) = some g → (w8).heap.size ≤ g) := fun g hg => owns_ge ownG2 hg
    have HIG2 : Hid (∀ g, (Value.ownBlock (.slice oG2 fs2.length pG2)) = some g → g < (w9).heap.size) := fun g hg => owns_lt ownG2 hg
    clear ownG2
    have HOL_9 : Hid ((w9).ownsRow w.heap.size 25 4 (.slice oL l.length pL) l.length (flatBan l)) := owns_wide ownL hb8.size
    have LOL : Hid (∀ g, (Value.ownBlock (.slice oL l.length pL)) = some g → (w8).heap.size ≤ g) := fun g hg => owns_ge ownL hg
    have HIL : Hid (∀ g, (Value.ownBlock (.slice oL l.length pL)) = some g → g < (w9).heap.size) := fun g hg => owns_lt ownL hg
    clear ownL
    have HRLv1 : Hid (∀ g, (Value.ownBlock (.slice oL l.length pL)) = some g → g ≠ qv1) := fun g hg e => by have h1 := LOL.out g hg; have h2 := (Array.getElem?_eq_some_iff.1 HBv1_8.out).1; omega
    clear hb8 HOX1_8 HOY1_8 HOG1_8 HBv1_8 HBv2_8 bw
    go_upto_region 8 with fail
    obtain ⟨qv3, hqv3⟩ : ∃ q, q = (w9).heap.size := ⟨_, rfl⟩
    obtain ⟨w10, hW10⟩ : ∃ W, W = (w9).alloc (.cells #[.string p2, .slice oX2 xs2.length pX2, .slice oY2 ys2.length pY2, .int .i64 st2, .slice oG2 fs2.length pG2, .string d2, .int .i64 u2] 31) := ⟨_, rfl⟩
    have hz10 : (w9).heap.size = qv3 := hqv3.symm
    first | rw [← hW10, ← hqv3] | rw [← hW10]
    have hs10 : w10.heap.size = qv3 + 1 := by rw [hW10, ← hz10]; simp
    have bw : Below (w9).heap.size (w9) w10 := by rw [hW10]; exact (Below.refl _ _).alloc (Nat.le_refl _) _
    have hb10 : Below w.heap.size w (w10) := hb9.trans (bw.mono hb9.size)
    have HM10 : Hid ((w9).heap.size ≤ (w10).heap.size) := bw.size
    have HOX1_10 : Hid ((w10).ownsRow w.heap.size 9 1 (.slice oX1 xs1.length pX1) xs1.length (xs1.map Value.string)) := owns_below HOX1_9.out bw (fun g hg => owns_lt HOX1_9.out hg)
    have HOY1_10 : Hid ((w10).ownsRow w.heap.size 9 1 (.slice oY1 ys1.length pY1) ys1.length (ys1.map Value.string)) := owns_below HOY1_9.out bw (fun g hg => owns_lt HOY1_9.out hg)
    have HOG1_10 : Hid ((w10).ownsRow w.heap.size 75 2 (.slice oG1 fs1.length pG1) fs1.length (flatF fs1)) := owns_below HOG1_9.out bw (fun g hg => owns_lt HOG1_9.out hg)
    have HOX2_10 : Hid ((w10).ownsRow w.heap.size 9 1 (.slice oX2 xs2.length pX2) xs2.length (xs2.map Value.string)) := owns_below HOX2_9.out bw (fun g hg => owns_lt HOX2_9.out hg)
    have HOY2_10 : Hid ((w10).ownsRow w.heap.size 9 1 (.slice oY2 ys2.length pY2) ys2.length (ys2.map Value.string)) := owns_below HOY2_9.out bw (fun g hg => owns_lt HOY2_9.out hg)
    have HOG2_10 : Hid ((w10).ownsRow w.heap.size 75 2 (.slice oG2 fs2.length pG2) fs2.length (flatF fs2)) := owns_below HOG2_9.out bw (fun g hg => owns_lt HOG2_9.out hg)
    have HOL_10 : Hid ((w10).ownsRow w.heap.size 25 4 (.slice oL l.length pL) l.length (flatBan l)) := owns_below HOL_9.out bw (fun g hg => owns_lt HOL_9.out hg)
    have HBv1_10 : Hid ((w10).heap[qv1]? = some (.cells #[.int .i64 k, .string a, .string b, .int .i64 t] 25)) := blk_below HBv1_9.out bw
    have HBv2_10 : Hid ((w10).heap[qv2]? = some (.cells #[.string p1, .slice oX1 xs1.length pX1, .slice oY1 ys1.length pY1, .int .i64 st1, .slice oG1 fs1.length pG1, .string d1, .int .i64 u1] 31)) := blk_below HBv2_9.out bw
    have HNv1v3 : Hid (qv1 ≠ qv3) := fun e => by have h1 := (Array.getElem?_eq_some_iff.1 HBv1_9.out).1; omega
    have HNv2v3 : Hid (qv2 ≠ qv3) := fun e => by have h1 := (Array.getElem?_eq_some_iff.1 HBv2_9.out).1; omega
    have HBv3_10 : Hid ((w10).heap[qv3]? = some (.cells #[.string p2, .slice oX2 xs2.length pX2, .slice oY2 ys2.length pY2, .int .i64 st2, .slice oG2 fs2.length pG2, .string d2, .int .i64 u2] 31)) := by show _ = _; rw [hW10, ← hz10]; exact heap_alloc_new _ _
    have HGv3 : Hid (w.heap.size ≤ qv3) := by show _ ≤ _; rw [← hz10]; exact hb9.size
    clear hb9 HOX1_9 HOY1_9 HOG1_9 HOX2_9 HOY2_9 HOG2_9 HOL_9 HBv1_9 HBv2_9 bw hW10 hz10
    clear hs10 hqv3
    have cv3_0 : (w10).cell? ⟨qv3, 0, none⟩ = some (.string p2) := (cell_of HBv3_10.out 0).trans rfl
    have cv3_1 : (w10).cell? ⟨qv3, 1, none⟩ = some (.slice oX2 xs2.length pX2) := (cell_of HBv3_10.out 1).trans rfl
    have cv3_2 : (w10).cell? ⟨qv3, 2, none⟩ = some (.slice oY2 ys2.length pY2) := (cell_of HBv3_10.out 2).trans rfl
    have cv3_3 : (w10).cell? ⟨qv3, 3, none⟩ = some (.int .i64 st2) := (cell_of HBv3_10.out 3).trans rfl
    have cv3_4 : (w10).cell? ⟨qv3, 4, none⟩ = some (.slice oG2 fs2.length pG2) := (cell_of HBv3_10.out 4).trans rfl
    have cv3_5 : (w10).cell? ⟨qv3, 5, none⟩ = some (.string d2) := (cell_of HBv3_10.out 5).trans rfl
    have cv3_6 : (w10).cell? ⟨qv3, 6, none⟩ = some (.int .i64 u2) := (cell_of HBv3_10.out 6).trans rfl
    go_wp2_with fail
    refine (implHitsAny_any _ l.length _ l p2 _ xs2.length _ xs2 _ ys2.length _ ys2 st2 _ fs2.length _ fs2 d2 u2 _ (ban_view HOL_10.out) (by omega) (fun x hx => by have := HZL.out x hx; unfold maxLen; exact ⟨by omega, by omega⟩) (texts_view HOX2_10.out) (texts_view HOY2_10.out) (FieldsV.of_owns HOG2_10.out) (by have := HSM2.out.2.1.1; omega) (by have := HSM2.out.2.2.1.1; omega) (by have := HSM2.out.2.2.2.1.1; omega) (fun i hi => by have := HSM2.out.2.1.2 _ (textAt_mem xs2 i hi); unfold maxLen; omega) (fun i hi => by have := HSM2.out.2.2.1.2 _ (textAt_mem ys2 i hi); unfold maxLen; omega) (shortWalk HSM2.out.2.2.2.1.2) HSM2.out.2.2.2.1.2.copy (by have := HSM2.out.1; unfold maxLen; omega) (by have := HSM2.out.2.2.2.2.1; unfold maxLen; omega) (by have := short_get2 HSM2.out.2.2.2.1.2 varyName; omega)).mono ?_
    rintro e w11 ⟨bb, rfl, hbb, bw⟩
    obtain rfl : an = bb := by rw [HAN.out, Bool.eq_iff_iff, hbb, decide_eq_true_iff]
    clear hbb
    have hb11 : Below w.heap.size w (w11) := hb10.trans (bw.mono hb10.size)
    have HOX1_11 : Hid ((w11).ownsRow w.heap.size 9 1 (.slice oX1 xs1.length pX1) xs1.length (xs1.map Value.string)) := owns_below HOX1_10.out bw (fun g hg => owns_lt HOX1_10.out hg)
    have HOY1_11 : Hid ((w11).ownsRow w.heap.size 9 1 (.slice oY1 ys1.length pY1) ys1.length (ys1.map Value.string)) := owns_below HOY1_10.out bw (fun g hg => owns_lt HOY1_10.out hg)
    have HOG1_11 : Hid ((w11).ownsRow w.heap.size 75 2 (.slice oG1 fs1.length pG1) fs1.length (flatF fs1)) := owns_below HOG1_10.out bw (fun g hg => owns_lt HOG1_10.out hg)
    have HOX2_11 : Hid ((w11).ownsRow w.heap.size 9 1 (.slice oX2 xs2.length pX2) xs2.length (xs2.map Value.string)) := owns_below HOX2_10.out bw (fun g hg => owns_lt HOX2_10.out hg)
    have HOY2_11 : Hid ((w11).ownsRow w.heap.size 9 1 (.slice oY2 ys2.length pY2) ys2.length (ys2.map Value.string)) := owns_below HOY2_10.out bw (fun g hg => owns_lt HOY2_10.out hg)
    have HOG2_11 : Hid ((w11).ownsRow w.heap.size 75 2 (.slice oG2 fs2.length pG2) fs2.length (flatF fs2)) := owns_below HOG2_10.out bw (fun g hg => owns_lt HOG2_10.out hg)
    have HOL_11 : Hid ((w11).ownsRow w.heap.size 25 4 (.slice oL l.length pL) l.length (flatBan l)) := owns_below HOL_10.out bw (fun g hg => owns_lt HOL_10.out hg)
    have HBv1_11 : Hid ((w11).heap[qv1]? = some (.cells #[.int .i64 k, .string a, .string b, .int .i64 t] 25)) := blk_below HBv1_10.out bw
    have HBv2_11 : Hid ((w11).heap[qv2]? = some (.cells #[.string p1, .slice oX1 xs1.length pX1, .slice oY1 ys1.length pY1, .int .i64 st1, .slice oG1 fs1.length pG1, .string d1, .int .i64 u1] 31)) := blk_below HBv2_10.out bw
    have HBv3_11 : Hid ((w11).heap[qv3]? = some (.cells #[.string p2, .slice oX2 xs2.length pX2, .slice oY2 ys2.length pY2, .int .i64 st2, .slice oG2 fs2.length pG2, .string d2, .int .i64 u2] 31)) := blk_below HBv3_10.out bw
    clear hb10 HOX1_10 HOY1_10 HOG1_10 HOX2_10 HOY2_10 HOG2_10 HOL_10 HBv1_10 HBv2_10 HBv3_10 bw
    clear cv3_0 cv3_1 cv3_2 cv3_3 cv3_4 cv3_5 cv3_6
    have cv3_0 : (w11).cell? ⟨qv3, 0, none⟩ = some (.string p2) := (cell_of HBv3_11.out 0).trans rfl
    have cv3_1 : (w11).cell? ⟨qv3, 1, none⟩ = some (.slice oX2 xs2.length pX2) := (cell_of HBv3_11.out 1).trans rfl
    have cv3_2 : (w11).cell? ⟨qv3, 2, none⟩ = some (.slice oY2 ys2.length pY2) := (cell_of HBv3_11.out 2).trans rfl
    have cv3_3 : (w11).cell? ⟨qv3, 3, none⟩ = some (.int .i64 st2) := (cell_of HBv3_11.out 3).trans rfl
    have cv3_4 : (w11).cell? ⟨qv3, 4, none⟩ = some (.slice oG2 fs2.length pG2) := (cell_of HBv3_11.out 4).trans rfl
    have cv3_5 : (w11).cell? ⟨qv3, 5, none⟩ = some (.string d2) := (cell_of HBv3_11.out 5).trans rfl
    have cv3_6 : (w11).cell? ⟨qv3, 6, none⟩ = some (.int .i64 u2) := (cell_of HBv3_11.out 6).trans rfl
    go_wp2_with fail
    refine (specHitsAny_any _ l.length _ l p2 _ xs2.length _ xs2 _ ys2.length _ ys2 st2 _ fs2.length _ fs2 d2 u2 _ (ban_view HOL_11.out) (by omega) (fun x hx => by have := HZL.out x hx; unfold maxLen; exact ⟨by omega, by omega⟩) (texts_view HOX2_11.out) (texts_view HOY2_11.out) (FieldsV.of_owns HOG2_11.out) (by have := HSM2.out.2.1.1; omega) (by have := HSM2.out.2.2.1.1; omega) (by have := HSM2.out.2.2.2.1.1; omega) (fun i hi => by have := HSM2.out.2.1.2 _ (textAt_mem xs2 i hi); unfold maxLen; omega) (fun i hi => by have := HSM2.out.2.2.1.2 _ (textAt_mem ys2 i hi); unfold maxLen; omega) (shortWalk HSM2.out.2.2.2.1.2) (by have := HSM2.out.1; unfold maxLen; omega) (by have := HSM2.out.2.2.2.2.1; unfold maxLen; omega) (by have := short_get2 HSM2.out.2.2.2.1.2 varyName; omega)).mono ?_
    rintro e w12 ⟨bb, rfl, hbb, bw⟩
    obtain rfl : an = bb := by rw [HAN.out, Bool.eq_iff_iff, hbb, decide_eq_true_iff]
    clear hbb
    have hb12 : Below w.heap.size w (w12) := hb11.trans (bw.mono hb11.size)
    have HM12 : Hid ((w11).heap.size ≤ (w12).heap.size) := bw.size
    have HOX1_12 : Hid ((w12).ownsRow w.heap.size 9 1 (.slice oX1 xs1.length pX1) xs1.length (xs1.map Value.string)) := owns_below HOX1_11.out bw (fun g hg => owns_lt HOX1_11.out hg)
    have HOY1_12 : Hid ((w12).ownsRow w.heap.size 9 1 (.slice oY1 ys1.length pY1) ys1.length (ys1.map Value.string)) := owns_below HOY1_11.out bw (fun g hg => owns_lt HOY1_11.out hg)
    have HOG1_12 : Hid ((w12).ownsRow w.heap.size 75 2 (.slice oG1 fs1.length pG1) fs1.length (flatF fs1)) := owns_below HOG1_11.out bw (fun g hg => owns_lt HOG1_11.out hg)
    have HOX2_12 : Hid ((w12).ownsRow w.heap.size 9 1 (.slice oX2 xs2.length pX2) xs2.length (xs2.map Value.string)) := owns_below HOX2_11.out bw (fun g hg => owns_lt HOX2_11.out hg)
    have HOY2_12 : Hid ((w12).ownsRow w.heap.size 9 1 (.slice oY2 ys2.length pY2) ys2.length (ys2.map Value.string)) := owns_below HOY2_11.out bw (fun g hg => owns_lt HOY2_11.out hg)
    have HOG2_12 : Hid ((w12).ownsRow w.heap.size 75 2 (.slice oG2 fs2.length pG2) fs2.length (flatF fs2)) := owns_below HOG2_11.out bw (fun g hg => owns_lt HOG2_11.out hg)
    have HOL_12 : Hid ((w12).ownsRow w.heap.size 25 4 (.slice oL l.length pL) l.length (flatBan l)) := owns_below HOL_11.out bw (fun g hg => owns_lt HOL_11.out hg)
    have HBv1_12 : Hid ((w12).heap[qv1]? = some (.cells #[.int .i64 k, .string a, .string b, .int .i64 t] 25)) := blk_below HBv1_11.out bw
    have HBv2_12 : Hid ((w12).heap[qv2]? = some (.cells #[.string p1, .slice oX1 xs1.length pX1, .slice oY1 ys1.length pY1, .int .i64 st1, .slice oG1 fs1.length pG1, .string d1, .int .i64 u1] 31)) := blk_below HBv2_11.out bw
    have HBv3_12 : Hid ((w12).heap[qv3]? = some (.cells #[.string p2, .slice oX2 xs2.length pX2, .slice oY2 ys2.length pY2, .int .i64 st2, .slice oG2 fs2.length pG2, .string d2, .int .i64 u2] 31)) := blk_below HBv3_11.out bw
    clear hb11 HOX1_11 HOY1_11 HOG1_11 HOX2_11 HOY2_11 HOG2_11 HOL_11 HBv1_11 HBv2_11 HBv3_11 bw
    clear cv3_0 cv3_1 cv3_2 cv3_3 cv3_4 cv3_5 cv3_6
    go_wp2_with fail
    go_loopw [9, 10] (fun o i wr => ∃ (j : Nat) (ob : Bool), j ≤ l.length ∧ i = .int .i64 (j : Int) ∧ o = .bool ob ∧ Hid (Below w.heap.size w wr ∧ (wr).heap[qv1]? = some (.cells #[.int .i64 k, .string a, .string b, .int .i64 t] 25) ∧ (wr).heap[qv2]? = some (.cells #[.string p1, .slice oX1 xs1.length pX1, .slice oY1 ys1.length pY1, .int .i64 st1, .slice oG1 fs1.length pG1, .string d1, .int .i64 u1] 31) ∧ (wr).heap[qv3]? = some (.cells #[.string p2, .slice oX2 xs2.length pX2, .slice oY2 ys2.length pY2, .int .i64 st2, .slice oG2 fs2.length pG2, .string d2, .int .i64 u2] 31) ∧ (wr).ownsRow w.heap.size 9 1 (.slice oX1 xs1.length pX1) xs1.length (xs1.map Value.string) ∧ (wr).ownsRow w.heap.size 9 1 (.slice oY1 ys1.length pY1) ys1.length (ys1.map Value.string) ∧ (wr).ownsRow w.heap.size 75 2 (.slice oG1 fs1.length pG1) fs1.length (flatF fs1) ∧ (wr).ownsRow w.heap.size 9 1 (.slice oX2 xs2.length pX2) xs2.length (xs2.map Value.string) ∧ (wr).ownsRow w.heap.size 9 1 (.slice oY2 ys2.length pY2) ys2.length (ys2.map Value.string) ∧ (wr).ownsRow w.heap.size 75 2 (.slice oG2 fs2.length pG2) fs2.length (flatF fs2) ∧ (wr).ownsRow w.heap.size 25 4 (.slice oL l.length pL) l.length (flatBan l)) ∧ Hid (ob = true ↔ ∃ x ∈ l.take j, HitP x.1 x.2.1 x.2.2.1 x.2.2.2 p2 xs2 ys2 st2 fs2 d2 u2)) (fun _ i _ => l.length - (intOf i).toNat)
    case atStart => exact ⟨0, false, Nat.zero_le _, rfl, rfl, ⟨hb12, HBv1_12.out, HBv2_12.out, HBv3_12.out, HOX1_12.out, HOY1_12.out, HOG1_12.out, HOX2_12.out, HOY2_12.out, HOG2_12.out, HOL_12.out⟩, ⟨fun h => (by cases h), fun ⟨x, hx, _⟩ => (by simp at hx)⟩⟩
    case round =>
      obtain ⟨j, ob, hj, rfl, rfl, HW, HOB⟩ := hrel
      by_cases hlt : (j : Int) < (l.length : Int)
      · have hb13 := HW.out.1
        have HBv1_13 : Hid ((wr).heap[qv1]? = some (.cells #[.int .i64 k, .string a, .string b, .int .i64 t] 25)) := HW.out.2.1
        have HBv2_13 : Hid ((wr).heap[qv2]? = some (.cells #[.string p1, .slice oX1 xs1.length pX1, .slice oY1 ys1.length pY1, .int .i64 st1, .slice oG1 fs1.length pG1, .string d1, .int .i64 u1] 31)) := HW.out.2.2.1
        have HBv3_13 : Hid ((wr).heap[qv3]? = some (.cells #[.string p2, .slice oX2 xs2.length pX2, .slice oY2 ys2.length pY2, .int .i64 st2, .slice oG2 fs2.length pG2, .string d2, .int .i64 u2] 31)) := HW.out.2.2.2.1
        have HOX1_13 : Hid ((wr).ownsRow w.heap.size 9 1 (.slice oX1 xs1.length pX1) xs1.length (xs1.map Value.string)) := HW.out.2.2.2.2.1
        have HOY1_13 : Hid ((wr).ownsRow w.heap.size 9 1 (.slice oY1 ys1.length pY1) ys1.length (ys1.map Value.string)) := HW.out.2.2.2.2.2.1
        have HOG1_13 : Hid ((wr).ownsRow w.heap.size 75 2 (.slice oG1 fs1.length pG1) fs1.length (flatF fs1)) := HW.out.2.2.2.2.2.2.1
        have HOX2_13 : Hid ((wr).ownsRow w.heap.size 9 1 (.slice oX2 xs2.length pX2) xs2.length (xs2.map Value.string)) := HW.out.2.2.2.2.2.2.2.1
        have HOY2_13 : Hid ((wr).ownsRow w.heap.size 9 1 (.slice oY2 ys2.length pY2) ys2.length (ys2.map Value.string)) := HW.out.2.2.2.2.2.2.2.2.1
        have HOG2_13 : Hid ((wr).ownsRow w.heap.size 75 2 (.slice oG2 fs2.length pG2) fs2.length (flatF fs2)) := HW.out.2.2.2.2.2.2.2.2.2.1
        have HOL_13 : Hid ((wr).ownsRow w.heap.size 25 4 (.slice oL l.length pL) l.length (flatBan l)) := HW.out.2.2.2.2.2.2.2.2.2.2
        clear HW hb12 HOX1_12 HOY1_12 HOG1_12 HOX2_12 HOY2_12 HOG2_12 HOL_12 HBv1_12 HBv2_12 HBv3_12
        have hjx : j < l.length := by omega
        obtain ⟨g, hog, _⟩ := (ban_view HOL_13.out).2 j hjx
        subst hog
        obtain ⟨y, hy⟩ : ∃ y, y = banAt l j := ⟨_, rfl⟩
        have HM : Hid (y ∈ l) := by show _ ∈ _; rw [hy]; exact banAt_mem l j hjx
        have HTK : Hid (l.take (j + 1) = l.take j ++ [y]) := by show _ = _; rw [hy]; exact take_banAt l j hjx
        have HZY : Hid (y.2.1.size ≤ 64 ∧ y.2.2.1.size ≤ 64) := HZL.out y HM.out
        have HYE : Hid (banAt l j = y) := hy.symm
        clear hy
        obtain ⟨y0, y1, y2, y3⟩ := y
        have HZY2 : Hid (y1.size ≤ 64 ∧ y2.size ≤ 64) := HZY.out
        have HELL : Hid (∀ W : World, (W).ownsRow w.heap.size 25 4 (.slice (some ⟨g, 0, none⟩) l.length pL) l.length (flatBan l) → (W.cell? ⟨g, j * 4, none⟩ = some (.int .i64 y0) ∧ W.cell? ⟨g, j * 4 + 1, none⟩ = some (.string y1) ∧ W.cell? ⟨g, j * 4 + 2, none⟩ = some (.string y2) ∧ W.cell? ⟨g, j * 4 + 3, none⟩ = some (.int .i64 y3))) := fun W h => by
          obtain ⟨g', hg, _, r0, r1, r2, r3⟩ := (ban_view h).2 j hjx
          cases hg
          rw [HYE.out] at r0 r1 r2 r3
          exact ⟨r0, r1, r2, r3⟩
        clear hjx
        go_upto_region 15 with fail
        refine wp_region_held_drew (S := fun W => (W.cell? ⟨g, j * 4, none⟩ = some (.int .i64 y0) ∧ W.cell? ⟨g, j * 4 + 1, none⟩ = some (.string y1) ∧ W.cell? ⟨g, j * 4 + 2, none⟩ = some (.string y2) ∧ W.cell? ⟨g, j * 4 + 3, none⟩ = some (.int .i64 y3)) ∧ W.heap[qv3]? = some (.cells #[.string p2, .slice oX2 xs2.length pX2, .slice oY2 ys2.length pY2, .int .i64 st2, .slice oG2 fs2.length pG2, .string d2, .int .i64 u2] 31)) (by kernel_rfl) ⟨HELL.out _ HOL_13.out, HBv3_13.out⟩ (fun _ => ?_)
        obtain ⟨w14, hX⟩ : ∃ X, X = wr.drew := ⟨_, rfl⟩
        have bw : Below wr.heap.size wr w14 := by rw [hX]; exact (Below.refl _ _).drew
        rw [← hX]
        have hb14 : Below w.heap.size w (w14) := hb13.trans (bw.mono hb13.size)
        have HM14 : Hid ((wr).heap.size ≤ (w14).heap.size) := bw.size
        have HOX1_14 : Hid ((w14).ownsRow w.heap.size 9 1 (.slice oX1 xs1.length pX1) xs1.length (xs1.map Value.string)) := owns_below HOX1_13.out bw (fun g hg => owns_lt HOX1_13.out hg)
        have HOY1_14 : Hid ((w14).ownsRow w.heap.size 9 1 (.slice oY1 ys1.length pY1) ys1.length (ys1.map Value.string)) := owns_below HOY1_13.out bw (fun g hg => owns_lt HOY1_13.out hg)
        have HOG1_14 : Hid ((w14).ownsRow w.heap.size 75 2 (.slice oG1 fs1.length pG1) fs1.length (flatF fs1)) := owns_below HOG1_13.out bw (fun g hg => owns_lt HOG1_13.out hg)
        have HOX2_14 : Hid ((w14).ownsRow w.heap.size 9 1 (.slice oX2 xs2.length pX2) xs2.length (xs2.map Value.string)) := owns_below HOX2_13.out bw (fun g hg => owns_lt HOX2_13.out hg)
        have HOY2_14 : Hid ((w14).ownsRow w.heap.size 9 1 (.slice oY2 ys2.length pY2) ys2.length (ys2.map Value.string)) := owns_below HOY2_13.out bw (fun g hg => owns_lt HOY2_13.out hg)
        have HOG2_14 : Hid ((w14).ownsRow w.heap.size 75 2 (.slice oG2 fs2.length pG2) fs2.length (flatF fs2)) := owns_below HOG2_13.out bw (fun g hg => owns_lt HOG2_13.out hg)
        have HOL_14 : Hid ((w14).ownsRow w.heap.size 25 4 (.slice (some ⟨g, 0, none⟩) l.length pL) l.length (flatBan l)) := owns_below HOL_13.out bw (fun g hg => owns_lt HOL_13.out hg)
        have HBv1_14 : Hid ((w14).heap[qv1]? = some (.cells #[.int .i64 k, .string a, .string b, .int .i64 t] 25)) := blk_below HBv1_13.out bw
        have HBv2_14 : Hid ((w14).heap[qv2]? = some (.cells #[.string p1, .slice oX1 xs1.length pX1, .slice oY1 ys1.length pY1, .int .i64 st1, .slice oG1 fs1.length pG1, .string d1, .int .i64 u1] 31)) := blk_below HBv2_13.out bw
        have HBv3_14 : Hid ((w14).heap[qv3]? = some (.cells #[.string p2, .slice oX2 xs2.length pX2, .slice oY2 ys2.length pY2, .int .i64 st2, .slice oG2 fs2.length pG2, .string d2, .int .i64 u2] 31)) := blk_below HBv3_13.out bw
        have hS14 : (w14.cell? ⟨g, j * 4, none⟩ = some (.int .i64 y0) ∧ w14.cell? ⟨g, j * 4 + 1, none⟩ = some (.string y1) ∧ w14.cell? ⟨g, j * 4 + 2, none⟩ = some (.string y2) ∧ w14.cell? ⟨g, j * 4 + 3, none⟩ = some (.int .i64 y3)) ∧ w14.heap[qv3]? = some (.cells #[.string p2, .slice oX2 xs2.length pX2, .slice oY2 ys2.length pY2, .int .i64 st2, .slice oG2 fs2.length pG2, .string d2, .int .i64 u2] 31) := ⟨HELL.out _ HOL_14.out, HBv3_14.out⟩
        clear hb13 HOX1_13 HOY1_13 HOG1_13 HOX2_13 HOY2_13 HOG2_13 HOL_13 HBv1_13 HBv2_13 HBv3_13 bw hX
        refine wpAnyH_takeD (i := 0) (v := .bool ob) (some 67) rfl rfl (by kernel_rfl) (by kernel_rfl) (by kernel_rfl) (fun _ _ _ h => h) (Or.inl ⟨by rfl, by intro W _; go_simp⟩) hS14 ?_
        simp only [Act.put, List.setIfInBounds_toArray, List.set_cons_zero, List.set_cons_succ]
        refine wpAnyH_takeD (i := 1) (v := .bool ob) (some 68) rfl rfl (by kernel_rfl) (by kernel_rfl) (by kernel_rfl) (fun _ _ _ h => h) (Or.inl ⟨by rfl, by intro W _; go_simp⟩) hS14 ?_
        simp only [Act.put, List.setIfInBounds_toArray, List.set_cons_zero, List.set_cons_succ]
        cases ob with
        | false =>
          refine wpAnyH_takeD (i := 2) (v := .slice (some ⟨g, 0, none⟩) l.length pL) (some 69) rfl rfl (by kernel_rfl) (by kernel_rfl) (by kernel_rfl) (fun _ _ _ h => h) (Or.inl ⟨by rfl, by intro W _; go_simp⟩) hS14 ?_
          simp only [Act.put, List.setIfInBounds_toArray, List.set_cons_zero, List.set_cons_succ]
          refine wpAnyH_takeD (i := 3) (v := .int .i64 (j : Int)) (some 70) rfl rfl (by kernel_rfl) (by kernel_rfl) (by kernel_rfl) (fun _ _ _ h => h) (Or.inl ⟨by rfl, by intro W _; go_simp⟩) hS14 ?_
          simp only [Act.put, List.setIfInBounds_toArray, List.set_cons_zero, List.set_cons_succ]
          refine wpAnyH_takeD (i := 4) (v := .pointer (some ⟨g, j * 4, none⟩)) (some 71) rfl rfl (by kernel_rfl) (by kernel_rfl) (by kernel_rfl) (fun _ _ _ h => h) (Or.inl ⟨by rfl, by intro W _; go_simp⟩) hS14 ?_
          simp only [Act.put, List.setIfInBounds_toArray, List.set_cons_zero, List.set_cons_succ]
          refine wpAnyH_takeD (i := 5) (v := .agg #[.int .i64 y0, .string y1, .string y2, .int .i64 y3]) (some 72) rfl rfl (by kernel_rfl) (by kernel_rfl) (by kernel_rfl) (fun _ _ _ h => h) (Or.inl ⟨by rfl, by intro W hW; obtain ⟨hhE_L, hhv3⟩ := hW; have y0 := hhE_L.1; have y1 := hhE_L.2.1; have y2 := hhE_L.2.2.1; have y3 := hhE_L.2.2.2; go_simp⟩) hS14 ?_
          simp only [Act.put, List.setIfInBounds_toArray, List.set_cons_zero, List.set_cons_succ]
          refine wpAnyH_takeD (i := 6) (v := .agg #[.string p2, .slice oX2 xs2.length pX2, .slice oY2 ys2.length pY2, .int .i64 st2, .slice oG2 fs2.length pG2, .string d2, .int .i64 u2]) (some 73) rfl rfl (by kernel_rfl) (by kernel_rfl) (by kernel_rfl) (fun _ _ _ h => h) (Or.inl ⟨by rfl, by intro W hW; obtain ⟨hhE_L, hhv3⟩ := hW; have y0 := (cell_of hhv3 0).trans rfl; have y1 := (cell_of hhv3 1).trans rfl; have y2 := (cell_of hhv3 2).trans rfl; have y3 := (cell_of hhv3 3).trans rfl; have y4 := (cell_of hhv3 4).trans rfl; have y5 := (cell_of hhv3 5).trans rfl; have y6 := (cell_of hhv3 6).trans rfl; go_simp⟩) hS14 ?_
          simp only [Act.put, List.setIfInBounds_toArray, List.set_cons_zero, List.set_cons_succ]
          refine wpAnyH_ready (rs := [7]) (by kernel_rfl) (by simp) ?_
          refine AllReadyH.cons rfl (fun K hK => ?_) AllReadyH.nil
          go_simp
          refine (implHits_any y0 y1 y2 y3 p2 _ xs2.length _ xs2 _ ys2.length _ ys2 st2 _ fs2.length _ fs2 d2 u2 _ (by have := HZY2.out; unfold maxLen; omega) (by have := HZY2.out; unfold maxLen; omega) (texts_view HOX2_14.out) (texts_view HOY2_14.out) (FieldsV.of_owns HOG2_14.out) (by have := HSM2.out.2.1.1; omega) (by have := HSM2.out.2.2.1.1; omega) (by have := HSM2.out.2.2.2.1.1; omega) (fun i hi => by have := HSM2.out.2.1.2 _ (textAt_mem xs2 i hi); unfold maxLen; omega) (fun i hi => by have := HSM2.out.2.2.1.2 _ (textAt_mem ys2 i hi); unfold maxLen; omega) (shortWalk HSM2.out.2.2.2.1.2) HSM2.out.2.2.2.1.2.copy (by have := HSM2.out.1; unfold maxLen; omega) (by have := HSM2.out.2.2.2.2.1; unfold maxLen; omega) (by have := short_get2 HSM2.out.2.2.2.1.2 varyName; omega)).mono ?_
          rintro e w15 ⟨yh, rfl, hyh, bw⟩
          have HYH : Hid (yh = true ↔ HitP y0 y1 y2 y3 p2 xs2 ys2 st2 fs2 d2 u2) := hyh
          clear hyh
          have hb15 : Below w.heap.size w (w15) := hb14.trans (bw.mono hb14.size)
          have HM15 : Hid ((w14).heap.size ≤ (w15).heap.size) := bw.size
          have HOX1_15 : Hid ((w15).ownsRow w.heap.size 9 1 (.slice oX1 xs1.length pX1) xs1.length (xs1.map Value.string)) := owns_below HOX1_14.out bw (fun g hg => owns_lt HOX1_14.out hg)
          have HOY1_15 : Hid ((w15).ownsRow w.heap.size 9 1 (.slice oY1 ys1.length pY1) ys1.length (ys1.map Value.string)) := owns_below HOY1_14.out bw (fun g hg => owns_lt HOY1_14.out hg)
          have HOG1_15 : Hid ((w15).ownsRow w.heap.size 75 2 (.slice oG1 fs1.length pG1) fs1.length (flatF fs1)) := owns_below HOG1_14.out bw (fun g hg => owns_lt HOG1_14.out hg)
          have HOX2_15 : Hid ((w15).ownsRow w.heap.size 9 1 (.slice oX2 xs2.length pX2) xs2.length (xs2.map Value.string)) := owns_below HOX2_14.out bw (fun g hg => owns_lt HOX2_14.out hg)
          have HOY2_15 : Hid ((w15).ownsRow w.heap.size 9 1 (.slice oY2 ys2.length pY2) ys2.length (ys2.map Value.string)) := owns_below HOY2_14.out bw (fun g hg => owns_lt HOY2_14.out hg)
          have HOG2_15 : Hid ((w15).ownsRow w.heap.size 75 2 (.slice oG2 fs2.length pG2) fs2.length (flatF fs2)) := owns_below HOG2_14.out bw (fun g hg => owns_lt HOG2_14.out hg)
          have HOL_15 : Hid ((w15).ownsRow w.heap.size 25 4 (.slice (some ⟨g, 0, none⟩) l.length pL) l.length (flatBan l)) := owns_below HOL_14.out bw (fun g hg => owns_lt HOL_14.out hg)
          have HBv1_15 : Hid ((w15).heap[qv1]? = some (.cells #[.int .i64 k, .string a, .string b, .int .i64 t] 25)) := blk_below HBv1_14.out bw
          have HBv2_15 : Hid ((w15).heap[qv2]? = some (.cells #[.string p1, .slice oX1 xs1.length pX1, .slice oY1 ys1.length pY1, .int .i64 st1, .slice oG1 fs1.length pG1, .string d1, .int .i64 u1] 31)) := blk_below HBv2_14.out bw
          have HBv3_15 : Hid ((w15).heap[qv3]? = some (.cells #[.string p2, .slice oX2 xs2.length pX2, .slice oY2 ys2.length pY2, .int .i64 st2, .slice oG2 fs2.length pG2, .string d2, .int .i64 u2] 31)) := blk_below HBv3_14.out bw
          clear hb14 HOX1_14 HOY1_14 HOG1_14 HOX2_14 HOY2_14 HOG2_14 HOL_14 HBv1_14 HBv2_14 HBv3_14 bw
          have hS15 : (w15.cell? ⟨g, j * 4, none⟩ = some (.int .i64 y0) ∧ w15.cell? ⟨g, j * 4 + 1, none⟩ = some (.string y1) ∧ w15.cell? ⟨g, j * 4 + 2, none⟩ = some (.string y2) ∧ w15.cell? ⟨g, j * 4 + 3, none⟩ = some (.int .i64 y3)) ∧ w15.heap[qv3]? = some (.cells #[.string p2, .slice oX2 xs2.length pX2, .slice oY2 ys2.length pY2, .int .i64 st2, .slice oG2 fs2.length pG2, .string d2, .int .i64 u2] 31) := ⟨HELL.out _ HOL_15.out, HBv3_15.out⟩
          refine hK.out _ _ hS15 (fun _ => ?_)
          clear hK K hS14
          refine wpAnyH_takeD (i := 8) (v := .bool yh) (some 75) rfl rfl (by kernel_rfl) (by kernel_rfl) (by kernel_rfl) (fun _ _ _ h => h) (Or.inl ⟨by rfl, by intro W _; go_simp⟩) hS15 ?_
          simp only [Act.put, List.setIfInBounds_toArray, List.set_cons_zero, List.set_cons_succ]
          refine wpAnyH_takeD (i := 9) (v := .bool yh) (some 9) rfl rfl (by kernel_rfl) (by kernel_rfl) (by kernel_rfl) (fun _ _ _ h => h) (Or.inl ⟨by rfl, by intro W _; go_simp⟩) hS15 ?_
          simp only [Act.put, List.setIfInBounds_toArray, List.set_cons_zero, List.set_cons_succ]
          clear hS15
          refine wpAnyH_done (by kernel_rfl) ?_ _
          have HOB2 : Hid (yh = true ↔ ∃ x ∈ l.take (j + 1), HitP x.1 x.2.1 x.2.2.1 x.2.2.2 p2 xs2 ys2 st2 fs2 d2 u2) := by
            show _ ↔ _
            rw [HTK.out]
            have z1 := HOB.out
            have z2 := HYH.out
            constructor
            · intro h
              exact ⟨_, List.mem_append.2 (.inr (List.mem_singleton.2 rfl)), z2.1 h⟩
            · rintro ⟨x, hx, h⟩
              rcases List.mem_append.1 hx with hx | hx
              · exact absurd (z1.2 ⟨x, hx, h⟩) (by decide)
              · rw [List.mem_singleton.1 hx] at h
                exact z2.2 h
          clear HOB
          go_wp2_with fail
          go_roundw
          case rel => exact ⟨j + 1, _, by omega, by go_num, rfl, ⟨hb15, HBv1_15.out, HBv2_15.out, HBv3_15.out, HOX1_15.out, HOY1_15.out, HOG1_15.out, HOX2_15.out, HOY2_15.out, HOG2_15.out, HOL_15.out⟩, HOB2⟩
          case measure => simp [intOf]; omega
        | true =>
          refine wpAnyH_takeD (i := 2) (v := undef) (some 69) rfl rfl (by kernel_rfl) (by kernel_rfl) (by kernel_rfl) (fun _ _ _ h => h) (Or.inr ⟨by rfl, rfl⟩) hS14 ?_
          simp only [Act.put, List.setIfInBounds_toArray, List.set_cons_zero, List.set_cons_succ]
          refine wpAnyH_takeD (i := 3) (v := undef) (some 70) rfl rfl (by kernel_rfl) (by kernel_rfl) (by kernel_rfl) (fun _ _ _ h => h) (Or.inr ⟨by rfl, rfl⟩) hS14 ?_
          simp only [Act.put, List.setIfInBounds_toArray, List.set_cons_zero, List.set_cons_succ]
          refine wpAnyH_takeD (i := 4) (v := undef) (some 71) rfl rfl (by kernel_rfl) (by kernel_rfl) (by kernel_rfl) (fun _ _ _ h => h) (Or.inr ⟨by rfl, rfl⟩) hS14 ?_
          simp only [Act.put, List.setIfInBounds_toArray, List.set_cons_zero, List.set_cons_succ]
          refine wpAnyH_takeD (i := 5) (v := undef) (some 72) rfl rfl (by kernel_rfl) (by kernel_rfl) (by kernel_rfl) (fun _ _ _ h => h) (Or.inr ⟨by rfl, rfl⟩) hS14 ?_
          simp only [Act.put, List.setIfInBounds_toArray, List.set_cons_zero, List.set_cons_succ]
          refine wpAnyH_takeD (i := 6) (v := undef) (some 73) rfl rfl (by kernel_rfl) (by kernel_rfl) (by kernel_rfl) (fun _ _ _ h => h) (Or.inr ⟨by rfl, rfl⟩) hS14 ?_
          simp only [Act.put, List.setIfInBounds_toArray, List.set_cons_zero, List.set_cons_succ]
          refine wpAnyH_takeD (i := 7) (v := undef) (some 74) rfl rfl (by kernel_rfl) (by kernel_rfl) (by kernel_rfl) (fun _ _ _ h => h) (Or.inr ⟨by rfl, rfl⟩) hS14 ?_
          simp only [Act.put, List.setIfInBounds_toArray, List.set_cons_zero, List.set_cons_succ]
          refine wpAnyH_takeD (i := 8) (v := .bool true) (some 75) rfl rfl (by kernel_rfl) (by kernel_rfl) (by kernel_rfl) (fun _ _ _ h => h) (Or.inl ⟨by rfl, by intro W _; go_simp⟩) hS14 ?_
          simp only [Act.put, List.setIfInBounds_toArray, List.set_cons_zero, List.set_cons_succ]
          refine wpAnyH_takeD (i := 9) (v := .bool true) (some 9) rfl rfl (by kernel_rfl) (by kernel_rfl) (by kernel_rfl) (fun _ _ _ h => h) (Or.inl ⟨by rfl, by intro W _; go_simp⟩) hS14 ?_
          simp only [Act.put, List.setIfInBounds_toArray, List.set_cons_zero, List.set_cons_succ]
          clear hS14
          refine wpAnyH_done (by kernel_rfl) ?_ _
          have HOB2 : Hid (true = true ↔ ∃ x ∈ l.take (j + 1), HitP x.1 x.2.1 x.2.2.1 x.2.2.2 p2 xs2 ys2 st2 fs2 d2 u2) := by
            show _ ↔ _
            rw [HTK.out]
            have z1 := HOB.out
            constructor
            · intro _
              obtain ⟨x, hx, h⟩ := z1.1 rfl
              exact ⟨x, List.mem_append.2 (.inl hx), h⟩
            · intro _
              rfl
          clear HOB
          go_wp2_with fail
          go_roundw
          case rel => exact ⟨j + 1, _, by omega, by go_num, rfl, ⟨hb14, HBv1_14.out, HBv2_14.out, HBv3_14.out, HOX1_14.out, HOY1_14.out, HOG1_14.out, HOX2_14.out, HOY2_14.out, HOG2_14.out, HOL_14.out⟩, HOB2⟩
          case measure => simp [intOf]; omega
      · have hb13 := HW.out.1
        have HBv1_13 : Hid ((wr).heap[qv1]? = some (.cells #[.int .i64 k, .string a, .string b, .int .i64 t] 25)) := HW.out.2.1
        have HBv2_13 : Hid ((wr).heap[qv2]? = some (.cells #[.string p1, .slice oX1 xs1.length pX1, .slice oY1 ys1.length pY1, .int .i64 st1, .slice oG1 fs1.length pG1, .string d1, .int .i64 u1] 31)) := HW.out.2.2.1
        have HBv3_13 : Hid ((wr).heap[qv3]? = some (.cells #[.string p2, .slice oX2 xs2.length pX2, .slice oY2 ys2.length pY2, .int .i64 st2, .slice oG2 fs2.length pG2, .string d2, .int .i64 u2] 31)) := HW.out.2.2.2.1
        have HOX1_13 : Hid ((wr).ownsRow w.heap.size 9 1 (.slice oX1 xs1.length pX1) xs1.length (xs1.map Value.string)) := HW.out.2.2.2.2.1
        have HOY1_13 : Hid ((wr).ownsRow w.heap.size 9 1 (.slice oY1 ys1.length pY1) ys1.length (ys1.map Value.string)) := HW.out.2.2.2.2.2.1
        have HOG1_13 : Hid ((wr).ownsRow w.heap.size 75 2 (.slice oG1 fs1.length pG1) fs1.length (flatF fs1)) := HW.out.2.2.2.2.2.2.1
        have HOX2_13 : Hid ((wr).ownsRow w.heap.size 9 1 (.slice oX2 xs2.length pX2) xs2.length (xs2.map Value.string)) := HW.out.2.2.2.2.2.2.2.1
        have HOY2_13 : Hid ((wr).ownsRow w.heap.size 9 1 (.slice oY2 ys2.length pY2) ys2.length (ys2.map Value.string)) := HW.out.2.2.2.2.2.2.2.2.1
        have HOG2_13 : Hid ((wr).ownsRow w.heap.size 75 2 (.slice oG2 fs2.length pG2) fs2.length (flatF fs2)) := HW.out.2.2.2.2.2.2.2.2.2.1
        have HOL_13 : Hid ((wr).ownsRow w.heap.size 25 4 (.slice oL l.length pL) l.length (flatBan l)) := HW.out.2.2.2.2.2.2.2.2.2.2
        clear HW hb12 HOX1_12 HOY1_12 HOG1_12 HOX2_12 HOY2_12 HOG2_12 HOL_12 HBv1_12 HBv2_12 HBv3_12
        have hoa : ob = an := by
          rw [HAN.out, Bool.eq_iff_iff, HOB.out, decide_eq_true_iff, List.take_of_length_le (by omega)]
          rfl
        subst hoa
        clear HOB
        have cv1_0 : (wr).cell? ⟨qv1, 0, none⟩ = some (.int .i64 k) := (cell_of HBv1_13.out 0).trans rfl
        have cv1_1 : (wr).cell? ⟨qv1, 1, none⟩ = some (.string a) := (cell_of HBv1_13.out 1).trans rfl
        have cv1_2 : (wr).cell? ⟨qv1, 2, none⟩ = some (.string b) := (cell_of HBv1_13.out 2).trans rfl
        have cv1_3 : (wr).cell? ⟨qv1, 3, none⟩ = some (.int .i64 t) := (cell_of HBv1_13.out 3).trans rfl
        go_upto_region 17 with fail
        obtain ⟨qv4, hqv4⟩ : ∃ q, q = (wr).heap.size := ⟨_, rfl⟩
        obtain ⟨w14, hW14⟩ : ∃ W, W = (wr).alloc (.cells #[.int .i64 k, .string a, .string b, .int .i64 t] 25) := ⟨_, rfl⟩
        have hz14 : (wr).heap.size = qv4 := hqv4.symm
        first | rw [← hW14, ← hqv4] | rw [← hW14]
        have hs14 : w14.heap.size = qv4 + 1 := by rw [hW14, ← hz14]; simp
        have bw : Below (wr).heap.size (wr) w14 := by rw [hW14]; exact (Below.refl _ _).alloc (Nat.le_refl _) _
        have hb14 : Below w.heap.size w (w14) := hb13.trans (bw.mono hb13.size)
        have HM14 : Hid ((wr).heap.size ≤ (w14).heap.size) := bw.size
        have HOX1_14 : Hid ((w14).ownsRow w.heap.size 9 1 (.slice oX1 xs1.length pX1) xs1.length (xs1.map Value.string)) := owns_below HOX1_13.out bw (fun g hg => owns_lt HOX1_13.out hg)
        have HOY1_14 : Hid ((w14).ownsRow w.heap.size 9 1 (.slice oY1 ys1.length pY1) ys1.length (ys1.map Value.string)) := owns_below HOY1_13.out bw (fun g hg => owns_lt HOY1_13.out hg)
        have HOG1_14 : Hid ((w14).ownsRow w.heap.size 75 2 (.slice oG1 fs1.length pG1) fs1.length (flatF fs1)) := owns_below HOG1_13.out bw (fun g hg => owns_lt HOG1_13.out hg)
        have HOX2_14 : Hid ((w14).ownsRow w.heap.size 9 1 (.slice oX2 xs2.length pX2) xs2.length (xs2.map Value.string)) := owns_below HOX2_13.out bw (fun g hg => owns_lt HOX2_13.out hg)
        have HOY2_14 : Hid ((w14).ownsRow w.heap.size 9 1 (.slice oY2 ys2.length pY2) ys2.length (ys2.map Value.string)) := owns_below HOY2_13.out bw (fun g hg => owns_lt HOY2_13.out hg)
        have HOG2_14 : Hid ((w14).ownsRow w.heap.size 75 2 (.slice oG2 fs2.length pG2) fs2.length (flatF fs2)) := owns_below HOG2_13.out bw (fun g hg => owns_lt HOG2_13.out hg)
        have HOL_14 : Hid ((w14).ownsRow w.heap.size 25 4 (.slice oL l.length pL) l.length (flatBan l)) := owns_below HOL_13.out bw (fun g hg => owns_lt HOL_13.out hg)
        have HBv1_14 : Hid ((w14).heap[qv1]? = some (.cells #[.int .i64 k, .string a, .string b, .int .i64 t] 25)) := blk_below HBv1_13.out bw
        have HBv2_14 : Hid ((w14).heap[qv2]? = some (.cells #[.string p1, .slice oX1 xs1.length pX1, .slice oY1 ys1.length pY1, .int .i64 st1, .slice oG1 fs1.length pG1, .string d1, .int .i64 u1] 31)) := blk_below HBv2_13.out bw
        have HBv3_14 : Hid ((w14).heap[qv3]? = some (.cells #[.string p2, .slice oX2 xs2.length pX2, .slice oY2 ys2.length pY2, .int .i64 st2, .slice oG2 fs2.length pG2, .string d2, .int .i64 u2] 31)) := blk_below HBv3_13.out bw
        have HNv1v4 : Hid (qv1 ≠ qv4) := fun e => by have h1 := (Array.getElem?_eq_some_iff.1 HBv1_13.out).1; omega
        have HNv2v4 : Hid (qv2 ≠ qv4) := fun e => by have h1 := (Array.getElem?_eq_some_iff.1 HBv2_13.out).1; omega
        have HNv3v4 : Hid (qv3 ≠ qv4) := fun e => by have h1 := (Array.getElem?_eq_some_iff.1 HBv3_13.out).1; omega
        have HRLv4 : Hid (∀ g, (Value.ownBlock (.slice oL l.length pL)) = some g → g ≠ qv4) := fun g hg e => by have h1 := owns_lt HOL_13.out hg; omega
        have HBv4_14 : Hid ((w14).heap[qv4]? = some (.cells #[.int .i64 k, .string a, .string b, .int .i64 t] 25)) := by show _ = _; rw [hW14, ← hz14]; exact heap_alloc_new _ _
        have HGv4 : Hid (w.heap.size ≤ qv4) := by show _ ≤ _; rw [← hz14]; exact hb13.size
        clear hb13 HOX1_13 HOY1_13 HOG1_13 HOX2_13 HOY2_13 HOG2_13 HOL_13 HBv1_13 HBv2_13 HBv3_13 bw hW14 hz14
        clear hs14 hqv4
        clear cv1_0 cv1_1 cv1_2 cv1_3
        have cv4_3 : (w14).cell? ⟨qv4, 3, none⟩ = some (.int .i64 t) := (cell_of HBv4_14.out 3).trans rfl
        have fcv4_3 : (w14).frozen? ⟨qv4, 3, none⟩ = false := frozen_of HBv4_14.out 3
        go_upto_region 18 with fail
        obtain ⟨w15, hW15⟩ : ∃ W, W = (w14).setCell ⟨qv4, 3, none⟩ (.int .i64 1000000) := ⟨_, rfl⟩
        rw [← hW15]
        have hb15 : Below w.heap.size w (w15) := by rw [hW15]; exact (hb14.setCell (p := ⟨qv4, 3, none⟩) HGv4.out _)
        have HM15 : Hid ((w14).heap.size ≤ w15.heap.size) := by show _ ≤ _; rw [hW15]; simp
        have HOX1_15 : Hid ((w15).ownsRow w.heap.size 9 1 (.slice oX1 xs1.length pX1) xs1.length (xs1.map Value.string)) := by show World.ownsRow _ _ _ _ _ _ _; rw [hW15]; exact owns_same HOX1_14.out (fun g hg => heap_setCell_other _ _ g _ (own_ne HOX1_14.out HBv4_14.out (by decide) g hg))
        have HOY1_15 : Hid ((w15).ownsRow w.heap.size 9 1 (.slice oY1 ys1.length pY1) ys1.length (ys1.map Value.string)) := by show World.ownsRow _ _ _ _ _ _ _; rw [hW15]; exact owns_same HOY1_14.out (fun g hg => heap_setCell_other _ _ g _ (own_ne HOY1_14.out HBv4_14.out (by decide) g hg))
        have HOG1_15 : Hid ((w15).ownsRow w.heap.size 75 2 (.slice oG1 fs1.length pG1) fs1.length (flatF fs1)) := by show World.ownsRow _ _ _ _ _ _ _; rw [hW15]; exact owns_same HOG1_14.out (fun g hg => heap_setCell_other _ _ g _ (own_ne HOG1_14.out HBv4_14.out (by decide) g hg))
        have HOX2_15 : Hid ((w15).ownsRow w.heap.size 9 1 (.slice oX2 xs2.length pX2) xs2.length (xs2.map Value.string)) := by show World.ownsRow _ _ _ _ _ _ _; rw [hW15]; exact owns_same HOX2_14.out (fun g hg => heap_setCell_other _ _ g _ (own_ne HOX2_14.out HBv4_14.out (by decide) g hg))
        have HOY2_15 : Hid ((w15).ownsRow w.heap.size 9 1 (.slice oY2 ys2.length pY2) ys2.length (ys2.map Value.string)) := by show World.ownsRow _ _ _ _ _ _ _; rw [hW15]; exact owns_same HOY2_14.out (fun g hg => heap_setCell_other _ _ g _ (own_ne HOY2_14.out HBv4_14.out (by decide) g hg))
        have HOG2_15 : Hid ((w15).ownsRow w.heap.size 75 2 (.slice oG2 fs2.length pG2) fs2.length (flatF fs2)) := by show World.ownsRow _ _ _ _ _ _ _; rw [hW15]; exact owns_same HOG2_14.out (fun g hg => heap_setCell_other _ _ g _ (own_ne HOG2_14.out HBv4_14.out (by decide) g hg))
        have HOL_15 : Hid ((w15).ownsRow w.heap.size 25 4 (.slice oL l.length pL) l.length (flatBan l)) := by show World.ownsRow _ _ _ _ _ _ _; rw [hW15]; exact owns_same HOL_14.out (fun g hg => heap_setCell_other _ _ g _ (HRLv4.out g hg))
        have HBv1_15 : Hid ((w15).heap[qv1]? = some (.cells #[.int .i64 k, .string a, .string b, .int .i64 t] 25)) := by show _ = _; rw [hW15, heap_setCell_other _ _ _ _ HNv1v4.out]; exact HBv1_14.out
        have HBv2_15 : Hid ((w15).heap[qv2]? = some (.cells #[.string p1, .slice oX1 xs1.length pX1, .slice oY1 ys1.length pY1, .int .i64 st1, .slice oG1 fs1.length pG1, .string d1, .int .i64 u1] 31)) := by show _ = _; rw [hW15, heap_setCell_other _ _ _ _ HNv2v4.out]; exact HBv2_14.out
        have HBv3_15 : Hid ((w15).heap[qv3]? = some (.cells #[.string p2, .slice oX2 xs2.length pX2, .slice oY2 ys2.length pY2, .int .i64 st2, .slice oG2 fs2.length pG2, .string d2, .int .i64 u2] 31)) := by show _ = _; rw [hW15, heap_setCell_other _ _ _ _ HNv3v4.out]; exact HBv3_14.out
        have HBv4_15 : Hid ((w15).heap[qv4]? = some (.cells #[.int .i64 k, .string a, .string b, .int .i64 1000000] 25)) := by show _ = _; rw [hW15]; have h := heap_set _ _ 3 _ _ _ (.int .i64 1000000) HBv4_14.out; simpa using h
        clear hb14 HOX1_14 HOY1_14 HOG1_14 HOX2_14 HOY2_14 HOG2_14 HOL_14 HBv1_14 HBv2_14 HBv3_14 HBv4_14 hW15
        clear cv4_3 fcv4_3
        by_cases hc1 : k = 1
        · have hc1b : ((k : Int) == (1 : Int)) = true := by simpa using hc1
          have hc1n : ((k : Int) != (1 : Int)) = false := by simpa using hc1
          have HK1 : Hid (k = 1) := hc1
          have hc1H : Hid (k = 1) := hc1
          clear hc1
          have cv1_0 : (w15).cell? ⟨qv1, 0, none⟩ = some (.int .i64 k) := (cell_of HBv1_15.out 0).trans rfl
          have cv1_1 : (w15).cell? ⟨qv1, 1, none⟩ = some (.string a) := (cell_of HBv1_15.out 1).trans rfl
          have cv1_2 : (w15).cell? ⟨qv1, 2, none⟩ = some (.string b) := (cell_of HBv1_15.out 2).trans rfl
          have cv1_3 : (w15).cell? ⟨qv1, 3, none⟩ = some (.int .i64 t) := (cell_of HBv1_15.out 3).trans rfl
          go_upto_region 20 with fail
          obtain ⟨qv5, hqv5⟩ : ∃ q, q = (w15).heap.size := ⟨_, rfl⟩
          obtain ⟨w16, hW16⟩ : ∃ W, W = (w15).alloc (.cells #[.int .i64 k, .string a, .string b, .int .i64 t] 25) := ⟨_, rfl⟩
          have hz16 : (w15).heap.size = qv5 := hqv5.symm
          first | rw [← hW16, ← hqv5] | rw [← hW16]
          have hs16 : w16.heap.size = qv5 + 1 := by rw [hW16, ← hz16]; simp
          have bw : Below (w15).heap.size (w15) w16 := by rw [hW16]; exact (Below.refl _ _).alloc (Nat.le_refl _) _
          have hb16 : Below w.heap.size w (w16) := hb15.trans (bw.mono hb15.size)
          have HM16 : Hid ((w15).heap.size ≤ (w16).heap.size) := bw.size
          have HOX1_16 : Hid ((w16).ownsRow w.heap.size 9 1 (.slice oX1 xs1.length pX1) xs1.length (xs1.map Value.string)) := owns_below HOX1_15.out bw (fun g hg => owns_lt HOX1_15.out hg)
          have HOY1_16 : Hid ((w16).ownsRow w.heap.size 9 1 (.slice oY1 ys1.length pY1) ys1.length (ys1.map Value.string)) := owns_below HOY1_15.out bw (fun g hg => owns_lt HOY1_15.out hg)
          have HOG1_16 : Hid ((w16).ownsRow w.heap.size 75 2 (.slice oG1 fs1.length pG1) fs1.length (flatF fs1)) := owns_below HOG1_15.out bw (fun g hg => owns_lt HOG1_15.out hg)
          have HOX2_16 : Hid ((w16).ownsRow w.heap.size 9 1 (.slice oX2 xs2.length pX2) xs2.length (xs2.map Value.string)) := owns_below HOX2_15.out bw (fun g hg => owns_lt HOX2_15.out hg)
          have HOY2_16 : Hid ((w16).ownsRow w.heap.size 9 1 (.slice oY2 ys2.length pY2) ys2.length (ys2.map Value.string)) := owns_below HOY2_15.out bw (fun g hg => owns_lt HOY2_15.out hg)
          have HOG2_16 : Hid ((w16).ownsRow w.heap.size 75 2 (.slice oG2 fs2.length pG2) fs2.length (flatF fs2)) := owns_below HOG2_15.out bw (fun g hg => owns_lt HOG2_15.out hg)
          have HOL_16 : Hid ((w16).ownsRow w.heap.size 25 4 (.slice oL l.length pL) l.length (flatBan l)) := owns_below HOL_15.out bw (fun g hg => owns_lt HOL_15.out hg)
          have HBv1_16 : Hid ((w16).heap[qv1]? = some (.cells #[.int .i64 k, .string a, .string b, .int .i64 t] 25)) := blk_below HBv1_15.out bw
          have HBv2_16 : Hid ((w16).heap[qv2]? = some (.cells #[.string p1, .slice oX1 xs1.length pX1, .slice oY1 ys1.length pY1, .int .i64 st1, .slice oG1 fs1.length pG1, .string d1, .int .i64 u1] 31)) := blk_below HBv2_15.out bw
          have HBv3_16 : Hid ((w16).heap[qv3]? = some (.cells #[.string p2, .slice oX2 xs2.length pX2, .slice oY2 ys2.length pY2, .int .i64 st2, .slice oG2 fs2.length pG2, .string d2, .int .i64 u2] 31)) := blk_below HBv3_15.out bw
          have HBv4_16 : Hid ((w16).heap[qv4]? = some (.cells #[.int .i64 k, .string a, .string b, .int .i64 1000000] 25)) := blk_below HBv4_15.out bw
          have HNv1v5 : Hid (qv1 ≠ qv5) := fun e => by have h1 := (Array.getElem?_eq_some_iff.1 HBv1_15.out).1; omega
          have HNv2v5 : Hid (qv2 ≠ qv5) := fun e => by have h1 := (Array.getElem?_eq_some_iff.1 HBv2_15.out).1; omega
          have HNv3v5 : Hid (qv3 ≠ qv5) := fun e => by have h1 := (Array.getElem?_eq_some_iff.1 HBv3_15.out).1; omega
          have HNv4v5 : Hid (qv4 ≠ qv5) := fun e => by have h1 := (Array.getElem?_eq_some_iff.1 HBv4_15.out).1; omega
          have HRLv5 : Hid (∀ g, (Value.ownBlock (.slice oL l.length pL)) = some g → g ≠ qv5) := fun g hg e => by have h1 := owns_lt HOL_15.out hg; omega
          have HBv5_16 : Hid ((w16).heap[qv5]? = some (.cells #[.int .i64 k, .string a, .string b, .int .i64 t] 25)) := by show _ = _; rw [hW16, ← hz16]; exact heap_alloc_new _ _
          have HGv5 : Hid (w.heap.size ≤ qv5) := by show _ ≤ _; rw [← hz16]; exact hb15.size
          clear hb15 HOX1_15 HOY1_15 HOG1_15 HOX2_15 HOY2_15 HOG2_15 HOL_15 HBv1_15 HBv2_15 HBv3_15 HBv4_15 bw hW16 hz16
          clear hs16 hqv5
          clear cv1_0 cv1_1 cv1_2 cv1_3
          have cv5_0 : (w16).cell? ⟨qv5, 0, none⟩ = some (.int .i64 k) := (cell_of HBv5_16.out 0).trans rfl
          have fcv5_0 : (w16).frozen? ⟨qv5, 0, none⟩ = false := frozen_of HBv5_16.out 0
          go_upto_region 21 with fail
          obtain ⟨w17, hW17⟩ : ∃ W, W = (w16).setCell ⟨qv5, 0, none⟩ (.int .i64 2) := ⟨_, rfl⟩
          rw [← hW17]
          have hb17 : Below w.heap.size w (w17) := by rw [hW17]; exact (hb16.setCell (p := ⟨qv5, 0, none⟩) HGv5.out _)
          have HOX1_17 : Hid ((w17).ownsRow w.heap.size 9 1 (.slice oX1 xs1.length pX1) xs1.length (xs1.map Value.string)) := by show World.ownsRow _ _ _ _ _ _ _; rw [hW17]; exact owns_same HOX1_16.out (fun g hg => heap_setCell_other _ _ g _ (own_ne HOX1_16.out HBv5_16.out (by decide) g hg))
          have HOY1_17 : Hid ((w17).ownsRow w.heap.size 9 1 (.slice oY1 ys1.length pY1) ys1.length (ys1.map Value.string)) := by show World.ownsRow _ _ _ _ _ _ _; rw [hW17]; exact owns_same HOY1_16.out (fun g hg => heap_setCell_other _ _ g _ (own_ne HOY1_16.out HBv5_16.out (by decide) g hg))
          have HOG1_17 : Hid ((w17).ownsRow w.heap.size 75 2 (.slice oG1 fs1.length pG1) fs1.length (flatF fs1)) := by show World.ownsRow _ _ _ _ _ _ _; rw [hW17]; exact owns_same HOG1_16.out (fun g hg => heap_setCell_other _ _ g _ (own_ne HOG1_16.out HBv5_16.out (by decide) g hg))
          have HOX2_17 : Hid ((w17).ownsRow w.heap.size 9 1 (.slice oX2 xs2.length pX2) xs2.length (xs2.map Value.string)) := by show World.ownsRow _ _ _ _ _ _ _; rw [hW17]; exact owns_same HOX2_16.out (fun g hg => heap_setCell_other _ _ g _ (own_ne HOX2_16.out HBv5_16.out (by decide) g hg))
          have HOY2_17 : Hid ((w17).ownsRow w.heap.size 9 1 (.slice oY2 ys2.length pY2) ys2.length (ys2.map Value.string)) := by show World.ownsRow _ _ _ _ _ _ _; rw [hW17]; exact owns_same HOY2_16.out (fun g hg => heap_setCell_other _ _ g _ (own_ne HOY2_16.out HBv5_16.out (by decide) g hg))
          have HOG2_17 : Hid ((w17).ownsRow w.heap.size 75 2 (.slice oG2 fs2.length pG2) fs2.length (flatF fs2)) := by show World.ownsRow _ _ _ _ _ _ _; rw [hW17]; exact owns_same HOG2_16.out (fun g hg => heap_setCell_other _ _ g _ (own_ne HOG2_16.out HBv5_16.out (by decide) g hg))
          have HOL_17 : Hid ((w17).ownsRow w.heap.size 25 4 (.slice oL l.length pL) l.length (flatBan l)) := by show World.ownsRow _ _ _ _ _ _ _; rw [hW17]; exact owns_same HOL_16.out (fun g hg => heap_setCell_other _ _ g _ (HRLv5.out g hg))
          have HBv1_17 : Hid ((w17).heap[qv1]? = some (.cells #[.int .i64 k, .string a, .string b, .int .i64 t] 25)) := by show _ = _; rw [hW17, heap_setCell_other _ _ _ _ HNv1v5.out]; exact HBv1_16.out
          have HBv2_17 : Hid ((w17).heap[qv2]? = some (.cells #[.string p1, .slice oX1 xs1.length pX1, .slice oY1 ys1.length pY1, .int .i64 st1, .slice oG1 fs1.length pG1, .string d1, .int .i64 u1] 31)) := by show _ = _; rw [hW17, heap_setCell_other _ _ _ _ HNv2v5.out]; exact HBv2_16.out
          have HBv3_17 : Hid ((w17).heap[qv3]? = some (.cells #[.string p2, .slice oX2 xs2.length pX2, .slice oY2 ys2.length pY2, .int .i64 st2, .slice oG2 fs2.length pG2, .string d2, .int .i64 u2] 31)) := by show _ = _; rw [hW17, heap_setCell_other _ _ _ _ HNv3v5.out]; exact HBv3_16.out
          have HBv4_17 : Hid ((w17).heap[qv4]? = some (.cells #[.int .i64 k, .string a, .string b, .int .i64 1000000] 25)) := by show _ = _; rw [hW17, heap_setCell_other _ _ _ _ HNv4v5.out]; exact HBv4_16.out
          have HBv5_17 : Hid ((w17).heap[qv5]? = some (.cells #[.int .i64 2, .string a, .string b, .int .i64 t] 25)) := by show _ = _; rw [hW17]; have h := heap_set _ _ 0 _ _ _ (.int .i64 2) HBv5_16.out; simpa using h
          clear hb16 HOX1_16 HOY1_16 HOG1_16 HOX2_16 HOY2_16 HOG2_16 HOL_16 HBv1_16 HBv2_16 HBv3_16 HBv4_16 HBv5_16 hW17
          clear cv5_0 fcv5_0
          have cv2_0 : (w17).cell? ⟨qv2, 0, none⟩ = some (.string p1) := (cell_of HBv2_17.out 0).trans rfl
          have cv2_1 : (w17).cell? ⟨qv2, 1, none⟩ = some (.slice oX1 xs1.length pX1) := (cell_of HBv2_17.out 1).trans rfl
          have cv2_2 : (w17).cell? ⟨qv2, 2, none⟩ = some (.slice oY1 ys1.length pY1) := (cell_of HBv2_17.out 2).trans rfl
          have cv2_3 : (w17).cell? ⟨qv2, 3, none⟩ = some (.int .i64 st1) := (cell_of HBv2_17.out 3).trans rfl
          have cv2_4 : (w17).cell? ⟨qv2, 4, none⟩ = some (.slice oG1 fs1.length pG1) := (cell_of HBv2_17.out 4).trans rfl
          have cv2_5 : (w17).cell? ⟨qv2, 5, none⟩ = some (.string d1) := (cell_of HBv2_17.out 5).trans rfl
          have cv2_6 : (w17).cell? ⟨qv2, 6, none⟩ = some (.int .i64 u1) := (cell_of HBv2_17.out 6).trans rfl
          have cv5_0 : (w17).cell? ⟨qv5, 0, none⟩ = some (.int .i64 2) := (cell_of HBv5_17.out 0).trans rfl
          have cv5_1 : (w17).cell? ⟨qv5, 1, none⟩ = some (.string a) := (cell_of HBv5_17.out 1).trans rfl
          have cv5_2 : (w17).cell? ⟨qv5, 2, none⟩ = some (.string b) := (cell_of HBv5_17.out 2).trans rfl
          have cv5_3 : (w17).cell? ⟨qv5, 3, none⟩ = some (.int .i64 t) := (cell_of HBv5_17.out 3).trans rfl
          go_wp2_with fail
          refine (implHits_any 2 a b t p1 _ xs1.length _ xs1 _ ys1.length _ ys1 st1 _ fs1.length _ fs1 d1 u1 _ (by have := HZB.out; unfold maxLen; omega) (by have := HZB.out; unfold maxLen; omega) (texts_view HOX1_17.out) (texts_view HOY1_17.out) (FieldsV.of_owns HOG1_17.out) (by have := HSM1.out.2.1.1; omega) (by have := HSM1.out.2.2.1.1; omega) (by have := HSM1.out.2.2.2.1.1; omega) (fun i hi => by have := HSM1.out.2.1.2 _ (textAt_mem xs1 i hi); unfold maxLen; omega) (fun i hi => by have := HSM1.out.2.2.1.2 _ (textAt_mem ys1 i hi); unfold maxLen; omega) (shortWalk HSM1.out.2.2.2.1.2) HSM1.out.2.2.2.1.2.copy (by have := HSM1.out.1; unfold maxLen; omega) (by have := HSM1.out.2.2.2.2.1; unfold maxLen; omega) (by have := short_get2 HSM1.out.2.2.2.1.2 varyName; omega)).mono ?_
          rintro e w18 ⟨bb, rfl, hbb, bw⟩
          obtain rfl : true = bb := (hbb.2 (hit_below (by have h := HK.out; rw [HK1.out] at h; exact h))).symm
          clear hbb
          have hb18 : Below w.heap.size w (w18) := hb17.trans (bw.mono hb17.size)
          have HOX1_18 : Hid ((w18).ownsRow w.heap.size 9 1 (.slice oX1 xs1.length pX1) xs1.length (xs1.map Value.string)) := owns_below HOX1_17.out bw (fun g hg => owns_lt HOX1_17.out hg)
          have HOY1_18 : Hid ((w18).ownsRow w.heap.size 9 1 (.slice oY1 ys1.length pY1) ys1.length (ys1.map Value.string)) := owns_below HOY1_17.out bw (fun g hg => owns_lt HOY1_17.out hg)
          have HOG1_18 : Hid ((w18).ownsRow w.heap.size 75 2 (.slice oG1 fs1.length pG1) fs1.length (flatF fs1)) := owns_below HOG1_17.out bw (fun g hg => owns_lt HOG1_17.out hg)
          have HOX2_18 : Hid ((w18).ownsRow w.heap.size 9 1 (.slice oX2 xs2.length pX2) xs2.length (xs2.map Value.string)) := owns_below HOX2_17.out bw (fun g hg => owns_lt HOX2_17.out hg)
          have HOY2_18 : Hid ((w18).ownsRow w.heap.size 9 1 (.slice oY2 ys2.length pY2) ys2.length (ys2.map Value.string)) := owns_below HOY2_17.out bw (fun g hg => owns_lt HOY2_17.out hg)
          have HOG2_18 : Hid ((w18).ownsRow w.heap.size 75 2 (.slice oG2 fs2.length pG2) fs2.length (flatF fs2)) := owns_below HOG2_17.out bw (fun g hg => owns_lt HOG2_17.out hg)
          have HOL_18 : Hid ((w18).ownsRow w.heap.size 25 4 (.slice oL l.length pL) l.length (flatBan l)) := owns_below HOL_17.out bw (fun g hg => owns_lt HOL_17.out hg)
          have HBv1_18 : Hid ((w18).heap[qv1]? = some (.cells #[.int .i64 k, .string a, .string b, .int .i64 t] 25)) := blk_below HBv1_17.out bw
          have HBv2_18 : Hid ((w18).heap[qv2]? = some (.cells #[.string p1, .slice oX1 xs1.length pX1, .slice oY1 ys1.length pY1, .int .i64 st1, .slice oG1 fs1.length pG1, .string d1, .int .i64 u1] 31)) := blk_below HBv2_17.out bw
          have HBv3_18 : Hid ((w18).heap[qv3]? = some (.cells #[.string p2, .slice oX2 xs2.length pX2, .slice oY2 ys2.length pY2, .int .i64 st2, .slice oG2 fs2.length pG2, .string d2, .int .i64 u2] 31)) := blk_below HBv3_17.out bw
          have HBv4_18 : Hid ((w18).heap[qv4]? = some (.cells #[.int .i64 k, .string a, .string b, .int .i64 1000000] 25)) := blk_below HBv4_17.out bw
          have HBv5_18 : Hid ((w18).heap[qv5]? = some (.cells #[.int .i64 2, .string a, .string b, .int .i64 t] 25)) := blk_below HBv5_17.out bw
          clear hb17 HOX1_17 HOY1_17 HOG1_17 HOX2_17 HOY2_17 HOG2_17 HOL_17 HBv1_17 HBv2_17 HBv3_17 HBv4_17 HBv5_17 bw
          clear cv2_0 cv2_1 cv2_2 cv2_3 cv2_4 cv2_5 cv2_6 cv5_0 cv5_1 cv5_2 cv5_3
          have cv2_0 : (w18).cell? ⟨qv2, 0, none⟩ = some (.string p1) := (cell_of HBv2_18.out 0).trans rfl
          have cv2_1 : (w18).cell? ⟨qv2, 1, none⟩ = some (.slice oX1 xs1.length pX1) := (cell_of HBv2_18.out 1).trans rfl
          have cv2_2 : (w18).cell? ⟨qv2, 2, none⟩ = some (.slice oY1 ys1.length pY1) := (cell_of HBv2_18.out 2).trans rfl
          have cv2_3 : (w18).cell? ⟨qv2, 3, none⟩ = some (.int .i64 st1) := (cell_of HBv2_18.out 3).trans rfl
          have cv2_4 : (w18).cell? ⟨qv2, 4, none⟩ = some (.slice oG1 fs1.length pG1) := (cell_of HBv2_18.out 4).trans rfl
          have cv2_5 : (w18).cell? ⟨qv2, 5, none⟩ = some (.string d1) := (cell_of HBv2_18.out 5).trans rfl
          have cv2_6 : (w18).cell? ⟨qv2, 6, none⟩ = some (.int .i64 u1) := (cell_of HBv2_18.out 6).trans rfl
          have cv4_0 : (w18).cell? ⟨qv4, 0, none⟩ = some (.int .i64 k) := (cell_of HBv4_18.out 0).trans rfl
          have cv4_1 : (w18).cell? ⟨qv4, 1, none⟩ = some (.string a) := (cell_of HBv4_18.out 1).trans rfl
          have cv4_2 : (w18).cell? ⟨qv4, 2, none⟩ = some (.string b) := (cell_of HBv4_18.out 2).trans rfl
          have cv4_3 : (w18).cell? ⟨qv4, 3, none⟩ = some (.int .i64 1000000) := (cell_of HBv4_18.out 3).trans rfl
          go_wp2_with fail
          refine (implHits_any k a b 1000000 p1 _ xs1.length _ xs1 _ ys1.length _ ys1 st1 _ fs1.length _ fs1 d1 u1 _ (by have := HZB.out; unfold maxLen; omega) (by have := HZB.out; unfold maxLen; omega) (texts_view HOX1_18.out) (texts_view HOY1_18.out) (FieldsV.of_owns HOG1_18.out) (by have := HSM1.out.2.1.1; omega) (by have := HSM1.out.2.2.1.1; omega) (by have := HSM1.out.2.2.2.1.1; omega) (fun i hi => by have := HSM1.out.2.1.2 _ (textAt_mem xs1 i hi); unfold maxLen; omega) (fun i hi => by have := HSM1.out.2.2.1.2 _ (textAt_mem ys1 i hi); unfold maxLen; omega) (shortWalk HSM1.out.2.2.2.1.2) HSM1.out.2.2.2.1.2.copy (by have := HSM1.out.1; unfold maxLen; omega) (by have := HSM1.out.2.2.2.2.1; unfold maxLen; omega) (by have := short_get2 HSM1.out.2.2.2.1.2 varyName; omega)).mono ?_
          rintro e w19 ⟨bb, rfl, hbb, bw⟩
          obtain rfl : true = bb := (hbb.2 (hit_late HK.out)).symm
          clear hbb
          have hb19 : Below w.heap.size w (w19) := hb18.trans (bw.mono hb18.size)
          have HOX1_19 : Hid ((w19).ownsRow w.heap.size 9 1 (.slice oX1 xs1.length pX1) xs1.length (xs1.map Value.string)) := owns_below HOX1_18.out bw (fun g hg => owns_lt HOX1_18.out hg)
          have HOY1_19 : Hid ((w19).ownsRow w.heap.size 9 1 (.slice oY1 ys1.length pY1) ys1.length (ys1.map Value.string)) := owns_below HOY1_18.out bw (fun g hg => owns_lt HOY1_18.out hg)
          have HOG1_19 : Hid ((w19).ownsRow w.heap.size 75 2 (.slice oG1 fs1.length pG1) fs1.length (flatF fs1)) := owns_below HOG1_18.out bw (fun g hg => owns_lt HOG1_18.out hg)
          have HOX2_19 : Hid ((w19).ownsRow w.heap.size 9 1 (.slice oX2 xs2.length pX2) xs2.length (xs2.map Value.string)) := owns_below HOX2_18.out bw (fun g hg => owns_lt HOX2_18.out hg)
          have HOY2_19 : Hid ((w19).ownsRow w.heap.size 9 1 (.slice oY2 ys2.length pY2) ys2.length (ys2.map Value.string)) := owns_below HOY2_18.out bw (fun g hg => owns_lt HOY2_18.out hg)
          have HOG2_19 : Hid ((w19).ownsRow w.heap.size 75 2 (.slice oG2 fs2.length pG2) fs2.length (flatF fs2)) := owns_below HOG2_18.out bw (fun g hg => owns_lt HOG2_18.out hg)
          have HOL_19 : Hid ((w19).ownsRow w.heap.size 25 4 (.slice oL l.length pL) l.length (flatBan l)) := owns_below HOL_18.out bw (fun g hg => owns_lt HOL_18.out hg)
          have HBv1_19 : Hid ((w19).heap[qv1]? = some (.cells #[.int .i64 k, .string a, .string b, .int .i64 t] 25)) := blk_below HBv1_18.out bw
          have HBv2_19 : Hid ((w19).heap[qv2]? = some (.cells #[.string p1, .slice oX1 xs1.length pX1, .slice oY1 ys1.length pY1, .int .i64 st1, .slice oG1 fs1.length pG1, .string d1, .int .i64 u1] 31)) := blk_below HBv2_18.out bw
          have HBv3_19 : Hid ((w19).heap[qv3]? = some (.cells #[.string p2, .slice oX2 xs2.length pX2, .slice oY2 ys2.length pY2, .int .i64 st2, .slice oG2 fs2.length pG2, .string d2, .int .i64 u2] 31)) := blk_below HBv3_18.out bw
          have HBv4_19 : Hid ((w19).heap[qv4]? = some (.cells #[.int .i64 k, .string a, .string b, .int .i64 1000000] 25)) := blk_below HBv4_18.out bw
          have HBv5_19 : Hid ((w19).heap[qv5]? = some (.cells #[.int .i64 2, .string a, .string b, .int .i64 t] 25)) := blk_below HBv5_18.out bw
          clear hb18 HOX1_18 HOY1_18 HOG1_18 HOX2_18 HOY2_18 HOG2_18 HOL_18 HBv1_18 HBv2_18 HBv3_18 HBv4_18 HBv5_18 bw
          clear cv2_0 cv2_1 cv2_2 cv2_3 cv2_4 cv2_5 cv2_6 cv4_0 cv4_1 cv4_2 cv4_3
          go_wp2_with fail
          go_ret
          exact ⟨rfl, hb19⟩
        · have hc1b : ((k : Int) == (1 : Int)) = false := by simpa using hc1
          have hc1n : ((k : Int) != (1 : Int)) = true := by simpa using hc1
          have HK1 : Hid (¬ k = 1) := hc1
          have hc1H : Hid (¬ (k = 1)) := hc1
          clear hc1
          have cv1_0 : (w15).cell? ⟨qv1, 0, none⟩ = some (.int .i64 k) := (cell_of HBv1_15.out 0).trans rfl
          have cv2_0 : (w15).cell? ⟨qv2, 0, none⟩ = some (.string p1) := (cell_of HBv2_15.out 0).trans rfl
          have cv2_1 : (w15).cell? ⟨qv2, 1, none⟩ = some (.slice oX1 xs1.length pX1) := (cell_of HBv2_15.out 1).trans rfl
          have cv2_2 : (w15).cell? ⟨qv2, 2, none⟩ = some (.slice oY1 ys1.length pY1) := (cell_of HBv2_15.out 2).trans rfl
          have cv2_3 : (w15).cell? ⟨qv2, 3, none⟩ = some (.int .i64 st1) := (cell_of HBv2_15.out 3).trans rfl
          have cv2_4 : (w15).cell? ⟨qv2, 4, none⟩ = some (.slice oG1 fs1.length pG1) := (cell_of HBv2_15.out 4).trans rfl
          have cv2_5 : (w15).cell? ⟨qv2, 5, none⟩ = some (.string d1) := (cell_of HBv2_15.out 5).trans rfl
          have cv2_6 : (w15).cell? ⟨qv2, 6, none⟩ = some (.int .i64 u1) := (cell_of HBv2_15.out 6).trans rfl
          have cv4_0 : (w15).cell? ⟨qv4, 0, none⟩ = some (.int .i64 k) := (cell_of HBv4_15.out 0).trans rfl
          have cv4_1 : (w15).cell? ⟨qv4, 1, none⟩ = some (.string a) := (cell_of HBv4_15.out 1).trans rfl
          have cv4_2 : (w15).cell? ⟨qv4, 2, none⟩ = some (.string b) := (cell_of HBv4_15.out 2).trans rfl
          have cv4_3 : (w15).cell? ⟨qv4, 3, none⟩ = some (.int .i64 1000000) := (cell_of HBv4_15.out 3).trans rfl
          go_wp2_with fail
          refine (implHits_any k a b 1000000 p1 _ xs1.length _ xs1 _ ys1.length _ ys1 st1 _ fs1.length _ fs1 d1 u1 _ (by have := HZB.out; unfold maxLen; omega) (by have := HZB.out; unfold maxLen; omega) (texts_view HOX1_15.out) (texts_view HOY1_15.out) (FieldsV.of_owns HOG1_15.out) (by have := HSM1.out.2.1.1; omega) (by have := HSM1.out.2.2.1.1; omega) (by have := HSM1.out.2.2.2.1.1; omega) (fun i hi => by have := HSM1.out.2.1.2 _ (textAt_mem xs1 i hi); unfold maxLen; omega) (fun i hi => by have := HSM1.out.2.2.1.2 _ (textAt_mem ys1 i hi); unfold maxLen; omega) (shortWalk HSM1.out.2.2.2.1.2) HSM1.out.2.2.2.1.2.copy (by have := HSM1.out.1; unfold maxLen; omega) (by have := HSM1.out.2.2.2.2.1; unfold maxLen; omega) (by have := short_get2 HSM1.out.2.2.2.1.2 varyName; omega)).mono ?_
          rintro e w16 ⟨bb, rfl, hbb, bw⟩
          obtain rfl : true = bb := (hbb.2 (hit_late HK.out)).symm
          clear hbb
          have hb16 : Below w.heap.size w (w16) := hb15.trans (bw.mono hb15.size)
          have HM16 : Hid ((w15).heap.size ≤ (w16).heap.size) := bw.size
          have HOX1_16 : Hid ((w16).ownsRow w.heap.size 9 1 (.slice oX1 xs1.length pX1) xs1.length (xs1.map Value.string)) := owns_below HOX1_15.out bw (fun g hg => owns_lt HOX1_15.out hg)
          have HOY1_16 : Hid ((w16).ownsRow w.heap.size 9 1 (.slice oY1 ys1.length pY1) ys1.length (ys1.map Value.string)) := owns_below HOY1_15.out bw (fun g hg => owns_lt HOY1_15.out hg)
          have HOG1_16 : Hid ((w16).ownsRow w.heap.size 75 2 (.slice oG1 fs1.length pG1) fs1.length (flatF fs1)) := owns_below HOG1_15.out bw (fun g hg => owns_lt HOG1_15.out hg)
          have HOX2_16 : Hid ((w16).ownsRow w.heap.size 9 1 (.slice oX2 xs2.length pX2) xs2.length (xs2.map Value.string)) := owns_below HOX2_15.out bw (fun g hg => owns_lt HOX2_15.out hg)
          have HOY2_16 : Hid ((w16).ownsRow w.heap.size 9 1 (.slice oY2 ys2.length pY2) ys2.length (ys2.map Value.string)) := owns_below HOY2_15.out bw (fun g hg => owns_lt HOY2_15.out hg)
          have HOG2_16 : Hid ((w16).ownsRow w.heap.size 75 2 (.slice oG2 fs2.length pG2) fs2.length (flatF fs2)) := owns_below HOG2_15.out bw (fun g hg => owns_lt HOG2_15.out hg)
          have HOL_16 : Hid ((w16).ownsRow w.heap.size 25 4 (.slice oL l.length pL) l.length (flatBan l)) := owns_below HOL_15.out bw (fun g hg => owns_lt HOL_15.out hg)
          have HBv1_16 : Hid ((w16).heap[qv1]? = some (.cells #[.int .i64 k, .string a, .string b, .int .i64 t] 25)) := blk_below HBv1_15.out bw
          have HBv2_16 : Hid ((w16).heap[qv2]? = some (.cells #[.string p1, .slice oX1 xs1.length pX1, .slice oY1 ys1.length pY1, .int .i64 st1, .slice oG1 fs1.length pG1, .string d1, .int .i64 u1] 31)) := blk_below HBv2_15.out bw
          have HBv3_16 : Hid ((w16).heap[qv3]? = some (.cells #[.string p2, .slice oX2 xs2.length pX2, .slice oY2 ys2.length pY2, .int .i64 st2, .slice oG2 fs2.length pG2, .string d2, .int .i64 u2] 31)) := blk_below HBv3_15.out bw
          have HBv4_16 : Hid ((w16).heap[qv4]? = some (.cells #[.int .i64 k, .string a, .string b, .int .i64 1000000] 25)) := blk_below HBv4_15.out bw
          clear hb15 HOX1_15 HOY1_15 HOG1_15 HOX2_15 HOY2_15 HOG2_15 HOL_15 HBv1_15 HBv2_15 HBv3_15 HBv4_15 bw
          clear cv1_0 cv2_0 cv2_1 cv2_2 cv2_3 cv2_4 cv2_5 cv2_6 cv4_0 cv4_1 cv4_2 cv4_3
          go_wp2_with fail
          go_ret
          exact ⟨rfl, hb16⟩

set_option maxRecDepth 100000 in
theorem lifted (os : Os) (started : os.Started) (H : Type) (enc : TypeId × Value → H) :
    ReturnsInHanded {} Tryz.checked os 3 .any (Rows.fnHitsSpec.pre6 enc Tryz.prog Tryz.f3 Rows.fnHitsRow.domain false) (Rows.fnHitsSpec.post enc Tryz.prog Tryz.f3 false true false false) := by
  refine returnsInHanded_of_change (C := Tryz.checked) own started (by kernel_rfl) Tryz.func3
    (ChangeSpec.witness6 (enc := enc) (C := Tryz.checked) false ⟨#[], #[.slice none 0 0], []⟩ 8 (by kernel_rfl) (by kernel_rfl) (by kernel_rfl) (by kernel_rfl)) ?_
  intro W base args ds gs before hval0 hW _ _
  have hval : ∀ (j : Nat) t v, Tryz.f3.params[j]? = some t → args[j]? = some v → Value.okWide Tryz.prog W .any base t v := hval0
  have hW' := hW
  obtain ⟨p, q, hA0, hV, rfl, hfz, hnd⟩ := hW
  have hA : DataW.TrodAll enc Tryz.prog W 0 (fun _ => true) true Tryz.f3.params.toList args.toList ds p := hA0
  rw [Tryz.params3] at hA hval
  obtain ⟨v0, vs0, d0, ds0, p0, q0, hargs, rfl, rfl, h0, r0⟩ := trodAll_cons hA
  obtain ⟨rfl, rfl, rfl⟩ := trodAll_nil r0
  obtain rfl : args = #[v0] := by cases args; simp_all
  obtain ⟨rfl, rfl⟩ := trodVars_none hV
  obtain ⟨a0, len0, cap0, rfl⟩ := okWide_slice Tryz.underlying22 (hval 0 22 v0 rfl rfl)
  have k0 := h0
  have lt0 : ∀ x ∈ p0, x.block < W.heap.size := by obtain ⟨m, hm⟩ := k0; exact DataW.trod_lt m _ _ _ hm
  obtain ⟨z0, w0⟩ : ∃ zs, IsRow .u8 W a0 len0 cap0 zs := by
    obtain ⟨fuel, hf⟩ := h0
    rcases open_ints Tryz.underlying22 Tryz.underlying5 (by kernel_rfl) hf with ⟨hcs, _⟩ | ⟨x, l, c, zs, hcs, _, hl, hm, hz, _, hcell, hwz⟩
    · simp [Value.cells] at hcs
      obtain ⟨rfl, rfl, rfl⟩ := hcs
      exact ⟨[], .inl ⟨rfl, rfl, rfl, rfl⟩⟩
    · simp [Value.cells] at hcs
      obtain ⟨rfl, rfl, rfl⟩ := hcs
      exact ⟨zs, .inr ⟨_, rfl, hl, hm, by simpa using hz, hcell, hwz⟩⟩
  clear hA0 hval0
  refine (walk1 W a0 len0 cap0 z0 w0).mono fun e W' ⟨he, bel⟩ => ?_
  subst he
  exact ⟨_, rfl, _, _, _, [], _, [], hW', trodAll_mk1 (shut_bool Tryz.underlying4 _), (trodAll_cons_mk (Below.trod laidOut (by kernel_rfl) (of_decide_eq_true (by kernel_rfl)) k0 bel lt0) trodAll_mk0), rfl, bel.frame _, fun h => by cases h⟩

theorem over : Rows.fnHitsRow.holds Tryz.pinned (OpenSpec.ofChange Rows.fnHitsSpec) :=
  OpenClaim.holds_of_wide 3 Tryz.f3 rfl rfl rfl rfl rfl rfl rfl ⟨rfl, rfl, rfl, rfl, rfl⟩ rfl rfl rfl rfl rfl (by kernel_rfl) Tryz.func3 (by kernel_rfl)
    (of_decide_eq_true (by kernel_rfl)) (by unfold Func.isWrapper; first | (rw [if_pos (by decide +kernel)]; kernel_rfl) | (rw [if_neg (by decide +kernel)]; exact ⟨rfl, rfl⟩))
    (fun os started H enc _ => lifted os started H enc)
end fnHits

theorem fnHits_holds : Rows.FnHitsSaid := fnHits.over
#print axioms fnHits_holds
end Go.Proofs.YtlmenolcgaakeaaGreat
