/- DiskNew: the program answers as the specification (the law answers true), and its answer owns its memory: no condition. -/
import Derived.Test.YtckjbgpdbehmaaaFnExactDiskNewA
import Derived.Test.YtckjbgpdbehmaaaRows
import Derived.WalkKit
import Derived.ProofKit
import Derived.OpenShut
import Derived.ShutString
import Derived.ChangeOld
import Derived.Below
import Derived.Deep.RegionHeld3
import Derived.Deep.DrawnRows
import Derived.Deep.CutRange
import Derived.Deep.DeepCutAuto
namespace Go.Proofs.Ytckjbgpdbehmaaa
namespace fnExactDiskNew
open Go.ChangeShapes Go.WideShapes Go.ChangeAt Go.RowKit
open Go.ChangeMaps (open_string shut_string)
attribute [local go_sem ↓] Go.wp_at_zero Go.wp_at_succ

theorem own : ownKnob Try.prog.godebug = none := by kernel_rfl
theorem laidOut : laidOutB Try.prog = true := by kernel_rfl

open Go.Lib hiding intOf
set_option maxHeartbeats 16000000 in
set_option maxRecDepth 100000 in
theorem walk1 (w : World)  :
    Calls Try.prog 6 #[] w fun e w' => e = .returned (.bool true) ∧ Below w.heap.size w w' := by
  classical
  obtain ⟨oc, hoc⟩ : ∃ l, l = newC := ⟨_, rfl⟩
  obtain ⟨ow, how⟩ : ∃ l, l = ([] : List (Int × ByteArray)) := ⟨_, rfl⟩
  have HSP : Hid (∀ W : World, Below w.heap.size w W → Calls Try.prog 31 #[] W fun e w' => DiskIs oc ow W e w') := fun W _ => by rw [hoc, how]; exact specDiskNew_any W
  have HIM : Hid (∀ W : World, Below w.heap.size w W → Calls Try.prog 27 #[] W fun e w' => DiskIs oc ow W e w') := fun W _ => by rw [hoc, how]; exact implDiskNew_any W
  have HLV : Hid (oc.length ≤ 1048576 ∧ ow.length ≤ 1048577) := ⟨by rw [hoc]; decide, by rw [how]; decide⟩
  clear hoc how
  have hb0 : Below w.heap.size w w := Below.refl _ _
  go_enter Try.func6, Try.ntmps6
  go_wp2_with fail
  refine (HSP.out _ hb0).mono ?_
  rintro e w1 ⟨vv1, vv2, rfl, ⟨ownX1, ownY1⟩, bw⟩
  obtain ⟨oX1, pX1, rfl⟩ := slice_of_owns ownX1
  obtain ⟨oY1, pY1, rfl⟩ := slice_of_owns ownY1
  have hb1 : Below w.heap.size w (w1) := hb0.trans (bw.mono hb0.size)
  have HM1 : Hid ((w).heap.size ≤ (w1).heap.size) := bw.size
  have HOX1_1 : Hid ((w1).ownsRow w.heap.size 9 1 (.slice oX1 oc.length pX1) oc.length (oc.map Value.string)) := owns_wide ownX1 hb0.size
  have LOX1 : Hid (∀ g, (Value.ownBlock (.slice oX1 oc.length pX1)) = some g → (w).heap.size ≤ g) := fun g hg => owns_ge ownX1 hg
  have HIX1 : Hid (∀ g, (Value.ownBlock (.slice oX1 oc.length pX1)) = some g → g < (w1).heap.size) := fun g hg => owns_lt ownX1 hg
  clear ownX1
  have HOY1_1 : Hid ((w1).ownsRow w.heap.size 67 2 (.slice oY1 ow.length pY1) ow.length (flatWrite ow)) := owns_wide ownY1 hb0.size
  have LOY1 : Hid (∀ g, (Value.ownBlock (.slice oY1 ow.length pY1)) = some g → (w).heap.size ≤ g) := fun g hg => owns_ge ownY1 hg
  have HIY1 : Hid (∀ g, (Value.ownBlock (.slice oY1 ow.length pY1)) = some g → g < (w1).heap.size) := fun g hg => owns_lt ownY1 hg
  clear ownY1
  clear hb0 bw
  go_upto_region 2 with fail
  obtain ⟨qv1, hqv1⟩ : ∃ q, q = (w1).heap.size := ⟨_, rfl⟩
  obtain ⟨w2, hW2⟩ : ∃ W, W = (w1).alloc (.cells #[.slice oX1 oc.length pX1, .slice oY1 ow.length pY1] 27) := ⟨_, rfl⟩
  have hz2 : (w1).heap.size = qv1 := hqv1.symm
  first | rw [← hW2, ← hqv1] | rw [← hW2]
  have hs2 : w2.heap.size = qv1 + 1 := by rw [hW2, ← hz2]; simp
  have bw : Below (w1).heap.size (w1) w2 := by rw [hW2]; exact (Below.refl _ _).alloc (Nat.le_refl _) _
  have hb2 : Below w.heap.size w (w2) := hb1.trans (bw.mono hb1.size)
  have HM2 : Hid ((w1).heap.size ≤ (w2).heap.size) := bw.size
  have HOX1_2 : Hid ((w2).ownsRow w.heap.size 9 1 (.slice oX1 oc.length pX1) oc.length (oc.map Value.string)) := owns_below HOX1_1.out bw (fun g hg => owns_lt HOX1_1.out hg)
  have HOY1_2 : Hid ((w2).ownsRow w.heap.size 67 2 (.slice oY1 ow.length pY1) ow.length (flatWrite ow)) := owns_below HOY1_1.out bw (fun g hg => owns_lt HOY1_1.out hg)
  have HBv1_2 : Hid ((w2).heap[qv1]? = some (.cells #[.slice oX1 oc.length pX1, .slice oY1 ow.length pY1] 27)) := by show _ = _; rw [hW2, ← hz2]; exact heap_alloc_new _ _
  have HGv1 : Hid (w.heap.size ≤ qv1) := by show _ ≤ _; rw [← hz2]; exact hb1.size
  clear hb1 HOX1_1 HOY1_1 bw hW2 hz2
  clear hs2 hqv1
  go_wp2_with fail
  refine (HIM.out _ hb2).mono ?_
  rintro e w3 ⟨vv1, vv2, rfl, ⟨ownX2, ownY2⟩, bw⟩
  obtain ⟨oX2, pX2, rfl⟩ := slice_of_owns ownX2
  obtain ⟨oY2, pY2, rfl⟩ := slice_of_owns ownY2
  have hb3 : Below w.heap.size w (w3) := hb2.trans (bw.mono hb2.size)
  have HM3 : Hid ((w2).heap.size ≤ (w3).heap.size) := bw.size
  have HOX1_3 : Hid ((w3).ownsRow w.heap.size 9 1 (.slice oX1 oc.length pX1) oc.length (oc.map Value.string)) := owns_below HOX1_2.out bw (fun g hg => owns_lt HOX1_2.out hg)
  have HOY1_3 : Hid ((w3).ownsRow w.heap.size 67 2 (.slice oY1 ow.length pY1) ow.length (flatWrite ow)) := owns_below HOY1_2.out bw (fun g hg => owns_lt HOY1_2.out hg)
  have HBv1_3 : Hid ((w3).heap[qv1]? = some (.cells #[.slice oX1 oc.length pX1, .slice oY1 ow.length pY1] 27)) := blk_below HBv1_2.out bw
  have HOX2_3 : Hid ((w3).ownsRow w.heap.size 9 1 (.slice oX2 oc.length pX2) oc.length (oc.map Value.string)) := owns_wide ownX2 hb2.size
  have LOX2 : Hid (∀ g, (Value.ownBlock (.slice oX2 oc.length pX2)) = some g → (w2).heap.size ≤ g) := fun g hg => owns_ge ownX2 hg
  have HIX2 : Hid (∀ g, (Value.ownBlock (.slice oX2 oc.length pX2)) = some g → g < (w3).heap.size) := fun g hg => owns_lt ownX2 hg
  clear ownX2
  have HOY2_3 : Hid ((w3).ownsRow w.heap.size 67 2 (.slice oY2 ow.length pY2) ow.length (flatWrite ow)) := owns_wide ownY2 hb2.size
  have LOY2 : Hid (∀ g, (Value.ownBlock (.slice oY2 ow.length pY2)) = some g → (w2).heap.size ≤ g) := fun g hg => owns_ge ownY2 hg
  have HIY2 : Hid (∀ g, (Value.ownBlock (.slice oY2 ow.length pY2)) = some g → g < (w3).heap.size) := fun g hg => owns_lt ownY2 hg
  clear ownY2
  clear hb2 HOX1_2 HOY1_2 HBv1_2 bw
  go_upto_region 3 with fail
  obtain ⟨qv2, hqv2⟩ : ∃ q, q = (w3).heap.size := ⟨_, rfl⟩
  obtain ⟨w4, hW4⟩ : ∃ W, W = (w3).alloc (.cells #[.slice oX2 oc.length pX2, .slice oY2 ow.length pY2] 27) := ⟨_, rfl⟩
  have hz4 : (w3).heap.size = qv2 := hqv2.symm
  first | rw [← hW4, ← hqv2] | rw [← hW4]
  have hs4 : w4.heap.size = qv2 + 1 := by rw [hW4, ← hz4]; simp
  have bw : Below (w3).heap.size (w3) w4 := by rw [hW4]; exact (Below.refl _ _).alloc (Nat.le_refl _) _
  have hb4 : Below w.heap.size w (w4) := hb3.trans (bw.mono hb3.size)
  have HM4 : Hid ((w3).heap.size ≤ (w4).heap.size) := bw.size
  have HOX1_4 : Hid ((w4).ownsRow w.heap.size 9 1 (.slice oX1 oc.length pX1) oc.length (oc.map Value.string)) := owns_below HOX1_3.out bw (fun g hg => owns_lt HOX1_3.out hg)
  have HOY1_4 : Hid ((w4).ownsRow w.heap.size 67 2 (.slice oY1 ow.length pY1) ow.length (flatWrite ow)) := owns_below HOY1_3.out bw (fun g hg => owns_lt HOY1_3.out hg)
  have HOX2_4 : Hid ((w4).ownsRow w.heap.size 9 1 (.slice oX2 oc.length pX2) oc.length (oc.map Value.string)) := owns_below HOX2_3.out bw (fun g hg => owns_lt HOX2_3.out hg)
  have HOY2_4 : Hid ((w4).ownsRow w.heap.size 67 2 (.slice oY2 ow.length pY2) ow.length (flatWrite ow)) := owns_below HOY2_3.out bw (fun g hg => owns_lt HOY2_3.out hg)
  have HBv1_4 : Hid ((w4).heap[qv1]? = some (.cells #[.slice oX1 oc.length pX1, .slice oY1 ow.length pY1] 27)) := blk_below HBv1_3.out bw
  have HNv1v2 : Hid (qv1 ≠ qv2) := fun e => by have h1 := (Array.getElem?_eq_some_iff.1 HBv1_3.out).1; omega
  have HBv2_4 : Hid ((w4).heap[qv2]? = some (.cells #[.slice oX2 oc.length pX2, .slice oY2 ow.length pY2] 27)) := by show _ = _; rw [hW4, ← hz4]; exact heap_alloc_new _ _
  have HGv2 : Hid (w.heap.size ≤ qv2) := by show _ ≤ _; rw [← hz4]; exact hb3.size
  clear hb3 HOX1_3 HOY1_3 HOX2_3 HOY2_3 HBv1_3 bw hW4 hz4
  clear hs4 hqv2
  have cv1_0 : (w4).cell? ⟨qv1, 0, none⟩ = some (.slice oX1 oc.length pX1) := (cell_of HBv1_4.out 0).trans rfl
  have cv1_1 : (w4).cell? ⟨qv1, 1, none⟩ = some (.slice oY1 ow.length pY1) := (cell_of HBv1_4.out 1).trans rfl
  have cv2_0 : (w4).cell? ⟨qv2, 0, none⟩ = some (.slice oX2 oc.length pX2) := (cell_of HBv2_4.out 0).trans rfl
  have cv2_1 : (w4).cell? ⟨qv2, 1, none⟩ = some (.slice oY2 ow.length pY2) := (cell_of HBv2_4.out 1).trans rfl
  go_wp2_with fail
  refine (eqDisk_any oc.length oc ow.length ow _ _ _ _ _ _ _ ⟨HOX2_4.out, HOY2_4.out⟩ ⟨HOX1_4.out, HOY1_4.out⟩ (by have := HLV.out; omega) (by have := HLV.out; omega)).mono ?_
  rintro e w5 ⟨rfl, bw⟩
  have hb5 : Below w.heap.size w (w5) := hb4.trans (bw.mono hb4.size)
  have HM5 : Hid ((w4).heap.size ≤ (w5).heap.size) := bw.size
  have HOX1_5 : Hid ((w5).ownsRow w.heap.size 9 1 (.slice oX1 oc.length pX1) oc.length (oc.map Value.string)) := owns_below HOX1_4.out bw (fun g hg => owns_lt HOX1_4.out hg)
  have HOY1_5 : Hid ((w5).ownsRow w.heap.size 67 2 (.slice oY1 ow.length pY1) ow.length (flatWrite ow)) := owns_below HOY1_4.out bw (fun g hg => owns_lt HOY1_4.out hg)
  have HOX2_5 : Hid ((w5).ownsRow w.heap.size 9 1 (.slice oX2 oc.length pX2) oc.length (oc.map Value.string)) := owns_below HOX2_4.out bw (fun g hg => owns_lt HOX2_4.out hg)
  have HOY2_5 : Hid ((w5).ownsRow w.heap.size 67 2 (.slice oY2 ow.length pY2) ow.length (flatWrite ow)) := owns_below HOY2_4.out bw (fun g hg => owns_lt HOY2_4.out hg)
  have HBv1_5 : Hid ((w5).heap[qv1]? = some (.cells #[.slice oX1 oc.length pX1, .slice oY1 ow.length pY1] 27)) := blk_below HBv1_4.out bw
  have HBv2_5 : Hid ((w5).heap[qv2]? = some (.cells #[.slice oX2 oc.length pX2, .slice oY2 ow.length pY2] 27)) := blk_below HBv2_4.out bw
  clear hb4 HOX1_4 HOY1_4 HOX2_4 HOY2_4 HBv1_4 HBv2_4 bw
  clear cv1_0 cv1_1 cv2_0 cv2_1
  have cv2_0 : (w5).cell? ⟨qv2, 0, none⟩ = some (.slice oX2 oc.length pX2) := (cell_of HBv2_5.out 0).trans rfl
  have cv2_1 : (w5).cell? ⟨qv2, 1, none⟩ = some (.slice oY2 ow.length pY2) := (cell_of HBv2_5.out 1).trans rfl
  go_wp2_with fail
  refine (markDisk_any oc.length oc ow.length ow _ _ _ _ ⟨HOX2_5.out, HOY2_5.out⟩ hb5.size 1 (by omega) (by have := HLV.out; omega)).mono ?_
  rintro e w6 ⟨rfl, ⟨mk0, mk1⟩, bm, far⟩
  have hb6 : Below w.heap.size w w6 := hb5.trans bm
  have HM6 : Hid ((w5).heap.size ≤ w6.heap.size) := bm.size
  have HOX1_6 : Hid ((w6).ownsRow w.heap.size 9 1 (.slice oX1 oc.length pX1) oc.length (oc.map Value.string)) := owns_same HOX1_5.out (fun g hg => far g (owns_lt HOX1_5.out hg) (fun e => by have h1 := LOX2.out g e; have h2 := HIX1.out g hg; have := HM2.out; have := HM3.out; omega) (own_type_ne HOX1_5.out HOY2_5.out (by decide) g hg))
  have HOY1_6 : Hid ((w6).ownsRow w.heap.size 67 2 (.slice oY1 ow.length pY1) ow.length (flatWrite ow)) := owns_same HOY1_5.out (fun g hg => far g (owns_lt HOY1_5.out hg) (own_type_ne HOY1_5.out HOX2_5.out (by decide) g hg) (fun e => by have h1 := LOY2.out g e; have h2 := HIY1.out g hg; have := HM2.out; have := HM3.out; omega))
  have HBv1_6 : Hid ((w6).heap[qv1]? = some (.cells #[.slice oX1 oc.length pX1, .slice oY1 ow.length pY1] 27)) := (far _ (Array.getElem?_eq_some_iff.1 HBv1_5.out).1 (fun e => own_ne HOX2_5.out HBv1_5.out (by decide) _ e rfl) (fun e => own_ne HOY2_5.out HBv1_5.out (by decide) _ e rfl)).trans HBv1_5.out
  have HBv2_6 : Hid ((w6).heap[qv2]? = some (.cells #[.slice oX2 oc.length pX2, .slice oY2 ow.length pY2] 27)) := (far _ (Array.getElem?_eq_some_iff.1 HBv2_5.out).1 (fun e => own_ne HOX2_5.out HBv2_5.out (by decide) _ e rfl) (fun e => own_ne HOY2_5.out HBv2_5.out (by decide) _ e rfl)).trans HBv2_5.out
  have HOX2_6 : Hid ((w6).ownsRow w.heap.size 9 1 (.slice oX2 oc.length pX2) oc.length ((mkT 1 oc oc.length).map Value.string)) := mk0
  have HOY2_6 : Hid ((w6).ownsRow w.heap.size 67 2 (.slice oY2 ow.length pY2) ow.length (flatWrite (mkWrite (1 + oc.length) ow ow.length))) := mk1
  clear hb5 HOX1_5 HOY1_5 HOX2_5 HOY2_5 HBv1_5 HBv2_5 mk0 mk1 bm far
  have hkm3 : ¬ (((1 + oc.length + 2 * ow.length : Nat) : Int) < 0) := by omega
  clear cv2_0 cv2_1
  have cv2_0 : (w6).cell? ⟨qv2, 0, none⟩ = some (.slice oX2 oc.length pX2) := (cell_of HBv2_6.out 0).trans rfl
  have cv2_1 : (w6).cell? ⟨qv2, 1, none⟩ = some (.slice oY2 ow.length pY2) := (cell_of HBv2_6.out 1).trans rfl
  go_wp2_with fail
  refine (heldDisk_any oc.length (mkT 1 oc oc.length) ow.length (mkWrite (1 + oc.length) ow ow.length) _ _ _ _ ⟨HOX2_6.out, HOY2_6.out⟩ 1 (by omega) (by have := HLV.out; omega) (fun j hj => mkT_at 1 oc j hj _ hj) (fun j hj => by have e := mkWrite_at (1 + oc.length) ow j ow.length (Nat.le_refl _) hj; rw [e]; exact ⟨rfl, rfl⟩)).mono ?_
  rintro e w7 ⟨rfl, bw⟩
  have hb7 : Below w.heap.size w (w7) := hb6.trans (bw.mono hb6.size)
  have HM7 : Hid ((w6).heap.size ≤ (w7).heap.size) := bw.size
  have HOX1_7 : Hid ((w7).ownsRow w.heap.size 9 1 (.slice oX1 oc.length pX1) oc.length (oc.map Value.string)) := owns_below HOX1_6.out bw (fun g hg => owns_lt HOX1_6.out hg)
  have HOY1_7 : Hid ((w7).ownsRow w.heap.size 67 2 (.slice oY1 ow.length pY1) ow.length (flatWrite ow)) := owns_below HOY1_6.out bw (fun g hg => owns_lt HOY1_6.out hg)
  have HOX2_7 : Hid ((w7).ownsRow w.heap.size 9 1 (.slice oX2 oc.length pX2) oc.length ((mkT 1 oc oc.length).map Value.string)) := owns_below HOX2_6.out bw (fun g hg => owns_lt HOX2_6.out hg)
  have HOY2_7 : Hid ((w7).ownsRow w.heap.size 67 2 (.slice oY2 ow.length pY2) ow.length (flatWrite (mkWrite (1 + oc.length) ow ow.length))) := owns_below HOY2_6.out bw (fun g hg => owns_lt HOY2_6.out hg)
  have HBv1_7 : Hid ((w7).heap[qv1]? = some (.cells #[.slice oX1 oc.length pX1, .slice oY1 ow.length pY1] 27)) := blk_below HBv1_6.out bw
  have HBv2_7 : Hid ((w7).heap[qv2]? = some (.cells #[.slice oX2 oc.length pX2, .slice oY2 ow.length pY2] 27)) := blk_below HBv2_6.out bw
  clear hb6 HOX1_6 HOY1_6 HOX2_6 HOY2_6 HBv1_6 HBv2_6 bw
  have hkh4 : ¬ (((1 + oc.length + 2 * ow.length : Nat) : Int) < 0) := by omega
  clear cv2_0 cv2_1
  go_wp2_with fail
  refine (HIM.out _ hb7).mono ?_
  rintro e w8 ⟨vv1, vv2, rfl, ⟨ownX5, ownY5⟩, bw⟩
  obtain ⟨oX5, pX5, rfl⟩ := slice_of_owns ownX5
  obtain ⟨oY5, pY5, rfl⟩ := slice_of_owns ownY5
  have hb8 : Below w.heap.size w (w8) := hb7.trans (bw.mono hb7.size)
  have HM8 : Hid ((w7).heap.size ≤ (w8).heap.size) := bw.size
  have HOX1_8 : Hid ((w8).ownsRow w.heap.size 9 1 (.slice oX1 oc.length pX1) oc.length (oc.map Value.string)) := owns_below HOX1_7.out bw (fun g hg => owns_lt HOX1_7.out hg)
  have HOY1_8 : Hid ((w8).ownsRow w.heap.size 67 2 (.slice oY1 ow.length pY1) ow.length (flatWrite ow)) := owns_below HOY1_7.out bw (fun g hg => owns_lt HOY1_7.out hg)
  have HOX2_8 : Hid ((w8).ownsRow w.heap.size 9 1 (.slice oX2 oc.length pX2) oc.length ((mkT 1 oc oc.length).map Value.string)) := owns_below HOX2_7.out bw (fun g hg => owns_lt HOX2_7.out hg)
  have HOY2_8 : Hid ((w8).ownsRow w.heap.size 67 2 (.slice oY2 ow.length pY2) ow.length (flatWrite (mkWrite (1 + oc.length) ow ow.length))) := owns_below HOY2_7.out bw (fun g hg => owns_lt HOY2_7.out hg)
  have HBv1_8 : Hid ((w8).heap[qv1]? = some (.cells #[.slice oX1 oc.length pX1, .slice oY1 ow.length pY1] 27)) := blk_below HBv1_7.out bw
  have HBv2_8 : Hid ((w8).heap[qv2]? = some (.cells #[.slice oX2 oc.length pX2, .slice oY2 ow.length pY2] 27)) := blk_below HBv2_7.out bw
  have HOX5_8 : Hid ((w8).ownsRow w.heap.size 9 1 (.slice oX5 oc.length pX5) oc.length (oc.map Value.string)) := owns_wide ownX5 hb7.size
  have LOX5 : Hid (∀ g, (Value.ownBlock (.slice oX5 oc.length pX5)) = some g → (w7).heap.size ≤ g) := fun g hg => owns_ge ownX5 hg
  have HIX5 : Hid (∀ g, (Value.ownBlock (.slice oX5 oc.length pX5)) = some g → g < (w8).heap.size) := fun g hg => owns_lt ownX5 hg
  clear ownX5
  have HOY5_8 : Hid ((w8).ownsRow w.heap.size 67 2 (.slice oY5 ow.length pY5) ow.length (flatWrite ow)) := owns_wide ownY5 hb7.size
  have LOY5 : Hid (∀ g, (Value.ownBlock (.slice oY5 ow.length pY5)) = some g → (w7).heap.size ≤ g) := fun g hg => owns_ge ownY5 hg
  have HIY5 : Hid (∀ g, (Value.ownBlock (.slice oY5 ow.length pY5)) = some g → g < (w8).heap.size) := fun g hg => owns_lt ownY5 hg
  clear ownY5
  clear hb7 HOX1_7 HOY1_7 HOX2_7 HOY2_7 HBv1_7 HBv2_7 bw
  go_upto_region 14 with fail
  obtain ⟨qv3, hqv3⟩ : ∃ q, q = (w8).heap.size := ⟨_, rfl⟩
  obtain ⟨w9, hW9⟩ : ∃ W, W = (w8).alloc (.cells #[.slice oX5 oc.length pX5, .slice oY5 ow.length pY5] 27) := ⟨_, rfl⟩
  have hz9 : (w8).heap.size = qv3 := hqv3.symm
  first | rw [← hW9, ← hqv3] | rw [← hW9]
  have hs9 : w9.heap.size = qv3 + 1 := by rw [hW9, ← hz9]; simp
  have bw : Below (w8).heap.size (w8) w9 := by rw [hW9]; exact (Below.refl _ _).alloc (Nat.le_refl _) _
  have hb9 : Below w.heap.size w (w9) := hb8.trans (bw.mono hb8.size)
  have HM9 : Hid ((w8).heap.size ≤ (w9).heap.size) := bw.size
  have HOX1_9 : Hid ((w9).ownsRow w.heap.size 9 1 (.slice oX1 oc.length pX1) oc.length (oc.map Value.string)) := owns_below HOX1_8.out bw (fun g hg => owns_lt HOX1_8.out hg)
  have HOY1_9 : Hid ((w9).ownsRow w.heap.size 67 2 (.slice oY1 ow.length pY1) ow.length (flatWrite ow)) := owns_below HOY1_8.out bw (fun g hg => owns_lt HOY1_8.out hg)
  have HOX2_9 : Hid ((w9).ownsRow w.heap.size 9 1 (.slice oX2 oc.length pX2) oc.length ((mkT 1 oc oc.length).map Value.string)) := owns_below HOX2_8.out bw (fun g hg => owns_lt HOX2_8.out hg)
  have HOY2_9 : Hid ((w9).ownsRow w.heap.size 67 2 (.slice oY2 ow.length pY2) ow.length (flatWrite (mkWrite (1 + oc.length) ow ow.length))) := owns_below HOY2_8.out bw (fun g hg => owns_lt HOY2_8.out hg)
  have HOX5_9 : Hid ((w9).ownsRow w.heap.size 9 1 (.slice oX5 oc.length pX5) oc.length (oc.map Value.string)) := owns_below HOX5_8.out bw (fun g hg => owns_lt HOX5_8.out hg)
  have HOY5_9 : Hid ((w9).ownsRow w.heap.size 67 2 (.slice oY5 ow.length pY5) ow.length (flatWrite ow)) := owns_below HOY5_8.out bw (fun g hg => owns_lt HOY5_8.out hg)
  have HBv1_9 : Hid ((w9).heap[qv1]? = some (.cells #[.slice oX1 oc.length pX1, .slice oY1 ow.length pY1] 27)) := blk_below HBv1_8.out bw
  have HBv2_9 : Hid ((w9).heap[qv2]? = some (.cells #[.slice oX2 oc.length pX2, .slice oY2 ow.length pY2] 27)) := blk_below HBv2_8.out bw
  have HNv1v3 : Hid (qv1 ≠ qv3) := fun e => by have h1 := (Array.getElem?_eq_some_iff.1 HBv1_8.out).1; omega
  have HNv2v3 : Hid (qv2 ≠ qv3) := fun e => by have h1 := (Array.getElem?_eq_some_iff.1 HBv2_8.out).1; omega
  have HBv3_9 : Hid ((w9).heap[qv3]? = some (.cells #[.slice oX5 oc.length pX5, .slice oY5 ow.length pY5] 27)) := by show _ = _; rw [hW9, ← hz9]; exact heap_alloc_new _ _
  have HGv3 : Hid (w.heap.size ≤ qv3) := by show _ ≤ _; rw [← hz9]; exact hb8.size
  clear hb8 HOX1_8 HOY1_8 HOX2_8 HOY2_8 HOX5_8 HOY5_8 HBv1_8 HBv2_8 bw hW9 hz9
  clear hs9 hqv3
  have cv1_0 : (w9).cell? ⟨qv1, 0, none⟩ = some (.slice oX1 oc.length pX1) := (cell_of HBv1_9.out 0).trans rfl
  have cv1_1 : (w9).cell? ⟨qv1, 1, none⟩ = some (.slice oY1 ow.length pY1) := (cell_of HBv1_9.out 1).trans rfl
  have cv3_0 : (w9).cell? ⟨qv3, 0, none⟩ = some (.slice oX5 oc.length pX5) := (cell_of HBv3_9.out 0).trans rfl
  have cv3_1 : (w9).cell? ⟨qv3, 1, none⟩ = some (.slice oY5 ow.length pY5) := (cell_of HBv3_9.out 1).trans rfl
  go_wp2_with fail
  refine (eqDisk_any oc.length oc ow.length ow _ _ _ _ _ _ _ ⟨HOX5_9.out, HOY5_9.out⟩ ⟨HOX1_9.out, HOY1_9.out⟩ (by have := HLV.out; omega) (by have := HLV.out; omega)).mono ?_
  rintro e w10 ⟨rfl, bw⟩
  have hb10 : Below w.heap.size w (w10) := hb9.trans (bw.mono hb9.size)
  have HM10 : Hid ((w9).heap.size ≤ (w10).heap.size) := bw.size
  have HOX1_10 : Hid ((w10).ownsRow w.heap.size 9 1 (.slice oX1 oc.length pX1) oc.length (oc.map Value.string)) := owns_below HOX1_9.out bw (fun g hg => owns_lt HOX1_9.out hg)
  have HOY1_10 : Hid ((w10).ownsRow w.heap.size 67 2 (.slice oY1 ow.length pY1) ow.length (flatWrite ow)) := owns_below HOY1_9.out bw (fun g hg => owns_lt HOY1_9.out hg)
  have HOX2_10 : Hid ((w10).ownsRow w.heap.size 9 1 (.slice oX2 oc.length pX2) oc.length ((mkT 1 oc oc.length).map Value.string)) := owns_below HOX2_9.out bw (fun g hg => owns_lt HOX2_9.out hg)
  have HOY2_10 : Hid ((w10).ownsRow w.heap.size 67 2 (.slice oY2 ow.length pY2) ow.length (flatWrite (mkWrite (1 + oc.length) ow ow.length))) := owns_below HOY2_9.out bw (fun g hg => owns_lt HOY2_9.out hg)
  have HOX5_10 : Hid ((w10).ownsRow w.heap.size 9 1 (.slice oX5 oc.length pX5) oc.length (oc.map Value.string)) := owns_below HOX5_9.out bw (fun g hg => owns_lt HOX5_9.out hg)
  have HOY5_10 : Hid ((w10).ownsRow w.heap.size 67 2 (.slice oY5 ow.length pY5) ow.length (flatWrite ow)) := owns_below HOY5_9.out bw (fun g hg => owns_lt HOY5_9.out hg)
  have HBv1_10 : Hid ((w10).heap[qv1]? = some (.cells #[.slice oX1 oc.length pX1, .slice oY1 ow.length pY1] 27)) := blk_below HBv1_9.out bw
  have HBv2_10 : Hid ((w10).heap[qv2]? = some (.cells #[.slice oX2 oc.length pX2, .slice oY2 ow.length pY2] 27)) := blk_below HBv2_9.out bw
  have HBv3_10 : Hid ((w10).heap[qv3]? = some (.cells #[.slice oX5 oc.length pX5, .slice oY5 ow.length pY5] 27)) := blk_below HBv3_9.out bw
  clear hb9 HOX1_9 HOY1_9 HOX2_9 HOY2_9 HOX5_9 HOY5_9 HBv1_9 HBv2_9 HBv3_9 bw
  clear cv1_0 cv1_1 cv3_0 cv3_1
  have cv2_0 : (w10).cell? ⟨qv2, 0, none⟩ = some (.slice oX2 oc.length pX2) := (cell_of HBv2_10.out 0).trans rfl
  have cv2_1 : (w10).cell? ⟨qv2, 1, none⟩ = some (.slice oY2 ow.length pY2) := (cell_of HBv2_10.out 1).trans rfl
  go_wp2_with fail
  refine (heldDisk_any oc.length (mkT 1 oc oc.length) ow.length (mkWrite (1 + oc.length) ow ow.length) _ _ _ _ ⟨HOX2_10.out, HOY2_10.out⟩ 1 (by omega) (by have := HLV.out; omega) (fun j hj => mkT_at 1 oc j hj _ hj) (fun j hj => by have e := mkWrite_at (1 + oc.length) ow j ow.length (Nat.le_refl _) hj; rw [e]; exact ⟨rfl, rfl⟩)).mono ?_
  rintro e w11 ⟨rfl, bw⟩
  have hb11 : Below w.heap.size w (w11) := hb10.trans (bw.mono hb10.size)
  have HM11 : Hid ((w10).heap.size ≤ (w11).heap.size) := bw.size
  have HOX1_11 : Hid ((w11).ownsRow w.heap.size 9 1 (.slice oX1 oc.length pX1) oc.length (oc.map Value.string)) := owns_below HOX1_10.out bw (fun g hg => owns_lt HOX1_10.out hg)
  have HOY1_11 : Hid ((w11).ownsRow w.heap.size 67 2 (.slice oY1 ow.length pY1) ow.length (flatWrite ow)) := owns_below HOY1_10.out bw (fun g hg => owns_lt HOY1_10.out hg)
  have HOX2_11 : Hid ((w11).ownsRow w.heap.size 9 1 (.slice oX2 oc.length pX2) oc.length ((mkT 1 oc oc.length).map Value.string)) := owns_below HOX2_10.out bw (fun g hg => owns_lt HOX2_10.out hg)
  have HOY2_11 : Hid ((w11).ownsRow w.heap.size 67 2 (.slice oY2 ow.length pY2) ow.length (flatWrite (mkWrite (1 + oc.length) ow ow.length))) := owns_below HOY2_10.out bw (fun g hg => owns_lt HOY2_10.out hg)
  have HOX5_11 : Hid ((w11).ownsRow w.heap.size 9 1 (.slice oX5 oc.length pX5) oc.length (oc.map Value.string)) := owns_below HOX5_10.out bw (fun g hg => owns_lt HOX5_10.out hg)
  have HOY5_11 : Hid ((w11).ownsRow w.heap.size 67 2 (.slice oY5 ow.length pY5) ow.length (flatWrite ow)) := owns_below HOY5_10.out bw (fun g hg => owns_lt HOY5_10.out hg)
  have HBv1_11 : Hid ((w11).heap[qv1]? = some (.cells #[.slice oX1 oc.length pX1, .slice oY1 ow.length pY1] 27)) := blk_below HBv1_10.out bw
  have HBv2_11 : Hid ((w11).heap[qv2]? = some (.cells #[.slice oX2 oc.length pX2, .slice oY2 ow.length pY2] 27)) := blk_below HBv2_10.out bw
  have HBv3_11 : Hid ((w11).heap[qv3]? = some (.cells #[.slice oX5 oc.length pX5, .slice oY5 ow.length pY5] 27)) := blk_below HBv3_10.out bw
  clear hb10 HOX1_10 HOY1_10 HOX2_10 HOY2_10 HOX5_10 HOY5_10 HBv1_10 HBv2_10 HBv3_10 bw
  have hkh6 : ¬ (((1 + oc.length + 2 * ow.length : Nat) : Int) < 0) := by omega
  clear cv2_0 cv2_1
  go_wp2_with fail
  go_ret
  exact ⟨rfl, hb11⟩


set_option maxRecDepth 100000 in
theorem lifted (os : Os) (started : os.Started) (H : Type) (enc : TypeId × Value → H) :
    ReturnsInHanded {} Try.checked os 6 .any (Rows.fnExactDiskNewSpec.pre6 enc Try.prog Try.f6 Rows.fnExactDiskNewRow.domain false) (Rows.fnExactDiskNewSpec.post enc Try.prog Try.f6 false true false false) := by
  refine returnsInHanded_of_change (C := Try.checked) own started (by kernel_rfl) Try.func6
    (ChangeSpec.witness6 (enc := enc) (C := Try.checked) false ⟨#[], #[], []⟩ 8 (by kernel_rfl) (by kernel_rfl) (by kernel_rfl) (by kernel_rfl)) ?_
  intro W base args ds gs before hval0 hW _ _
  have hval : ∀ (j : Nat) t v, Try.f6.params[j]? = some t → args[j]? = some v → Value.okWide Try.prog W .any base t v := hval0
  have hW' := hW
  obtain ⟨p, q, hA0, hV, rfl, hfz, hnd⟩ := hW
  have hA : DataW.TrodAll enc Try.prog W 0 (fun _ => true) true Try.f6.params.toList args.toList ds p := hA0
  rw [Try.params6] at hA hval
  obtain ⟨hargs, rfl, rfl⟩ := trodAll_nil hA
  obtain rfl : args = #[] := by cases args; simp_all
  obtain ⟨rfl, rfl⟩ := trodVars_none hV
  clear hA0 hval0
  refine (walk1 W ).mono fun e W' ⟨he, bel⟩ => ?_
  subst he
  exact ⟨_, rfl, _, _, _, [], [], [], hW', trodAll_mk1 (shut_bool Try.underlying4 _), trodAll_mk0, rfl, bel.frame _, fun h => by cases h⟩

theorem over : Rows.fnExactDiskNewRow.holds Try.pinned (OpenSpec.ofChange Rows.fnExactDiskNewSpec) :=
  OpenClaim.holds_of_wide 6 Try.f6 rfl rfl rfl rfl rfl rfl rfl ⟨rfl, rfl, rfl, rfl, rfl⟩ rfl rfl rfl rfl rfl (by kernel_rfl) Try.func6 (by kernel_rfl)
    (of_decide_eq_true (by kernel_rfl)) (by unfold Func.isWrapper; first | (rw [if_pos (by decide +kernel)]; kernel_rfl) | (rw [if_neg (by decide +kernel)]; exact ⟨rfl, rfl⟩))
    (fun os started H enc _ => lifted os started H enc)
end fnExactDiskNew

theorem fnExactDiskNew_holds : Rows.FnExactDiskNewSaid := fnExactDiskNew.over
#print axioms fnExactDiskNew_holds
end Go.Proofs.Ytckjbgpdbehmaaa
