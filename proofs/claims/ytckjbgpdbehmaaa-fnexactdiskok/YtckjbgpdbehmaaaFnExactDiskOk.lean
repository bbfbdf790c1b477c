/- DiskOk: at every argument the program answers as the specification (the law answers true), and it writes into no argument: no condition. -/
import Derived.Test.YtckjbgpdbehmaaaFnExactDiskOkA
import Derived.Test.YtckjbgpdbehmaaaRows
import Derived.WalkKit
import Derived.ProofKit
import Derived.OpenShut
import Derived.ShutString
import Derived.ChangeOld
import Derived.Below
import Derived.Deep.RegionHeld3
import Derived.Deep.DrawnRows
import Derived.Deep.CutRange
import Derived.Deep.DeepCutAuto
namespace Go.Proofs.Ytckjbgpdbehmaaa
namespace fnExactDiskOk
open Go.ChangeShapes Go.WideShapes Go.ChangeAt Go.RowKit
open Go.ChangeMaps (open_string shut_string)
attribute [local go_sem ↓] Go.wp_at_zero Go.wp_at_succ

theorem own : ownKnob Try.prog.godebug = none := by kernel_rfl
theorem laidOut : laidOutB Try.prog = true := by kernel_rfl
open Classical in
theorem bool_is {P : Prop} {prog : Program} {f : FuncId} {args : Array Value} {w : World} (h : Calls prog f args w fun e w' => BoolIs P w e w') : Calls prog f args w fun e w' => e = .returned (.bool (decide P)) ∧ Below w.heap.size w w' :=
  h.mono fun e w' ⟨t, h1, h2, h3⟩ => ⟨by rw [h1, (show t = decide P by rw [Bool.eq_iff_iff, h2, decide_eq_true_iff])], h3⟩

open Go.Lib hiding intOf
set_option maxHeartbeats 16000000 in
set_option maxRecDepth 100000 in
theorem walk1 (w : World) (a1 : Option Addr) (n1 c1 : Nat) (cs : List ByteArray) (a2 : Option Addr) (n2 c2 : Nat) (ws : List (Int × ByteArray)) (h1 : ArgT w w.heap.size a1 n1 cs) (h2 : ArgWrite w w.heap.size a2 n2 ws) (hn1 : n1 ≤ maxLen) (hn2 : n2 ≤ maxLen) (hs1 : ∀ i, i < n1 → (textAt cs i).size ≤ maxLen) (hs2 : ∀ x ∈ ws, (x.2).size ≤ maxLen) :
    Calls Try.prog 5 #[.agg #[.slice a1 n1 c1, .slice a2 n2 c2]] w fun e w' => e = .returned (.bool true) ∧ Below w.heap.size w w' := by
  classical
  have HA1 : Hid (∀ W, Below w.heap.size w W → ArgT W w.heap.size a1 n1 cs) := fun W h => h1.below h
  have HA2 : Hid (∀ W, Below w.heap.size w W → ArgWrite W w.heap.size a2 n2 ws) := fun W h => h2.below h
  have HCL : Hid (cs.length = n1) := h1.len
  have HPL : Hid (ws.length = n2) := h2.1
  have HN1 : Hid (n1 ≤ maxLen) := hn1
  have HN2 : Hid (n2 ≤ maxLen) := hn2
  have HS1 : Hid (∀ i, i < n1 → (textAt cs i).size ≤ maxLen) := hs1
  have HS2 : Hid (∀ x ∈ ws, (x.2).size ≤ maxLen) := hs2
  clear h1 h2 hn1 hn2 hs1 hs2
  have hb0 : Below w.heap.size w w := Below.refl _ _
  go_enter Try.func5, Try.ntmps5
  go_upto_region 1 with fail
  obtain ⟨qv1, hqv1⟩ : ∃ q, q = (w).heap.size := ⟨_, rfl⟩
  obtain ⟨w1, hW1⟩ : ∃ W, W = (w).alloc (.cells #[.slice a1 n1 c1, .slice a2 n2 c2] 46) := ⟨_, rfl⟩
  have hz1 : (w).heap.size = qv1 := hqv1.symm
  first | rw [← hW1, ← hqv1] | rw [← hW1]
  have hs1 : w1.heap.size = qv1 + 1 := by rw [hW1, ← hz1]; simp
  have bw : Below (w).heap.size (w) w1 := by rw [hW1]; exact (Below.refl _ _).alloc (Nat.le_refl _) _
  have hb1 : Below w.heap.size w (w1) := hb0.trans (bw.mono hb0.size)
  have HM1 : Hid ((w).heap.size ≤ (w1).heap.size) := bw.size
  have HBv1_1 : Hid ((w1).heap[qv1]? = some (.cells #[.slice a1 n1 c1, .slice a2 n2 c2] 46)) := by show _ = _; rw [hW1, ← hz1]; exact heap_alloc_new _ _
  have HGv1 : Hid (w.heap.size ≤ qv1) := by show _ ≤ _; rw [← hz1]; exact hb0.size
  clear hb0 bw hW1 hz1
  clear hs1 hqv1
  have cv1_0 : (w1).cell? ⟨qv1, 0, none⟩ = some (.slice a1 n1 c1) := (cell_of HBv1_1.out 0).trans rfl
  have cv1_1 : (w1).cell? ⟨qv1, 1, none⟩ = some (.slice a2 n2 c2) := (cell_of HBv1_1.out 1).trans rfl
  go_wp2_with fail
  refine (szDisk_any 1048576 (by omega) (by omega) a1 n1 c1 cs a2 n2 c2 ws w.heap.size _ (HA1.out _ hb1) (HA2.out _ hb1) hb1.size HN1.out HN2.out HS1.out HS2.out).mono ?_
  rintro e w2 ⟨r1, rfl, hl1, hr1, bw⟩
  have hb2 : Below w.heap.size w (w2) := hb1.trans (bw.mono hb1.size)
  have HM2 : Hid ((w1).heap.size ≤ (w2).heap.size) := bw.size
  have HBv1_2 : Hid ((w2).heap[qv1]? = some (.cells #[.slice a1 n1 c1, .slice a2 n2 c2] 46)) := blk_below HBv1_1.out bw
  clear hb1 HBv1_1 bw
  clear cv1_0 cv1_1
  by_cases hc1 : r1 < 0
  · clear hr1
    go_wp2_with fail
    go_ret
    exact ⟨rfl, hb2⟩
  · obtain ⟨⟨hm1, hz1⟩, hm2, hz2⟩ := hr1 (by omega)
    have HZ1 : Hid (∀ i, i < n1 → (textAt cs i).size ≤ 1048576) := hz1
    have HZ2 : Hid (∀ x ∈ ws, (x.2).size ≤ 1048576) := hz2
    clear hr1 hz1 hz2
    obtain ⟨P, hP⟩ : ∃ P, P = decide (DiskP cs ws) := ⟨_, rfl⟩
    have HSP : Hid (∀ W : World, Below w.heap.size w W → ∀ (u1 u2 : Value) (B : Nat), DiskO W B u1 n1 cs u2 n2 ws → Calls Try.prog 17 #[.agg #[u1, u2]] W fun e w' => e = .returned (.bool P) ∧ Below W.heap.size W w') := fun W _ u1 u2 B ho => by rw [hP]; exact bool_is (specDiskOk_any u1 u2 n1 cs n2 ws B W ho (by omega) (by omega))
    have HIM : Hid (∀ W : World, Below w.heap.size w W → ∀ (u1 u2 : Value) (B : Nat), DiskO W B u1 n1 cs u2 n2 ws → Calls Try.prog 16 #[.agg #[u1, u2]] W fun e w' => e = .returned (.bool P) ∧ Below W.heap.size W w') := fun W _ u1 u2 B ho => by rw [hP]; exact bool_is (implDiskOk_any u1 u2 n1 cs n2 ws B W ho (by omega) (by omega))
    clear hP
    have hPP : (P != P) = false := by simp
    have HLV : Hid (n1 ≤ 1048576 ∧ n2 ≤ 1048576) := ⟨hm1, hm2⟩
    have cv1_0 : (w2).cell? ⟨qv1, 0, none⟩ = some (.slice a1 n1 c1) := (cell_of HBv1_2.out 0).trans rfl
    have cv1_1 : (w2).cell? ⟨qv1, 1, none⟩ = some (.slice a2 n2 c2) := (cell_of HBv1_2.out 1).trans rfl
    go_wp2_with fail
    refine (toDisk_any a1 n1 c1 cs a2 n2 c2 ws w.heap.size _ (HA1.out _ hb2) (HA2.out _ hb2) hb2.size hm1 hm2).mono ?_
    rintro e w3 ⟨vv1, vv2, rfl, ⟨ownC1, ownP1⟩, bw⟩
    obtain ⟨oC1, pC1, rfl⟩ := slice_of_owns ownC1
    obtain ⟨oP1, pP1, rfl⟩ := slice_of_owns ownP1
    have hb3 : Below w.heap.size w (w3) := hb2.trans (bw.mono hb2.size)
    have HM3 : Hid ((w2).heap.size ≤ (w3).heap.size) := bw.size
    have HBv1_3 : Hid ((w3).heap[qv1]? = some (.cells #[.slice a1 n1 c1, .slice a2 n2 c2] 46)) := blk_below HBv1_2.out bw
    have HOC1_3 : Hid ((w3).ownsRow w.heap.size 9 1 (.slice oC1 n1 pC1) n1 (cs.map Value.string)) := owns_wide ownC1 hb2.size
    have LOC1 : Hid (∀ g, (Value.ownBlock (.slice oC1 n1 pC1)) = some g → (w2).heap.size ≤ g) := fun g hg => owns_ge ownC1 hg
    have HIC1 : Hid (∀ g, (Value.ownBlock (.slice oC1 n1 pC1)) = some g → g < (w3).heap.size) := fun g hg => owns_lt ownC1 hg
    clear ownC1
    have HOP1_3 : Hid ((w3).ownsRow w.heap.size 67 2 (.slice oP1 n2 pP1) n2 (flatWrite ws)) := owns_wide ownP1 hb2.size
    have LOP1 : Hid (∀ g, (Value.ownBlock (.slice oP1 n2 pP1)) = some g → (w2).heap.size ≤ g) := fun g hg => owns_ge ownP1 hg
    have HIP1 : Hid (∀ g, (Value.ownBlock (.slice oP1 n2 pP1)) = some g → g < (w3).heap.size) := fun g hg => owns_lt ownP1 hg
    clear ownP1
    clear hb2 HBv1_2 bw
    clear cv1_0 cv1_1
    go_wp2_with fail
    refine (HSP.out _ hb3 _ _ _ ⟨HOC1_3.out, HOP1_3.out⟩).mono ?_
    rintro e w4 ⟨rfl, bw⟩
    have hb4 : Below w.heap.size w (w4) := hb3.trans (bw.mono hb3.size)
    have HM4 : Hid ((w3).heap.size ≤ (w4).heap.size) := bw.size
    have HOC1_4 : Hid ((w4).ownsRow w.heap.size 9 1 (.slice oC1 n1 pC1) n1 (cs.map Value.string)) := owns_below HOC1_3.out bw (fun g hg => owns_lt HOC1_3.out hg)
    have HOP1_4 : Hid ((w4).ownsRow w.heap.size 67 2 (.slice oP1 n2 pP1) n2 (flatWrite ws)) := owns_below HOP1_3.out bw (fun g hg => owns_lt HOP1_3.out hg)
    have HBv1_4 : Hid ((w4).heap[qv1]? = some (.cells #[.slice a1 n1 c1, .slice a2 n2 c2] 46)) := blk_below HBv1_3.out bw
    clear hb3 HOC1_3 HOP1_3 HBv1_3 bw
    have cv1_0 : (w4).cell? ⟨qv1, 0, none⟩ = some (.slice a1 n1 c1) := (cell_of HBv1_4.out 0).trans rfl
    have cv1_1 : (w4).cell? ⟨qv1, 1, none⟩ = some (.slice a2 n2 c2) := (cell_of HBv1_4.out 1).trans rfl
    go_wp2_with fail
    refine (toDisk_any a1 n1 c1 cs a2 n2 c2 ws w.heap.size _ (HA1.out _ hb4) (HA2.out _ hb4) hb4.size hm1 hm2).mono ?_
    rintro e w5 ⟨vv1, vv2, rfl, ⟨ownC2, ownP2⟩, bw⟩
    obtain ⟨oC2, pC2, rfl⟩ := slice_of_owns ownC2
    obtain ⟨oP2, pP2, rfl⟩ := slice_of_owns ownP2
    have hb5 : Below w.heap.size w (w5) := hb4.trans (bw.mono hb4.size)
    have HM5 : Hid ((w4).heap.size ≤ (w5).heap.size) := bw.size
    have HOC1_5 : Hid ((w5).ownsRow w.heap.size 9 1 (.slice oC1 n1 pC1) n1 (cs.map Value.string)) := owns_below HOC1_4.out bw (fun g hg => owns_lt HOC1_4.out hg)
    have HOP1_5 : Hid ((w5).ownsRow w.heap.size 67 2 (.slice oP1 n2 pP1) n2 (flatWrite ws)) := owns_below HOP1_4.out bw (fun g hg => owns_lt HOP1_4.out hg)
    have HBv1_5 : Hid ((w5).heap[qv1]? = some (.cells #[.slice a1 n1 c1, .slice a2 n2 c2] 46)) := blk_below HBv1_4.out bw
    have HOC2_5 : Hid ((w5).ownsRow w.heap.size 9 1 (.slice oC2 n1 pC2) n1 (cs.map Value.string)) := owns_wide ownC2 hb4.size
    have LOC2 : Hid (∀ g, (Value.ownBlock (.slice oC2 n1 pC2)) = some g → (w4).heap.size ≤ g) := fun g hg => owns_ge ownC2 hg
    have HIC2 : Hid (∀ g, (Value.ownBlock (.slice oC2 n1 pC2)) = some g → g < (w5).heap.size) := fun g hg => owns_lt ownC2 hg
    clear ownC2
    have HOP2_5 : Hid ((w5).ownsRow w.heap.size 67 2 (.slice oP2 n2 pP2) n2 (flatWrite ws)) := owns_wide ownP2 hb4.size
    have LOP2 : Hid (∀ g, (Value.ownBlock (.slice oP2 n2 pP2)) = some g → (w4).heap.size ≤ g) := fun g hg => owns_ge ownP2 hg
    have HIP2 : Hid (∀ g, (Value.ownBlock (.slice oP2 n2 pP2)) = some g → g < (w5).heap.size) := fun g hg => owns_lt ownP2 hg
    clear ownP2
    clear hb4 HOC1_4 HOP1_4 HBv1_4 bw
    clear cv1_0 cv1_1
    go_upto_region 7 with fail
    obtain ⟨qv2, hqv2⟩ : ∃ q, q = (w5).heap.size := ⟨_, rfl⟩
    obtain ⟨w6, hW6⟩ : ∃ W, W = (w5).alloc (.cells #[.slice oC2 n1 pC2, .slice oP2 n2 pP2] 27) := ⟨_, rfl⟩
    have hz6 : (w5).heap.size = qv2 := hqv2.symm
    first | rw [← hW6, ← hqv2] | rw [← hW6]
    have hs6 : w6.heap.size = qv2 + 1 := by rw [hW6, ← hz6]; simp
    have bw : Below (w5).heap.size (w5) w6 := by rw [hW6]; exact (Below.refl _ _).alloc (Nat.le_refl _) _
    have hb6 : Below w.heap.size w (w6) := hb5.trans (bw.mono hb5.size)
    have HM6 : Hid ((w5).heap.size ≤ (w6).heap.size) := bw.size
    have HOC1_6 : Hid ((w6).ownsRow w.heap.size 9 1 (.slice oC1 n1 pC1) n1 (cs.map Value.string)) := owns_below HOC1_5.out bw (fun g hg => owns_lt HOC1_5.out hg)
    have HOP1_6 : Hid ((w6).ownsRow w.heap.size 67 2 (.slice oP1 n2 pP1) n2 (flatWrite ws)) := owns_below HOP1_5.out bw (fun g hg => owns_lt HOP1_5.out hg)
    have HOC2_6 : Hid ((w6).ownsRow w.heap.size 9 1 (.slice oC2 n1 pC2) n1 (cs.map Value.string)) := owns_below HOC2_5.out bw (fun g hg => owns_lt HOC2_5.out hg)
    have HOP2_6 : Hid ((w6).ownsRow w.heap.size 67 2 (.slice oP2 n2 pP2) n2 (flatWrite ws)) := owns_below HOP2_5.out bw (fun g hg => owns_lt HOP2_5.out hg)
    have HBv1_6 : Hid ((w6).heap[qv1]? = some (.cells #[.slice a1 n1 c1, .slice a2 n2 c2] 46)) := blk_below HBv1_5.out bw
    have HNv1v2 : Hid (qv1 ≠ qv2) := fun e => by have h1 := (Array.getElem?_eq_some_iff.1 HBv1_5.out).1; omega
    have HBv2_6 : Hid ((w6).heap[qv2]? = some (.cells #[.slice oC2 n1 pC2, .slice oP2 n2 pP2] 27)) := by show _ = _; rw [hW6, ← hz6]; exact heap_alloc_new _ _
    have HGv2 : Hid (w.heap.size ≤ qv2) := by show _ ≤ _; rw [← hz6]; exact hb5.size
    clear hb5 HOC1_5 HOP1_5 HOC2_5 HOP2_5 HBv1_5 bw hW6 hz6
    clear hs6 hqv2
    have cv2_0 : (w6).cell? ⟨qv2, 0, none⟩ = some (.slice oC2 n1 pC2) := (cell_of HBv2_6.out 0).trans rfl
    have cv2_1 : (w6).cell? ⟨qv2, 1, none⟩ = some (.slice oP2 n2 pP2) := (cell_of HBv2_6.out 1).trans rfl
    go_wp2_with fail
    refine (HIM.out _ hb6 _ _ _ ⟨HOC2_6.out, HOP2_6.out⟩).mono ?_
    rintro e w7 ⟨rfl, bw⟩
    have hb7 : Below w.heap.size w (w7) := hb6.trans (bw.mono hb6.size)
    have HM7 : Hid ((w6).heap.size ≤ (w7).heap.size) := bw.size
    have HOC1_7 : Hid ((w7).ownsRow w.heap.size 9 1 (.slice oC1 n1 pC1) n1 (cs.map Value.string)) := owns_below HOC1_6.out bw (fun g hg => owns_lt HOC1_6.out hg)
    have HOP1_7 : Hid ((w7).ownsRow w.heap.size 67 2 (.slice oP1 n2 pP1) n2 (flatWrite ws)) := owns_below HOP1_6.out bw (fun g hg => owns_lt HOP1_6.out hg)
    have HOC2_7 : Hid ((w7).ownsRow w.heap.size 9 1 (.slice oC2 n1 pC2) n1 (cs.map Value.string)) := owns_below HOC2_6.out bw (fun g hg => owns_lt HOC2_6.out hg)
    have HOP2_7 : Hid ((w7).ownsRow w.heap.size 67 2 (.slice oP2 n2 pP2) n2 (flatWrite ws)) := owns_below HOP2_6.out bw (fun g hg => owns_lt HOP2_6.out hg)
    have HBv1_7 : Hid ((w7).heap[qv1]? = some (.cells #[.slice a1 n1 c1, .slice a2 n2 c2] 46)) := blk_below HBv1_6.out bw
    have HBv2_7 : Hid ((w7).heap[qv2]? = some (.cells #[.slice oC2 n1 pC2, .slice oP2 n2 pP2] 27)) := blk_below HBv2_6.out bw
    clear hb6 HOC1_6 HOP1_6 HOC2_6 HOP2_6 HBv1_6 HBv2_6 bw
    clear cv2_0 cv2_1
    go_upto_region 10 with fail
    refine wp_region_held_drew (S := fun W => W.heap[qv2]? = some (.cells #[.slice oC2 n1 pC2, .slice oP2 n2 pP2] 27) ∧ W.heap[qv1]? = some (.cells #[.slice a1 n1 c1, .slice a2 n2 c2] 46)) (by kernel_rfl) ⟨HBv2_7.out, HBv1_7.out⟩ (fun _ => ?_)
    obtain ⟨w8, hX⟩ : ∃ X, X = w7.drew := ⟨_, rfl⟩
    have bw : Below w7.heap.size w7 w8 := by rw [hX]; exact (Below.refl _ _).drew
    rw [← hX]
    have hb8 : Below w.heap.size w (w8) := hb7.trans (bw.mono hb7.size)
    have HM8 : Hid ((w7).heap.size ≤ (w8).heap.size) := bw.size
    have HOC1_8 : Hid ((w8).ownsRow w.heap.size 9 1 (.slice oC1 n1 pC1) n1 (cs.map Value.string)) := owns_below HOC1_7.out bw (fun g hg => owns_lt HOC1_7.out hg)
    have HOP1_8 : Hid ((w8).ownsRow w.heap.size 67 2 (.slice oP1 n2 pP1) n2 (flatWrite ws)) := owns_below HOP1_7.out bw (fun g hg => owns_lt HOP1_7.out hg)
    have HOC2_8 : Hid ((w8).ownsRow w.heap.size 9 1 (.slice oC2 n1 pC2) n1 (cs.map Value.string)) := owns_below HOC2_7.out bw (fun g hg => owns_lt HOC2_7.out hg)
    have HOP2_8 : Hid ((w8).ownsRow w.heap.size 67 2 (.slice oP2 n2 pP2) n2 (flatWrite ws)) := owns_below HOP2_7.out bw (fun g hg => owns_lt HOP2_7.out hg)
    have HBv1_8 : Hid ((w8).heap[qv1]? = some (.cells #[.slice a1 n1 c1, .slice a2 n2 c2] 46)) := blk_below HBv1_7.out bw
    have HBv2_8 : Hid ((w8).heap[qv2]? = some (.cells #[.slice oC2 n1 pC2, .slice oP2 n2 pP2] 27)) := blk_below HBv2_7.out bw
    have hS8 : w8.heap[qv2]? = some (.cells #[.slice oC2 n1 pC2, .slice oP2 n2 pP2] 27) ∧ w8.heap[qv1]? = some (.cells #[.slice a1 n1 c1, .slice a2 n2 c2] 46) := ⟨HBv2_8.out, HBv1_8.out⟩
    clear hb7 HOC1_7 HOP1_7 HOC2_7 HOP2_7 HBv1_7 HBv2_7 bw hX
    refine wpAnyH_takeD (i := 0) (v := .agg #[.slice oC2 n1 pC2, .slice oP2 n2 pP2]) (some 22) rfl rfl (by kernel_rfl) (by kernel_rfl) (by kernel_rfl) (fun _ _ _ h => h) (Or.inl ⟨by rfl, by intro W hW; obtain ⟨hhv2, hhv1⟩ := hW; have y0 := (cell_of hhv2 0).trans rfl; have y1 := (cell_of hhv2 1).trans rfl; go_simp⟩) hS8 ?_
    simp only [Act.put, List.setIfInBounds_toArray, List.set_cons_zero, List.set_cons_succ]
    refine wpAnyH_takeD (i := 1) (v := .agg #[.slice a1 n1 c1, .slice a2 n2 c2]) (some 23) rfl rfl (by kernel_rfl) (by kernel_rfl) (by kernel_rfl) (fun _ _ _ h => h) (Or.inl ⟨by rfl, by intro W hW; obtain ⟨hhv2, hhv1⟩ := hW; have y0 := (cell_of hhv1 0).trans rfl; have y1 := (cell_of hhv1 1).trans rfl; go_simp⟩) hS8 ?_
    simp only [Act.put, List.setIfInBounds_toArray, List.set_cons_zero, List.set_cons_succ]
    refine wpAnyH_ready (rs := [2]) (by kernel_rfl) (by simp) ?_
    refine AllReadyH.cons rfl (fun K hK => ?_) AllReadyH.nil
    go_simp
    refine (toDisk_any a1 n1 c1 cs a2 n2 c2 ws w.heap.size _ (HA1.out _ hb8) (HA2.out _ hb8) hb8.size hm1 hm2).mono ?_
    rintro e w9 ⟨vv1, vv2, rfl, ⟨ownC3, ownP3⟩, bw⟩
    obtain ⟨oC3, pC3, rfl⟩ := slice_of_owns ownC3
    obtain ⟨oP3, pP3, rfl⟩ := slice_of_owns ownP3
    have hb9 : Below w.heap.size w (w9) := hb8.trans (bw.mono hb8.size)
    have HM9 : Hid ((w8).heap.size ≤ (w9).heap.size) := bw.size
    have HOC1_9 : Hid ((w9).ownsRow w.heap.size 9 1 (.slice oC1 n1 pC1) n1 (cs.map Value.string)) := owns_below HOC1_8.out bw (fun g hg => owns_lt HOC1_8.out hg)
    have HOP1_9 : Hid ((w9).ownsRow w.heap.size 67 2 (.slice oP1 n2 pP1) n2 (flatWrite ws)) := owns_below HOP1_8.out bw (fun g hg => owns_lt HOP1_8.out hg)
    have HOC2_9 : Hid ((w9).ownsRow w.heap.size 9 1 (.slice oC2 n1 pC2) n1 (cs.map Value.string)) := owns_below HOC2_8.out bw (fun g hg => owns_lt HOC2_8.out hg)
    have HOP2_9 : Hid ((w9).ownsRow w.heap.size 67 2 (.slice oP2 n2 pP2) n2 (flatWrite ws)) := owns_below HOP2_8.out bw (fun g hg => owns_lt HOP2_8.out hg)
    have HBv1_9 : Hid ((w9).heap[qv1]? = some (.cells #[.slice a1 n1 c1, .slice a2 n2 c2] 46)) := blk_below HBv1_8.out bw
    have HBv2_9 : Hid ((w9).heap[qv2]? = some (.cells #[.slice oC2 n1 pC2, .slice oP2 n2 pP2] 27)) := blk_below HBv2_8.out bw
    have HOC3_9 : Hid ((w9).ownsRow w.heap.size 9 1 (.slice oC3 n1 pC3) n1 (cs.map Value.string)) := owns_wide ownC3 hb8.size
    have LOC3 : Hid (∀ g, (Value.ownBlock (.slice oC3 n1 pC3)) = some g → (w8).heap.size ≤ g) := fun g hg => owns_ge ownC3 hg
    have HIC3 : Hid (∀ g, (Value.ownBlock (.slice oC3 n1 pC3)) = some g → g < (w9).heap.size) := fun g hg => owns_lt ownC3 hg
    clear ownC3
    have HOP3_9 : Hid ((w9).ownsRow w.heap.size 67 2 (.slice oP3 n2 pP3) n2 (flatWrite ws)) := owns_wide ownP3 hb8.size
    have LOP3 : Hid (∀ g, (Value.ownBlock (.slice oP3 n2 pP3)) = some g → (w8).heap.size ≤ g) := fun g hg => owns_ge ownP3 hg
    have HIP3 : Hid (∀ g, (Value.ownBlock (.slice oP3 n2 pP3)) = some g → g < (w9).heap.size) := fun g hg => owns_lt ownP3 hg
    clear ownP3
    clear hb8 HOC1_8 HOP1_8 HOC2_8 HOP2_8 HBv1_8 HBv2_8 bw
    have hS9 : w9.heap[qv2]? = some (.cells #[.slice oC2 n1 pC2, .slice oP2 n2 pP2] 27) ∧ w9.heap[qv1]? = some (.cells #[.slice a1 n1 c1, .slice a2 n2 c2] 46) := ⟨HBv2_9.out, HBv1_9.out⟩
    refine hK.out _ _ hS9 (fun _ => ?_)
    clear hK K hS8
    refine wpAnyH_ready (rs := [3]) (by kernel_rfl) (by simp) ?_
    refine AllReadyH.cons rfl (fun K hK => ?_) AllReadyH.nil
    go_simp
    refine (eqDisk_any n1 cs n2 ws _ _ _ _ _ _ _ ⟨HOC2_9.out, HOP2_9.out⟩ ⟨HOC3_9.out, HOP3_9.out⟩ (by have := HLV.out; omega) (by have := HLV.out; omega)).mono ?_
    rintro e w10 ⟨rfl, bw⟩
    have hb10 : Below w.heap.size w (w10) := hb9.trans (bw.mono hb9.size)
    have HM10 : Hid ((w9).heap.size ≤ (w10).heap.size) := bw.size
    have HOC1_10 : Hid ((w10).ownsRow w.heap.size 9 1 (.slice oC1 n1 pC1) n1 (cs.map Value.string)) := owns_below HOC1_9.out bw (fun g hg => owns_lt HOC1_9.out hg)
    have HOP1_10 : Hid ((w10).ownsRow w.heap.size 67 2 (.slice oP1 n2 pP1) n2 (flatWrite ws)) := owns_below HOP1_9.out bw (fun g hg => owns_lt HOP1_9.out hg)
    have HOC2_10 : Hid ((w10).ownsRow w.heap.size 9 1 (.slice oC2 n1 pC2) n1 (cs.map Value.string)) := owns_below HOC2_9.out bw (fun g hg => owns_lt HOC2_9.out hg)
    have HOP2_10 : Hid ((w10).ownsRow w.heap.size 67 2 (.slice oP2 n2 pP2) n2 (flatWrite ws)) := owns_below HOP2_9.out bw (fun g hg => owns_lt HOP2_9.out hg)
    have HOC3_10 : Hid ((w10).ownsRow w.heap.size 9 1 (.slice oC3 n1 pC3) n1 (cs.map Value.string)) := owns_below HOC3_9.out bw (fun g hg => owns_lt HOC3_9.out hg)
    have HOP3_10 : Hid ((w10).ownsRow w.heap.size 67 2 (.slice oP3 n2 pP3) n2 (flatWrite ws)) := owns_below HOP3_9.out bw (fun g hg => owns_lt HOP3_9.out hg)
    have HBv1_10 : Hid ((w10).heap[qv1]? = some (.cells #[.slice a1 n1 c1, .slice a2 n2 c2] 46)) := blk_below HBv1_9.out bw
    have HBv2_10 : Hid ((w10).heap[qv2]? = some (.cells #[.slice oC2 n1 pC2, .slice oP2 n2 pP2] 27)) := blk_below HBv2_9.out bw
    clear hb9 HOC1_9 HOP1_9 HOC2_9 HOP2_9 HOC3_9 HOP3_9 HBv1_9 HBv2_9 bw
    have hS10 : w10.heap[qv2]? = some (.cells #[.slice oC2 n1 pC2, .slice oP2 n2 pP2] 27) ∧ w10.heap[qv1]? = some (.cells #[.slice a1 n1 c1, .slice a2 n2 c2] 46) := ⟨HBv2_10.out, HBv1_10.out⟩
    refine hK.out _ _ hS10 (fun _ => ?_)
    clear hK K hS9
    refine wpAnyH_takeD (i := 4) (v := .bool false) (some 26) rfl rfl (by kernel_rfl) (by kernel_rfl) (by kernel_rfl) (fun _ _ _ h => h) (Or.inl ⟨by rfl, by intro W _; go_simp⟩) hS10 ?_
    simp only [Act.put, List.setIfInBounds_toArray, List.set_cons_zero, List.set_cons_succ]
    clear hS10
    refine wpAnyH_done (by kernel_rfl) ?_ _
    go_wp2_with fail
    go_ret
    exact ⟨rfl, hb10⟩


set_option maxRecDepth 100000 in
theorem lifted (os : Os) (started : os.Started) (H : Type) (enc : TypeId × Value → H) :
    ReturnsInHanded {} Try.checked os 5 .any (Rows.fnExactDiskOkSpec.pre6 enc Try.prog Try.f5 Rows.fnExactDiskOkRow.domain false) (Rows.fnExactDiskOkSpec.post enc Try.prog Try.f5 false true false false) := by
  refine returnsInHanded_of_change (C := Try.checked) own started (by kernel_rfl) Try.func5
    (ChangeSpec.witness6 (enc := enc) (C := Try.checked) false ⟨#[], #[.agg #[.slice none 0 0, .slice none 0 0]], []⟩ 8 (by kernel_rfl) (by kernel_rfl) (by kernel_rfl) (by kernel_rfl)) ?_
  intro W base args ds gs before hval0 hW _ _
  have hval : ∀ (j : Nat) t v, Try.f5.params[j]? = some t → args[j]? = some v → Value.okWide Try.prog W .any base t v := hval0
  have hW' := hW
  obtain ⟨p, q, hA0, hV, rfl, hfz, hnd⟩ := hW
  have hA : DataW.TrodAll enc Try.prog W 0 (fun _ => true) true Try.f5.params.toList args.toList ds p := hA0
  rw [Try.params5] at hA hval
  obtain ⟨v0, vs0, d0, ds0, p0, q0, hargs, rfl, rfl, h0, r0⟩ := trodAll_cons hA
  obtain ⟨rfl, rfl, rfl⟩ := trodAll_nil r0
  obtain rfl : args = #[v0] := by cases args; simp_all
  obtain ⟨rfl, rfl⟩ := trodVars_none hV
  have k0 := h0
  have lt0 : ∀ x ∈ p0, x.block < W.heap.size := by obtain ⟨m, hm⟩ := k0; exact DataW.trod_lt m _ _ _ hm
  obtain ⟨da0, dn0, dc0, dcs0, db0, dm0, dd0, dws0, rfl, ga0, gb0, gc0, gd0, ge0, gf0⟩ := openDisk (hval 0 46 v0 rfl rfl) h0
  clear hA0 hval0
  refine (walk1 W da0 dn0 dc0 dcs0 db0 dm0 dd0 dws0 ga0 gb0 gc0 gd0 ge0 gf0).mono fun e W' ⟨he, bel⟩ => ?_
  subst he
  exact ⟨_, rfl, _, _, _, [], _, [], hW', trodAll_mk1 (shut_bool Try.underlying4 _), (trodAll_cons_mk (Below.trod laidOut (by kernel_rfl) (of_decide_eq_true (by kernel_rfl)) k0 bel lt0) trodAll_mk0), rfl, bel.frame _, fun h => by cases h⟩

theorem over : Rows.fnExactDiskOkRow.holds Try.pinned (OpenSpec.ofChange Rows.fnExactDiskOkSpec) :=
  OpenClaim.holds_of_wide 5 Try.f5 rfl rfl rfl rfl rfl rfl rfl ⟨rfl, rfl, rfl, rfl, rfl⟩ rfl rfl rfl rfl rfl (by kernel_rfl) Try.func5 (by kernel_rfl)
    (of_decide_eq_true (by kernel_rfl)) (by unfold Func.isWrapper; first | (rw [if_pos (by decide +kernel)]; kernel_rfl) | (rw [if_neg (by decide +kernel)]; exact ⟨rfl, rfl⟩))
    (fun os started H enc _ => lifted os started H enc)
end fnExactDiskOk

theorem fnExactDiskOk_holds : Rows.FnExactDiskOkSaid := fnExactDiskOk.over
#print axioms fnExactDiskOk_holds
end Go.Proofs.Ytckjbgpdbehmaaa
