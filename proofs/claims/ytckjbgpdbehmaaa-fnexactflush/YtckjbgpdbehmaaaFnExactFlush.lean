/- Flush: at every argument the program answers as the specification (the law answers true), it writes into no argument, and its answer owns its memory: no condition. -/
import Derived.Test.YtckjbgpdbehmaaaFnExactFlushB
import Derived.Test.YtckjbgpdbehmaaaRows
import Derived.WalkKit
import Derived.ProofKit
import Derived.OpenShut
import Derived.ShutString
import Derived.ChangeOld
import Derived.Below
import Derived.Deep.RegionHeld3
import Derived.Deep.DrawnRows
import Derived.Deep.CutRange
import Derived.Deep.DeepCutAuto
namespace Go.Proofs.Ytckjbgpdbehmaaa
namespace fnExactFlush
open Go.ChangeShapes Go.WideShapes Go.ChangeAt Go.RowKit
open Go.ChangeMaps (open_string shut_string)
attribute [local go_sem ↓] Go.wp_at_zero Go.wp_at_succ

theorem own : ownKnob Try.prog.godebug = none := by kernel_rfl
theorem laidOut : laidOutB Try.prog = true := by kernel_rfl

open Go.Lib hiding intOf
set_option maxHeartbeats 16000000 in
set_option maxRecDepth 100000 in
theorem walk1 (w : World) (a1 : Option Addr) (n1 c1 : Nat) (cs : List ByteArray) (a2 : Option Addr) (n2 c2 : Nat) (ws : List (Int × ByteArray)) (h1 : ArgT w w.heap.size a1 n1 cs) (h2 : ArgWrite w w.heap.size a2 n2 ws) (hn1 : n1 ≤ maxLen) (hn2 : n2 ≤ maxLen) (hs1 : ∀ i, i < n1 → (textAt cs i).size ≤ maxLen) (hs2 : ∀ x ∈ ws, (x.2).size ≤ maxLen) :
    Calls Try.prog 9 #[.agg #[.slice a1 n1 c1, .slice a2 n2 c2]] w fun e w' => e = .returned (.bool true) ∧ Below w.heap.size w w' := by
  classical
  have HA1 : Hid (∀ W, Below w.heap.size w W → ArgT W w.heap.size a1 n1 cs) := fun W h => h1.below h
  have HA2 : Hid (∀ W, Below w.heap.size w W → ArgWrite W w.heap.size a2 n2 ws) := fun W h => h2.below h
  have HCL : Hid (cs.length = n1) := h1.len
  have HPL : Hid (ws.length = n2) := h2.1
  have HN1 : Hid (n1 ≤ maxLen) := hn1
  have HN2 : Hid (n2 ≤ maxLen) := hn2
  have HS1 : Hid (∀ i, i < n1 → (textAt cs i).size ≤ maxLen) := hs1
  have HS2 : Hid (∀ x ∈ ws, (x.2).size ≤ maxLen) := hs2
  clear h1 h2 hn1 hn2 hs1 hs2
  have hb0 : Below w.heap.size w w := Below.refl _ _
  go_enter Try.func9, Try.ntmps9
  go_upto_region 1 with fail
  obtain ⟨qv1, hqv1⟩ : ∃ q, q = (w).heap.size := ⟨_, rfl⟩
  obtain ⟨w1, hW1⟩ : ∃ W, W = (w).alloc (.cells #[.slice a1 n1 c1, .slice a2 n2 c2] 46) := ⟨_, rfl⟩
  have hz1 : (w).heap.size = qv1 := hqv1.symm
  first | rw [← hW1, ← hqv1] | rw [← hW1]
  have hs1 : w1.heap.size = qv1 + 1 := by rw [hW1, ← hz1]; simp
  have bw : Below (w).heap.size (w) w1 := by rw [hW1]; exact (Below.refl _ _).alloc (Nat.le_refl _) _
  have hb1 : Below w.heap.size w (w1) := hb0.trans (bw.mono hb0.size)
  have HM1 : Hid ((w).heap.size ≤ (w1).heap.size) := bw.size
  have HBv1_1 : Hid ((w1).heap[qv1]? = some (.cells #[.slice a1 n1 c1, .slice a2 n2 c2] 46)) := by show _ = _; rw [hW1, ← hz1]; exact heap_alloc_new _ _
  have HGv1 : Hid (w.heap.size ≤ qv1) := by show _ ≤ _; rw [← hz1]; exact hb0.size
  clear hb0 bw hW1 hz1
  clear hs1 hqv1
  have cv1_0 : (w1).cell? ⟨qv1, 0, none⟩ = some (.slice a1 n1 c1) := (cell_of HBv1_1.out 0).trans rfl
  have cv1_1 : (w1).cell? ⟨qv1, 1, none⟩ = some (.slice a2 n2 c2) := (cell_of HBv1_1.out 1).trans rfl
  go_wp2_with fail
  refine (szDisk_any 1048576 (by omega) (by omega) a1 n1 c1 cs a2 n2 c2 ws w.heap.size _ (HA1.out _ hb1) (HA2.out _ hb1) hb1.size HN1.out HN2.out HS1.out HS2.out).mono ?_
  rintro e w2 ⟨r1, rfl, hl1, hr1, bw⟩
  have hb2 : Below w.heap.size w (w2) := hb1.trans (bw.mono hb1.size)
  have HM2 : Hid ((w1).heap.size ≤ (w2).heap.size) := bw.size
  have HBv1_2 : Hid ((w2).heap[qv1]? = some (.cells #[.slice a1 n1 c1, .slice a2 n2 c2] 46)) := blk_below HBv1_1.out bw
  clear hb1 HBv1_1 bw
  clear cv1_0 cv1_1
  by_cases hc1 : r1 < 0
  · clear hr1
    go_wp2_with fail
    go_ret
    exact ⟨rfl, hb2⟩
  · obtain ⟨⟨hm1, hz1⟩, hm2, hz2⟩ := hr1 (by omega)
    have HZ1 : Hid (∀ i, i < n1 → (textAt cs i).size ≤ 1048576) := hz1
    have HZ2 : Hid (∀ x ∈ ws, (x.2).size ≤ 1048576) := hz2
    clear hr1 hz1 hz2
    obtain ⟨oc, hoc⟩ : ∃ l, l = landC cs ws (fun _ => true) := ⟨_, rfl⟩
    obtain ⟨ow, how⟩ : ∃ l, l = ([] : List (Int × ByteArray)) := ⟨_, rfl⟩
    have HSP : Hid (∀ W : World, Below w.heap.size w W → ∀ (u1 u2 : Value) (B : Nat), DiskO W B u1 n1 cs u2 n2 ws → Calls Try.prog 26 #[.agg #[u1, u2]] W fun e w' => DiskIs oc ow W e w') := fun W _ u1 u2 B ho => by rw [hoc, how]; exact specFlush_any u1 u2 n1 cs n2 ws B W ho (by omega) (by omega)
    have HIM : Hid (∀ W : World, Below w.heap.size w W → ∀ (u1 u2 : Value) (B : Nat), DiskO W B u1 n1 cs u2 n2 ws → Calls Try.prog 18 #[.agg #[u1, u2]] W fun e w' => DiskIs oc ow W e w') := fun W _ u1 u2 B ho => by rw [hoc, how]; exact implFlush_any u1 u2 n1 cs n2 ws B W ho (by omega) (by omega) HZ1.out HZ2.out
    have HLV : Hid ((n1 ≤ 1048576 ∧ n2 ≤ 1048576) ∧ oc.length ≤ 1048576 ∧ ow.length ≤ 1048577) := ⟨⟨hm1, hm2⟩, by rw [hoc]; exact Nat.le_trans (landC_len cs ws (fun _ => true)) (by rw [HCL.out]; exact hm1), by rw [how]; decide⟩
    clear hoc how
    have cv1_0 : (w2).cell? ⟨qv1, 0, none⟩ = some (.slice a1 n1 c1) := (cell_of HBv1_2.out 0).trans rfl
    have cv1_1 : (w2).cell? ⟨qv1, 1, none⟩ = some (.slice a2 n2 c2) := (cell_of HBv1_2.out 1).trans rfl
    go_wp2_with fail
    refine (toDisk_any a1 n1 c1 cs a2 n2 c2 ws w.heap.size _ (HA1.out _ hb2) (HA2.out _ hb2) hb2.size hm1 hm2).mono ?_
    rintro e w3 ⟨vv1, vv2, rfl, ⟨ownC1, ownP1⟩, bw⟩
    obtain ⟨oC1, pC1, rfl⟩ := slice_of_owns ownC1
    obtain ⟨oP1, pP1, rfl⟩ := slice_of_owns ownP1
    have hb3 : Below w.heap.size w (w3) := hb2.trans (bw.mono hb2.size)
    have HM3 : Hid ((w2).heap.size ≤ (w3).heap.size) := bw.size
    have HBv1_3 : Hid ((w3).heap[qv1]? = some (.cells #[.slice a1 n1 c1, .slice a2 n2 c2] 46)) := blk_below HBv1_2.out bw
    have HOC1_3 : Hid ((w3).ownsRow w.heap.size 9 1 (.slice oC1 n1 pC1) n1 (cs.map Value.string)) := owns_wide ownC1 hb2.size
    have LOC1 : Hid (∀ g, (Value.ownBlock (.slice oC1 n1 pC1)) = some g → (w2).heap.size ≤ g) := fun g hg => owns_ge ownC1 hg
    have HIC1 : Hid (∀ g, (Value.ownBlock (.slice oC1 n1 pC1)) = some g → g < (w3).heap.size) := fun g hg => owns_lt ownC1 hg
    clear ownC1
    have HOP1_3 : Hid ((w3).ownsRow w.heap.size 67 2 (.slice oP1 n2 pP1) n2 (flatWrite ws)) := owns_wide ownP1 hb2.size
    have LOP1 : Hid (∀ g, (Value.ownBlock (.slice oP1 n2 pP1)) = some g → (w2).heap.size ≤ g) := fun g hg => owns_ge ownP1 hg
    have HIP1 : Hid (∀ g, (Value.ownBlock (.slice oP1 n2 pP1)) = some g → g < (w3).heap.size) := fun g hg => owns_lt ownP1 hg
    clear ownP1
    clear hb2 HBv1_2 bw
    clear cv1_0 cv1_1
    go_wp2_with fail
    refine (HSP.out _ hb3 _ _ _ ⟨HOC1_3.out, HOP1_3.out⟩).mono ?_
    rintro e w4 ⟨vv1, vv2, rfl, ⟨ownX2, ownY2⟩, bw⟩
    obtain ⟨oX2, pX2, rfl⟩ := slice_of_owns ownX2
    obtain ⟨oY2, pY2, rfl⟩ := slice_of_owns ownY2
    have hb4 : Below w.heap.size w (w4) := hb3.trans (bw.mono hb3.size)
    have HM4 : Hid ((w3).heap.size ≤ (w4).heap.size) := bw.size
    have HOC1_4 : Hid ((w4).ownsRow w.heap.size 9 1 (.slice oC1 n1 pC1) n1 (cs.map Value.string)) := owns_below HOC1_3.out bw (fun g hg => owns_lt HOC1_3.out hg)
    have HOP1_4 : Hid ((w4).ownsRow w.heap.size 67 2 (.slice oP1 n2 pP1) n2 (flatWrite ws)) := owns_below HOP1_3.out bw (fun g hg => owns_lt HOP1_3.out hg)
    have HBv1_4 : Hid ((w4).heap[qv1]? = some (.cells #[.slice a1 n1 c1, .slice a2 n2 c2] 46)) := blk_below HBv1_3.out bw
    have HOX2_4 : Hid ((w4).ownsRow w.heap.size 9 1 (.slice oX2 oc.length pX2) oc.length (oc.map Value.string)) := owns_wide ownX2 hb3.size
    have LOX2 : Hid (∀ g, (Value.ownBlock (.slice oX2 oc.length pX2)) = some g → (w3).heap.size ≤ g) := fun g hg => owns_ge ownX2 hg
    have HIX2 : Hid (∀ g, (Value.ownBlock (.slice oX2 oc.length pX2)) = some g → g < (w4).heap.size) := fun g hg => owns_lt ownX2 hg
    clear ownX2
    have HOY2_4 : Hid ((w4).ownsRow w.heap.size 67 2 (.slice oY2 ow.length pY2) ow.length (flatWrite ow)) := owns_wide ownY2 hb3.size
    have LOY2 : Hid (∀ g, (Value.ownBlock (.slice oY2 ow.length pY2)) = some g → (w3).heap.size ≤ g) := fun g hg => owns_ge ownY2 hg
    have HIY2 : Hid (∀ g, (Value.ownBlock (.slice oY2 ow.length pY2)) = some g → g < (w4).heap.size) := fun g hg => owns_lt ownY2 hg
    clear ownY2
    clear hb3 HOC1_3 HOP1_3 HBv1_3 bw
    go_upto_region 6 with fail
    obtain ⟨qv2, hqv2⟩ : ∃ q, q = (w4).heap.size := ⟨_, rfl⟩
    obtain ⟨w5, hW5⟩ : ∃ W, W = (w4).alloc (.cells #[.slice oX2 oc.length pX2, .slice oY2 ow.length pY2] 27) := ⟨_, rfl⟩
    have hz5 : (w4).heap.size = qv2 := hqv2.symm
    first | rw [← hW5, ← hqv2] | rw [← hW5]
    have hs5 : w5.heap.size = qv2 + 1 := by rw [hW5, ← hz5]; simp
    have bw : Below (w4).heap.size (w4) w5 := by rw [hW5]; exact (Below.refl _ _).alloc (Nat.le_refl _) _
    have hb5 : Below w.heap.size w (w5) := hb4.trans (bw.mono hb4.size)
    have HM5 : Hid ((w4).heap.size ≤ (w5).heap.size) := bw.size
    have HOC1_5 : Hid ((w5).ownsRow w.heap.size 9 1 (.slice oC1 n1 pC1) n1 (cs.map Value.string)) := owns_below HOC1_4.out bw (fun g hg => owns_lt HOC1_4.out hg)
    have HOP1_5 : Hid ((w5).ownsRow w.heap.size 67 2 (.slice oP1 n2 pP1) n2 (flatWrite ws)) := owns_below HOP1_4.out bw (fun g hg => owns_lt HOP1_4.out hg)
    have HOX2_5 : Hid ((w5).ownsRow w.heap.size 9 1 (.slice oX2 oc.length pX2) oc.length (oc.map Value.string)) := owns_below HOX2_4.out bw (fun g hg => owns_lt HOX2_4.out hg)
    have HOY2_5 : Hid ((w5).ownsRow w.heap.size 67 2 (.slice oY2 ow.length pY2) ow.length (flatWrite ow)) := owns_below HOY2_4.out bw (fun g hg => owns_lt HOY2_4.out hg)
    have HBv1_5 : Hid ((w5).heap[qv1]? = some (.cells #[.slice a1 n1 c1, .slice a2 n2 c2] 46)) := blk_below HBv1_4.out bw
    have HNv1v2 : Hid (qv1 ≠ qv2) := fun e => by have h1 := (Array.getElem?_eq_some_iff.1 HBv1_4.out).1; omega
    have HBv2_5 : Hid ((w5).heap[qv2]? = some (.cells #[.slice oX2 oc.length pX2, .slice oY2 ow.length pY2] 27)) := by show _ = _; rw [hW5, ← hz5]; exact heap_alloc_new _ _
    have HGv2 : Hid (w.heap.size ≤ qv2) := by show _ ≤ _; rw [← hz5]; exact hb4.size
    clear hb4 HOC1_4 HOP1_4 HOX2_4 HOY2_4 HBv1_4 bw hW5 hz5
    clear hs5 hqv2
    have cv1_0 : (w5).cell? ⟨qv1, 0, none⟩ = some (.slice a1 n1 c1) := (cell_of HBv1_5.out 0).trans rfl
    have cv1_1 : (w5).cell? ⟨qv1, 1, none⟩ = some (.slice a2 n2 c2) := (cell_of HBv1_5.out 1).trans rfl
    go_wp2_with fail
    refine (toDisk_any a1 n1 c1 cs a2 n2 c2 ws w.heap.size _ (HA1.out _ hb5) (HA2.out _ hb5) hb5.size hm1 hm2).mono ?_
    rintro e w6 ⟨vv1, vv2, rfl, ⟨ownC3, ownP3⟩, bw⟩
    obtain ⟨oC3, pC3, rfl⟩ := slice_of_owns ownC3
    obtain ⟨oP3, pP3, rfl⟩ := slice_of_owns ownP3
    have hb6 : Below w.heap.size w (w6) := hb5.trans (bw.mono hb5.size)
    have HM6 : Hid ((w5).heap.size ≤ (w6).heap.size) := bw.size
    have HOC1_6 : Hid ((w6).ownsRow w.heap.size 9 1 (.slice oC1 n1 pC1) n1 (cs.map Value.string)) := owns_below HOC1_5.out bw (fun g hg => owns_lt HOC1_5.out hg)
    have HOP1_6 : Hid ((w6).ownsRow w.heap.size 67 2 (.slice oP1 n2 pP1) n2 (flatWrite ws)) := owns_below HOP1_5.out bw (fun g hg => owns_lt HOP1_5.out hg)
    have HOX2_6 : Hid ((w6).ownsRow w.heap.size 9 1 (.slice oX2 oc.length pX2) oc.length (oc.map Value.string)) := owns_below HOX2_5.out bw (fun g hg => owns_lt HOX2_5.out hg)
    have HOY2_6 : Hid ((w6).ownsRow w.heap.size 67 2 (.slice oY2 ow.length pY2) ow.length (flatWrite ow)) := owns_below HOY2_5.out bw (fun g hg => owns_lt HOY2_5.out hg)
    have HBv1_6 : Hid ((w6).heap[qv1]? = some (.cells #[.slice a1 n1 c1, .slice a2 n2 c2] 46)) := blk_below HBv1_5.out bw
    have HBv2_6 : Hid ((w6).heap[qv2]? = some (.cells #[.slice oX2 oc.length pX2, .slice oY2 ow.length pY2] 27)) := blk_below HBv2_5.out bw
    have HOC3_6 : Hid ((w6).ownsRow w.heap.size 9 1 (.slice oC3 n1 pC3) n1 (cs.map Value.string)) := owns_wide ownC3 hb5.size
    have LOC3 : Hid (∀ g, (Value.ownBlock (.slice oC3 n1 pC3)) = some g → (w5).heap.size ≤ g) := fun g hg => owns_ge ownC3 hg
    have HIC3 : Hid (∀ g, (Value.ownBlock (.slice oC3 n1 pC3)) = some g → g < (w6).heap.size) := fun g hg => owns_lt ownC3 hg
    clear ownC3
    have HOP3_6 : Hid ((w6).ownsRow w.heap.size 67 2 (.slice oP3 n2 pP3) n2 (flatWrite ws)) := owns_wide ownP3 hb5.size
    have LOP3 : Hid (∀ g, (Value.ownBlock (.slice oP3 n2 pP3)) = some g → (w5).heap.size ≤ g) := fun g hg => owns_ge ownP3 hg
    have HIP3 : Hid (∀ g, (Value.ownBlock (.slice oP3 n2 pP3)) = some g → g < (w6).heap.size) := fun g hg => owns_lt ownP3 hg
    clear ownP3
    clear hb5 HOC1_5 HOP1_5 HOX2_5 HOY2_5 HBv1_5 HBv2_5 bw
    clear cv1_0 cv1_1
    go_upto_region 7 with fail
    obtain ⟨qv3, hqv3⟩ : ∃ q, q = (w6).heap.size := ⟨_, rfl⟩
    obtain ⟨w7, hW7⟩ : ∃ W, W = (w6).alloc (.cells #[.slice oC3 n1 pC3, .slice oP3 n2 pP3] 27) := ⟨_, rfl⟩
    have hz7 : (w6).heap.size = qv3 := hqv3.symm
    first | rw [← hW7, ← hqv3] | rw [← hW7]
    have hs7 : w7.heap.size = qv3 + 1 := by rw [hW7, ← hz7]; simp
    have bw : Below (w6).heap.size (w6) w7 := by rw [hW7]; exact (Below.refl _ _).alloc (Nat.le_refl _) _
    have hb7 : Below w.heap.size w (w7) := hb6.trans (bw.mono hb6.size)
    have HM7 : Hid ((w6).heap.size ≤ (w7).heap.size) := bw.size
    have HOC1_7 : Hid ((w7).ownsRow w.heap.size 9 1 (.slice oC1 n1 pC1) n1 (cs.map Value.string)) := owns_below HOC1_6.out bw (fun g hg => owns_lt HOC1_6.out hg)
    have HOP1_7 : Hid ((w7).ownsRow w.heap.size 67 2 (.slice oP1 n2 pP1) n2 (flatWrite ws)) := owns_below HOP1_6.out bw (fun g hg => owns_lt HOP1_6.out hg)
    have HOX2_7 : Hid ((w7).ownsRow w.heap.size 9 1 (.slice oX2 oc.length pX2) oc.length (oc.map Value.string)) := owns_below HOX2_6.out bw (fun g hg => owns_lt HOX2_6.out hg)
    have HOY2_7 : Hid ((w7).ownsRow w.heap.size 67 2 (.slice oY2 ow.length pY2) ow.length (flatWrite ow)) := owns_below HOY2_6.out bw (fun g hg => owns_lt HOY2_6.out hg)
    have HOC3_7 : Hid ((w7).ownsRow w.heap.size 9 1 (.slice oC3 n1 pC3) n1 (cs.map Value.string)) := owns_below HOC3_6.out bw (fun g hg => owns_lt HOC3_6.out hg)
    have HOP3_7 : Hid ((w7).ownsRow w.heap.size 67 2 (.slice oP3 n2 pP3) n2 (flatWrite ws)) := owns_below HOP3_6.out bw (fun g hg => owns_lt HOP3_6.out hg)
    have HBv1_7 : Hid ((w7).heap[qv1]? = some (.cells #[.slice a1 n1 c1, .slice a2 n2 c2] 46)) := blk_below HBv1_6.out bw
    have HBv2_7 : Hid ((w7).heap[qv2]? = some (.cells #[.slice oX2 oc.length pX2, .slice oY2 ow.length pY2] 27)) := blk_below HBv2_6.out bw
    have HNv1v3 : Hid (qv1 ≠ qv3) := fun e => by have h1 := (Array.getElem?_eq_some_iff.1 HBv1_6.out).1; omega
    have HNv2v3 : Hid (qv2 ≠ qv3) := fun e => by have h1 := (Array.getElem?_eq_some_iff.1 HBv2_6.out).1; omega
    have HBv3_7 : Hid ((w7).heap[qv3]? = some (.cells #[.slice oC3 n1 pC3, .slice oP3 n2 pP3] 27)) := by show _ = _; rw [hW7, ← hz7]; exact heap_alloc_new _ _
    have HGv3 : Hid (w.heap.size ≤ qv3) := by show _ ≤ _; rw [← hz7]; exact hb6.size
    clear hb6 HOC1_6 HOP1_6 HOX2_6 HOY2_6 HOC3_6 HOP3_6 HBv1_6 HBv2_6 bw hW7 hz7
    clear hs7 hqv3
    have cv3_0 : (w7).cell? ⟨qv3, 0, none⟩ = some (.slice oC3 n1 pC3) := (cell_of HBv3_7.out 0).trans rfl
    have cv3_1 : (w7).cell? ⟨qv3, 1, none⟩ = some (.slice oP3 n2 pP3) := (cell_of HBv3_7.out 1).trans rfl
    go_wp2_with fail
    refine (HIM.out _ hb7 _ _ _ ⟨HOC3_7.out, HOP3_7.out⟩).mono ?_
    rintro e w8 ⟨vv1, vv2, rfl, ⟨ownX4, ownY4⟩, bw⟩
    obtain ⟨oX4, pX4, rfl⟩ := slice_of_owns ownX4
    obtain ⟨oY4, pY4, rfl⟩ := slice_of_owns ownY4
    have hb8 : Below w.heap.size w (w8) := hb7.trans (bw.mono hb7.size)
    have HM8 : Hid ((w7).heap.size ≤ (w8).heap.size) := bw.size
    have HOC1_8 : Hid ((w8).ownsRow w.heap.size 9 1 (.slice oC1 n1 pC1) n1 (cs.map Value.string)) := owns_below HOC1_7.out bw (fun g hg => owns_lt HOC1_7.out hg)
    have HOP1_8 : Hid ((w8).ownsRow w.heap.size 67 2 (.slice oP1 n2 pP1) n2 (flatWrite ws)) := owns_below HOP1_7.out bw (fun g hg => owns_lt HOP1_7.out hg)
    have HOX2_8 : Hid ((w8).ownsRow w.heap.size 9 1 (.slice oX2 oc.length pX2) oc.length (oc.map Value.string)) := owns_below HOX2_7.out bw (fun g hg => owns_lt HOX2_7.out hg)
    have HOY2_8 : Hid ((w8).ownsRow w.heap.size 67 2 (.slice oY2 ow.length pY2) ow.length (flatWrite ow)) := owns_below HOY2_7.out bw (fun g hg => owns_lt HOY2_7.out hg)
    have HOC3_8 : Hid ((w8).ownsRow w.heap.size 9 1 (.slice oC3 n1 pC3) n1 (cs.map Value.string)) := owns_below HOC3_7.out bw (fun g hg => owns_lt HOC3_7.out hg)
    have HOP3_8 : Hid ((w8).ownsRow w.heap.size 67 2 (.slice oP3 n2 pP3) n2 (flatWrite ws)) := owns_below HOP3_7.out bw (fun g hg => owns_lt HOP3_7.out hg)
    have HBv1_8 : Hid ((w8).heap[qv1]? = some (.cells #[.slice a1 n1 c1, .slice a2 n2 c2] 46)) := blk_below HBv1_7.out bw
    have HBv2_8 : Hid ((w8).heap[qv2]? = some (.cells #[.slice oX2 oc.length pX2, .slice oY2 ow.length pY2] 27)) := blk_below HBv2_7.out bw
    have HBv3_8 : Hid ((w8).heap[qv3]? = some (.cells #[.slice oC3 n1 pC3, .slice oP3 n2 pP3] 27)) := blk_below HBv3_7.out bw
    have HOX4_8 : Hid ((w8).ownsRow w.heap.size 9 1 (.slice oX4 oc.length pX4) oc.length (oc.map Value.string)) := owns_wide ownX4 hb7.size
    have LOX4 : Hid (∀ g, (Value.ownBlock (.slice oX4 oc.length pX4)) = some g → (w7).heap.size ≤ g) := fun g hg => owns_ge ownX4 hg
    have HIX4 : Hid (∀ g, (Value.ownBlock (.slice oX4 oc.length pX4)) = some g → g < (w8).heap.size) := fun g hg => owns_lt ownX4 hg
    clear ownX4
    have HOY4_8 : Hid ((w8).ownsRow w.heap.size 67 2 (.slice oY4 ow.length pY4) ow.length (flatWrite ow)) := owns_wide ownY4 hb7.size
    have LOY4 : Hid (∀ g, (Value.ownBlock (.slice oY4 ow.length pY4)) = some g → (w7).heap.size ≤ g) := fun g hg => owns_ge ownY4 hg
    have HIY4 : Hid (∀ g, (Value.ownBlock (.slice oY4 ow.length pY4)) = some g → g < (w8).heap.size) := fun g hg => owns_lt ownY4 hg
    clear ownY4
    clear hb7 HOC1_7 HOP1_7 HOX2_7 HOY2_7 HOC3_7 HOP3_7 HBv1_7 HBv2_7 HBv3_7 bw
    clear cv3_0 cv3_1
    go_upto_region 8 with fail
    obtain ⟨qv4, hqv4⟩ : ∃ q, q = (w8).heap.size := ⟨_, rfl⟩
    obtain ⟨w9, hW9⟩ : ∃ W, W = (w8).alloc (.cells #[.slice oX4 oc.length pX4, .slice oY4 ow.length pY4] 27) := ⟨_, rfl⟩
    have hz9 : (w8).heap.size = qv4 := hqv4.symm
    first | rw [← hW9, ← hqv4] | rw [← hW9]
    have hs9 : w9.heap.size = qv4 + 1 := by rw [hW9, ← hz9]; simp
    have bw : Below (w8).heap.size (w8) w9 := by rw [hW9]; exact (Below.refl _ _).alloc (Nat.le_refl _) _
    have hb9 : Below w.heap.size w (w9) := hb8.trans (bw.mono hb8.size)
    have HM9 : Hid ((w8).heap.size ≤ (w9).heap.size) := bw.size
    have HOC1_9 : Hid ((w9).ownsRow w.heap.size 9 1 (.slice oC1 n1 pC1) n1 (cs.map Value.string)) := owns_below HOC1_8.out bw (fun g hg => owns_lt HOC1_8.out hg)
    have HOP1_9 : Hid ((w9).ownsRow w.heap.size 67 2 (.slice oP1 n2 pP1) n2 (flatWrite ws)) := owns_below HOP1_8.out bw (fun g hg => owns_lt HOP1_8.out hg)
    have HOX2_9 : Hid ((w9).ownsRow w.heap.size 9 1 (.slice oX2 oc.length pX2) oc.length (oc.map Value.string)) := owns_below HOX2_8.out bw (fun g hg => owns_lt HOX2_8.out hg)
    have HOY2_9 : Hid ((w9).ownsRow w.heap.size 67 2 (.slice oY2 ow.length pY2) ow.length (flatWrite ow)) := owns_below HOY2_8.out bw (fun g hg => owns_lt HOY2_8.out hg)
    have HOC3_9 : Hid ((w9).ownsRow w.heap.size 9 1 (.slice oC3 n1 pC3) n1 (cs.map Value.string)) := owns_below HOC3_8.out bw (fun g hg => owns_lt HOC3_8.out hg)
    have HOP3_9 : Hid ((w9).ownsRow w.heap.size 67 2 (.slice oP3 n2 pP3) n2 (flatWrite ws)) := owns_below HOP3_8.out bw (fun g hg => owns_lt HOP3_8.out hg)
    have HOX4_9 : Hid ((w9).ownsRow w.heap.size 9 1 (.slice oX4 oc.length pX4) oc.length (oc.map Value.string)) := owns_below HOX4_8.out bw (fun g hg => owns_lt HOX4_8.out hg)
    have HOY4_9 : Hid ((w9).ownsRow w.heap.size 67 2 (.slice oY4 ow.length pY4) ow.length (flatWrite ow)) := owns_below HOY4_8.out bw (fun g hg => owns_lt HOY4_8.out hg)
    have HBv1_9 : Hid ((w9).heap[qv1]? = some (.cells #[.slice a1 n1 c1, .slice a2 n2 c2] 46)) := blk_below HBv1_8.out bw
    have HBv2_9 : Hid ((w9).heap[qv2]? = some (.cells #[.slice oX2 oc.length pX2, .slice oY2 ow.length pY2] 27)) := blk_below HBv2_8.out bw
    have HBv3_9 : Hid ((w9).heap[qv3]? = some (.cells #[.slice oC3 n1 pC3, .slice oP3 n2 pP3] 27)) := blk_below HBv3_8.out bw
    have HNv1v4 : Hid (qv1 ≠ qv4) := fun e => by have h1 := (Array.getElem?_eq_some_iff.1 HBv1_8.out).1; omega
    have HNv2v4 : Hid (qv2 ≠ qv4) := fun e => by have h1 := (Array.getElem?_eq_some_iff.1 HBv2_8.out).1; omega
    have HNv3v4 : Hid (qv3 ≠ qv4) := fun e => by have h1 := (Array.getElem?_eq_some_iff.1 HBv3_8.out).1; omega
    have HBv4_9 : Hid ((w9).heap[qv4]? = some (.cells #[.slice oX4 oc.length pX4, .slice oY4 ow.length pY4] 27)) := by show _ = _; rw [hW9, ← hz9]; exact heap_alloc_new _ _
    have HGv4 : Hid (w.heap.size ≤ qv4) := by show _ ≤ _; rw [← hz9]; exact hb8.size
    clear hb8 HOC1_8 HOP1_8 HOX2_8 HOY2_8 HOC3_8 HOP3_8 HOX4_8 HOY4_8 HBv1_8 HBv2_8 HBv3_8 bw hW9 hz9
    clear hs9 hqv4
    have cv2_0 : (w9).cell? ⟨qv2, 0, none⟩ = some (.slice oX2 oc.length pX2) := (cell_of HBv2_9.out 0).trans rfl
    have cv2_1 : (w9).cell? ⟨qv2, 1, none⟩ = some (.slice oY2 ow.length pY2) := (cell_of HBv2_9.out 1).trans rfl
    have cv4_0 : (w9).cell? ⟨qv4, 0, none⟩ = some (.slice oX4 oc.length pX4) := (cell_of HBv4_9.out 0).trans rfl
    have cv4_1 : (w9).cell? ⟨qv4, 1, none⟩ = some (.slice oY4 ow.length pY4) := (cell_of HBv4_9.out 1).trans rfl
    go_wp2_with fail
    refine (eqDisk_any oc.length oc ow.length ow _ _ _ _ _ _ _ ⟨HOX4_9.out, HOY4_9.out⟩ ⟨HOX2_9.out, HOY2_9.out⟩ (by have := HLV.out; omega) (by have := HLV.out; omega)).mono ?_
    rintro e w10 ⟨rfl, bw⟩
    have hb10 : Below w.heap.size w (w10) := hb9.trans (bw.mono hb9.size)
    have HM10 : Hid ((w9).heap.size ≤ (w10).heap.size) := bw.size
    have HOC1_10 : Hid ((w10).ownsRow w.heap.size 9 1 (.slice oC1 n1 pC1) n1 (cs.map Value.string)) := owns_below HOC1_9.out bw (fun g hg => owns_lt HOC1_9.out hg)
    have HOP1_10 : Hid ((w10).ownsRow w.heap.size 67 2 (.slice oP1 n2 pP1) n2 (flatWrite ws)) := owns_below HOP1_9.out bw (fun g hg => owns_lt HOP1_9.out hg)
    have HOX2_10 : Hid ((w10).ownsRow w.heap.size 9 1 (.slice oX2 oc.length pX2) oc.length (oc.map Value.string)) := owns_below HOX2_9.out bw (fun g hg => owns_lt HOX2_9.out hg)
    have HOY2_10 : Hid ((w10).ownsRow w.heap.size 67 2 (.slice oY2 ow.length pY2) ow.length (flatWrite ow)) := owns_below HOY2_9.out bw (fun g hg => owns_lt HOY2_9.out hg)
    have HOC3_10 : Hid ((w10).ownsRow w.heap.size 9 1 (.slice oC3 n1 pC3) n1 (cs.map Value.string)) := owns_below HOC3_9.out bw (fun g hg => owns_lt HOC3_9.out hg)
    have HOP3_10 : Hid ((w10).ownsRow w.heap.size 67 2 (.slice oP3 n2 pP3) n2 (flatWrite ws)) := owns_below HOP3_9.out bw (fun g hg => owns_lt HOP3_9.out hg)
    have HOX4_10 : Hid ((w10).ownsRow w.heap.size 9 1 (.slice oX4 oc.length pX4) oc.length (oc.map Value.string)) := owns_below HOX4_9.out bw (fun g hg => owns_lt HOX4_9.out hg)
    have HOY4_10 : Hid ((w10).ownsRow w.heap.size 67 2 (.slice oY4 ow.length pY4) ow.length (flatWrite ow)) := owns_below HOY4_9.out bw (fun g hg => owns_lt HOY4_9.out hg)
    have HBv1_10 : Hid ((w10).heap[qv1]? = some (.cells #[.slice a1 n1 c1, .slice a2 n2 c2] 46)) := blk_below HBv1_9.out bw
    have HBv2_10 : Hid ((w10).heap[qv2]? = some (.cells #[.slice oX2 oc.length pX2, .slice oY2 ow.length pY2] 27)) := blk_below HBv2_9.out bw
    have HBv3_10 : Hid ((w10).heap[qv3]? = some (.cells #[.slice oC3 n1 pC3, .slice oP3 n2 pP3] 27)) := blk_below HBv3_9.out bw
    have HBv4_10 : Hid ((w10).heap[qv4]? = some (.cells #[.slice oX4 oc.length pX4, .slice oY4 ow.length pY4] 27)) := blk_below HBv4_9.out bw
    clear hb9 HOC1_9 HOP1_9 HOX2_9 HOY2_9 HOC3_9 HOP3_9 HOX4_9 HOY4_9 HBv1_9 HBv2_9 HBv3_9 HBv4_9 bw
    clear cv2_0 cv2_1 cv4_0 cv4_1
    go_upto_region 10 with fail
    refine wp_region_held_drew (S := fun W => W.heap[qv3]? = some (.cells #[.slice oC3 n1 pC3, .slice oP3 n2 pP3] 27) ∧ W.heap[qv1]? = some (.cells #[.slice a1 n1 c1, .slice a2 n2 c2] 46)) (by kernel_rfl) ⟨HBv3_10.out, HBv1_10.out⟩ (fun _ => ?_)
    obtain ⟨w11, hX⟩ : ∃ X, X = w10.drew := ⟨_, rfl⟩
    have bw : Below w10.heap.size w10 w11 := by rw [hX]; exact (Below.refl _ _).drew
    rw [← hX]
    have hb11 : Below w.heap.size w (w11) := hb10.trans (bw.mono hb10.size)
    have HM11 : Hid ((w10).heap.size ≤ (w11).heap.size) := bw.size
    have HOC1_11 : Hid ((w11).ownsRow w.heap.size 9 1 (.slice oC1 n1 pC1) n1 (cs.map Value.string)) := owns_below HOC1_10.out bw (fun g hg => owns_lt HOC1_10.out hg)
    have HOP1_11 : Hid ((w11).ownsRow w.heap.size 67 2 (.slice oP1 n2 pP1) n2 (flatWrite ws)) := owns_below HOP1_10.out bw (fun g hg => owns_lt HOP1_10.out hg)
    have HOX2_11 : Hid ((w11).ownsRow w.heap.size 9 1 (.slice oX2 oc.length pX2) oc.length (oc.map Value.string)) := owns_below HOX2_10.out bw (fun g hg => owns_lt HOX2_10.out hg)
    have HOY2_11 : Hid ((w11).ownsRow w.heap.size 67 2 (.slice oY2 ow.length pY2) ow.length (flatWrite ow)) := owns_below HOY2_10.out bw (fun g hg => owns_lt HOY2_10.out hg)
    have HOC3_11 : Hid ((w11).ownsRow w.heap.size 9 1 (.slice oC3 n1 pC3) n1 (cs.map Value.string)) := owns_below HOC3_10.out bw (fun g hg => owns_lt HOC3_10.out hg)
    have HOP3_11 : Hid ((w11).ownsRow w.heap.size 67 2 (.slice oP3 n2 pP3) n2 (flatWrite ws)) := owns_below HOP3_10.out bw (fun g hg => owns_lt HOP3_10.out hg)
    have HOX4_11 : Hid ((w11).ownsRow w.heap.size 9 1 (.slice oX4 oc.length pX4) oc.length (oc.map Value.string)) := owns_below HOX4_10.out bw (fun g hg => owns_lt HOX4_10.out hg)
    have HOY4_11 : Hid ((w11).ownsRow w.heap.size 67 2 (.slice oY4 ow.length pY4) ow.length (flatWrite ow)) := owns_below HOY4_10.out bw (fun g hg => owns_lt HOY4_10.out hg)
    have HBv1_11 : Hid ((w11).heap[qv1]? = some (.cells #[.slice a1 n1 c1, .slice a2 n2 c2] 46)) := blk_below HBv1_10.out bw
    have HBv2_11 : Hid ((w11).heap[qv2]? = some (.cells #[.slice oX2 oc.length pX2, .slice oY2 ow.length pY2] 27)) := blk_below HBv2_10.out bw
    have HBv3_11 : Hid ((w11).heap[qv3]? = some (.cells #[.slice oC3 n1 pC3, .slice oP3 n2 pP3] 27)) := blk_below HBv3_10.out bw
    have HBv4_11 : Hid ((w11).heap[qv4]? = some (.cells #[.slice oX4 oc.length pX4, .slice oY4 ow.length pY4] 27)) := blk_below HBv4_10.out bw
    have hS11 : w11.heap[qv3]? = some (.cells #[.slice oC3 n1 pC3, .slice oP3 n2 pP3] 27) ∧ w11.heap[qv1]? = some (.cells #[.slice a1 n1 c1, .slice a2 n2 c2] 46) := ⟨HBv3_11.out, HBv1_11.out⟩
    clear hb10 HOC1_10 HOP1_10 HOX2_10 HOY2_10 HOC3_10 HOP3_10 HOX4_10 HOY4_10 HBv1_10 HBv2_10 HBv3_10 HBv4_10 bw hX
    refine wpAnyH_takeD (i := 0) (v := .agg #[.slice oC3 n1 pC3, .slice oP3 n2 pP3]) (some 27) rfl rfl (by kernel_rfl) (by kernel_rfl) (by kernel_rfl) (fun _ _ _ h => h) (Or.inl ⟨by rfl, by intro W hW; obtain ⟨hhv3, hhv1⟩ := hW; have y0 := (cell_of hhv3 0).trans rfl; have y1 := (cell_of hhv3 1).trans rfl; go_simp⟩) hS11 ?_
    simp only [Act.put, List.setIfInBounds_toArray, List.set_cons_zero, List.set_cons_succ]
    refine wpAnyH_takeD (i := 1) (v := .agg #[.slice a1 n1 c1, .slice a2 n2 c2]) (some 28) rfl rfl (by kernel_rfl) (by kernel_rfl) (by kernel_rfl) (fun _ _ _ h => h) (Or.inl ⟨by rfl, by intro W hW; obtain ⟨hhv3, hhv1⟩ := hW; have y0 := (cell_of hhv1 0).trans rfl; have y1 := (cell_of hhv1 1).trans rfl; go_simp⟩) hS11 ?_
    simp only [Act.put, List.setIfInBounds_toArray, List.set_cons_zero, List.set_cons_succ]
    refine wpAnyH_ready (rs := [2]) (by kernel_rfl) (by simp) ?_
    refine AllReadyH.cons rfl (fun K hK => ?_) AllReadyH.nil
    go_simp
    refine (toDisk_any a1 n1 c1 cs a2 n2 c2 ws w.heap.size _ (HA1.out _ hb11) (HA2.out _ hb11) hb11.size hm1 hm2).mono ?_
    rintro e w12 ⟨vv1, vv2, rfl, ⟨ownC5, ownP5⟩, bw⟩
    obtain ⟨oC5, pC5, rfl⟩ := slice_of_owns ownC5
    obtain ⟨oP5, pP5, rfl⟩ := slice_of_owns ownP5
    have hb12 : Below w.heap.size w (w12) := hb11.trans (bw.mono hb11.size)
    have HM12 : Hid ((w11).heap.size ≤ (w12).heap.size) := bw.size
    have HOC1_12 : Hid ((w12).ownsRow w.heap.size 9 1 (.slice oC1 n1 pC1) n1 (cs.map Value.string)) := owns_below HOC1_11.out bw (fun g hg => owns_lt HOC1_11.out hg)
    have HOP1_12 : Hid ((w12).ownsRow w.heap.size 67 2 (.slice oP1 n2 pP1) n2 (flatWrite ws)) := owns_below HOP1_11.out bw (fun g hg => owns_lt HOP1_11.out hg)
    have HOX2_12 : Hid ((w12).ownsRow w.heap.size 9 1 (.slice oX2 oc.length pX2) oc.length (oc.map Value.string)) := owns_below HOX2_11.out bw (fun g hg => owns_lt HOX2_11.out hg)
    have HOY2_12 : Hid ((w12).ownsRow w.heap.size 67 2 (.slice oY2 ow.length pY2) ow.length (flatWrite ow)) := owns_below HOY2_11.out bw (fun g hg => owns_lt HOY2_11.out hg)
    have HOC3_12 : Hid ((w12).ownsRow w.heap.size 9 1 (.slice oC3 n1 pC3) n1 (cs.map Value.string)) := owns_below HOC3_11.out bw (fun g hg => owns_lt HOC3_11.out hg)
    have HOP3_12 : Hid ((w12).ownsRow w.heap.size 67 2 (.slice oP3 n2 pP3) n2 (flatWrite ws)) := owns_below HOP3_11.out bw (fun g hg => owns_lt HOP3_11.out hg)
    have HOX4_12 : Hid ((w12).ownsRow w.heap.size 9 1 (.slice oX4 oc.length pX4) oc.length (oc.map Value.string)) := owns_below HOX4_11.out bw (fun g hg => owns_lt HOX4_11.out hg)
    have HOY4_12 : Hid ((w12).ownsRow w.heap.size 67 2 (.slice oY4 ow.length pY4) ow.length (flatWrite ow)) := owns_below HOY4_11.out bw (fun g hg => owns_lt HOY4_11.out hg)
    have HBv1_12 : Hid ((w12).heap[qv1]? = some (.cells #[.slice a1 n1 c1, .slice a2 n2 c2] 46)) := blk_below HBv1_11.out bw
    have HBv2_12 : Hid ((w12).heap[qv2]? = some (.cells #[.slice oX2 oc.length pX2, .slice oY2 ow.length pY2] 27)) := blk_below HBv2_11.out bw
    have HBv3_12 : Hid ((w12).heap[qv3]? = some (.cells #[.slice oC3 n1 pC3, .slice oP3 n2 pP3] 27)) := blk_below HBv3_11.out bw
    have HBv4_12 : Hid ((w12).heap[qv4]? = some (.cells #[.slice oX4 oc.length pX4, .slice oY4 ow.length pY4] 27)) := blk_below HBv4_11.out bw
    have HOC5_12 : Hid ((w12).ownsRow w.heap.size 9 1 (.slice oC5 n1 pC5) n1 (cs.map Value.string)) := owns_wide ownC5 hb11.size
    have LOC5 : Hid (∀ g, (Value.ownBlock (.slice oC5 n1 pC5)) = some g → (w11).heap.size ≤ g) := fun g hg => owns_ge ownC5 hg
    have HIC5 : Hid (∀ g, (Value.ownBlock (.slice oC5 n1 pC5)) = some g → g < (w12).heap.size) := fun g hg => owns_lt ownC5 hg
    clear ownC5
    have HOP5_12 : Hid ((w12).ownsRow w.heap.size 67 2 (.slice oP5 n2 pP5) n2 (flatWrite ws)) := owns_wide ownP5 hb11.size
    have LOP5 : Hid (∀ g, (Value.ownBlock (.slice oP5 n2 pP5)) = some g → (w11).heap.size ≤ g) := fun g hg => owns_ge ownP5 hg
    have HIP5 : Hid (∀ g, (Value.ownBlock (.slice oP5 n2 pP5)) = some g → g < (w12).heap.size) := fun g hg => owns_lt ownP5 hg
    clear ownP5
    clear hb11 HOC1_11 HOP1_11 HOX2_11 HOY2_11 HOC3_11 HOP3_11 HOX4_11 HOY4_11 HBv1_11 HBv2_11 HBv3_11 HBv4_11 bw
    have hS12 : w12.heap[qv3]? = some (.cells #[.slice oC3 n1 pC3, .slice oP3 n2 pP3] 27) ∧ w12.heap[qv1]? = some (.cells #[.slice a1 n1 c1, .slice a2 n2 c2] 46) := ⟨HBv3_12.out, HBv1_12.out⟩
    refine hK.out _ _ hS12 (fun _ => ?_)
    clear hK K hS11
    refine wpAnyH_ready (rs := [3]) (by kernel_rfl) (by simp) ?_
    refine AllReadyH.cons rfl (fun K hK => ?_) AllReadyH.nil
    go_simp
    refine (eqDisk_any n1 cs n2 ws _ _ _ _ _ _ _ ⟨HOC3_12.out, HOP3_12.out⟩ ⟨HOC5_12.out, HOP5_12.out⟩ (by have := HLV.out; omega) (by have := HLV.out; omega)).mono ?_
    rintro e w13 ⟨rfl, bw⟩
    have hb13 : Below w.heap.size w (w13) := hb12.trans (bw.mono hb12.size)
    have HM13 : Hid ((w12).heap.size ≤ (w13).heap.size) := bw.size
    have HOC1_13 : Hid ((w13).ownsRow w.heap.size 9 1 (.slice oC1 n1 pC1) n1 (cs.map Value.string)) := owns_below HOC1_12.out bw (fun g hg => owns_lt HOC1_12.out hg)
    have HOP1_13 : Hid ((w13).ownsRow w.heap.size 67 2 (.slice oP1 n2 pP1) n2 (flatWrite ws)) := owns_below HOP1_12.out bw (fun g hg => owns_lt HOP1_12.out hg)
    have HOX2_13 : Hid ((w13).ownsRow w.heap.size 9 1 (.slice oX2 oc.length pX2) oc.length (oc.map Value.string)) := owns_below HOX2_12.out bw (fun g hg => owns_lt HOX2_12.out hg)
    have HOY2_13 : Hid ((w13).ownsRow w.heap.size 67 2 (.slice oY2 ow.length pY2) ow.length (flatWrite ow)) := owns_below HOY2_12.out bw (fun g hg => owns_lt HOY2_12.out hg)
    have HOC3_13 : Hid ((w13).ownsRow w.heap.size 9 1 (.slice oC3 n1 pC3) n1 (cs.map Value.string)) := owns_below HOC3_12.out bw (fun g hg => owns_lt HOC3_12.out hg)
    have HOP3_13 : Hid ((w13).ownsRow w.heap.size 67 2 (.slice oP3 n2 pP3) n2 (flatWrite ws)) := owns_below HOP3_12.out bw (fun g hg => owns_lt HOP3_12.out hg)
    have HOX4_13 : Hid ((w13).ownsRow w.heap.size 9 1 (.slice oX4 oc.length pX4) oc.length (oc.map Value.string)) := owns_below HOX4_12.out bw (fun g hg => owns_lt HOX4_12.out hg)
    have HOY4_13 : Hid ((w13).ownsRow w.heap.size 67 2 (.slice oY4 ow.length pY4) ow.length (flatWrite ow)) := owns_below HOY4_12.out bw (fun g hg => owns_lt HOY4_12.out hg)
    have HOC5_13 : Hid ((w13).ownsRow w.heap.size 9 1 (.slice oC5 n1 pC5) n1 (cs.map Value.string)) := owns_below HOC5_12.out bw (fun g hg => owns_lt HOC5_12.out hg)
    have HOP5_13 : Hid ((w13).ownsRow w.heap.size 67 2 (.slice oP5 n2 pP5) n2 (flatWrite ws)) := owns_below HOP5_12.out bw (fun g hg => owns_lt HOP5_12.out hg)
    have HBv1_13 : Hid ((w13).heap[qv1]? = some (.cells #[.slice a1 n1 c1, .slice a2 n2 c2] 46)) := blk_below HBv1_12.out bw
    have HBv2_13 : Hid ((w13).heap[qv2]? = some (.cells #[.slice oX2 oc.length pX2, .slice oY2 ow.length pY2] 27)) := blk_below HBv2_12.out bw
    have HBv3_13 : Hid ((w13).heap[qv3]? = some (.cells #[.slice oC3 n1 pC3, .slice oP3 n2 pP3] 27)) := blk_below HBv3_12.out bw
    have HBv4_13 : Hid ((w13).heap[qv4]? = some (.cells #[.slice oX4 oc.length pX4, .slice oY4 ow.length pY4] 27)) := blk_below HBv4_12.out bw
    clear hb12 HOC1_12 HOP1_12 HOX2_12 HOY2_12 HOC3_12 HOP3_12 HOX4_12 HOY4_12 HOC5_12 HOP5_12 HBv1_12 HBv2_12 HBv3_12 HBv4_12 bw
    have hS13 : w13.heap[qv3]? = some (.cells #[.slice oC3 n1 pC3, .slice oP3 n2 pP3] 27) ∧ w13.heap[qv1]? = some (.cells #[.slice a1 n1 c1, .slice a2 n2 c2] 46) := ⟨HBv3_13.out, HBv1_13.out⟩
    refine hK.out _ _ hS13 (fun _ => ?_)
    clear hK K hS12
    refine wpAnyH_takeD (i := 4) (v := .bool false) (some 31) rfl rfl (by kernel_rfl) (by kernel_rfl) (by kernel_rfl) (fun _ _ _ h => h) (Or.inl ⟨by rfl, by intro W _; go_simp⟩) hS13 ?_
    simp only [Act.put, List.setIfInBounds_toArray, List.set_cons_zero, List.set_cons_succ]
    clear hS13
    refine wpAnyH_done (by kernel_rfl) ?_ _
    have cv3_0 : (w13).cell? ⟨qv3, 0, none⟩ = some (.slice oC3 n1 pC3) := (cell_of HBv3_13.out 0).trans rfl
    have cv3_1 : (w13).cell? ⟨qv3, 1, none⟩ = some (.slice oP3 n2 pP3) := (cell_of HBv3_13.out 1).trans rfl
    go_wp2_with fail
    refine (markDisk_any n1 cs n2 ws _ _ _ _ ⟨HOC3_13.out, HOP3_13.out⟩ hb13.size 1 (by omega) (by have := HLV.out; omega)).mono ?_
    rintro e w14 ⟨rfl, ⟨mk0, mk1⟩, bm, far⟩
    have hb14 : Below w.heap.size w w14 := hb13.trans bm
    have HM14 : Hid ((w13).heap.size ≤ w14.heap.size) := bm.size
    have HOC1_14 : Hid ((w14).ownsRow w.heap.size 9 1 (.slice oC1 n1 pC1) n1 (cs.map Value.string)) := owns_same HOC1_13.out (fun g hg => far g (owns_lt HOC1_13.out hg) (fun e => by have h1 := LOC3.out g e; have h2 := HIC1.out g hg; have := HM4.out; have := HM5.out; have := HM6.out; omega) (own_type_ne HOC1_13.out HOP3_13.out (by decide) g hg))
    have HOP1_14 : Hid ((w14).ownsRow w.heap.size 67 2 (.slice oP1 n2 pP1) n2 (flatWrite ws)) := owns_same HOP1_13.out (fun g hg => far g (owns_lt HOP1_13.out hg) (own_type_ne HOP1_13.out HOC3_13.out (by decide) g hg) (fun e => by have h1 := LOP3.out g e; have h2 := HIP1.out g hg; have := HM4.out; have := HM5.out; have := HM6.out; omega))
    have HOX2_14 : Hid ((w14).ownsRow w.heap.size 9 1 (.slice oX2 oc.length pX2) oc.length (oc.map Value.string)) := owns_same HOX2_13.out (fun g hg => far g (owns_lt HOX2_13.out hg) (fun e => by have h1 := LOC3.out g e; have h2 := HIX2.out g hg; have := HM5.out; have := HM6.out; omega) (own_type_ne HOX2_13.out HOP3_13.out (by decide) g hg))
    have HOY2_14 : Hid ((w14).ownsRow w.heap.size 67 2 (.slice oY2 ow.length pY2) ow.length (flatWrite ow)) := owns_same HOY2_13.out (fun g hg => far g (owns_lt HOY2_13.out hg) (own_type_ne HOY2_13.out HOC3_13.out (by decide) g hg) (fun e => by have h1 := LOP3.out g e; have h2 := HIY2.out g hg; have := HM5.out; have := HM6.out; omega))
    have HOX4_14 : Hid ((w14).ownsRow w.heap.size 9 1 (.slice oX4 oc.length pX4) oc.length (oc.map Value.string)) := owns_same HOX4_13.out (fun g hg => far g (owns_lt HOX4_13.out hg) (fun e => by have h1 := LOX4.out g hg; have h2 := HIC3.out g e; have := HM7.out; have := HM8.out; omega) (own_type_ne HOX4_13.out HOP3_13.out (by decide) g hg))
    have HOY4_14 : Hid ((w14).ownsRow w.heap.size 67 2 (.slice oY4 ow.length pY4) ow.length (flatWrite ow)) := owns_same HOY4_13.out (fun g hg => far g (owns_lt HOY4_13.out hg) (own_type_ne HOY4_13.out HOC3_13.out (by decide) g hg) (fun e => by have h1 := LOY4.out g hg; have h2 := HIP3.out g e; have := HM7.out; have := HM8.out; omega))
    have HOC5_14 : Hid ((w14).ownsRow w.heap.size 9 1 (.slice oC5 n1 pC5) n1 (cs.map Value.string)) := owns_same HOC5_13.out (fun g hg => far g (owns_lt HOC5_13.out hg) (fun e => by have h1 := LOC5.out g hg; have h2 := HIC3.out g e; have := HM7.out; have := HM8.out; have := HM9.out; have := HM10.out; have := HM11.out; have := HM12.out; omega) (own_type_ne HOC5_13.out HOP3_13.out (by decide) g hg))
    have HOP5_14 : Hid ((w14).ownsRow w.heap.size 67 2 (.slice oP5 n2 pP5) n2 (flatWrite ws)) := owns_same HOP5_13.out (fun g hg => far g (owns_lt HOP5_13.out hg) (own_type_ne HOP5_13.out HOC3_13.out (by decide) g hg) (fun e => by have h1 := LOP5.out g hg; have h2 := HIP3.out g e; have := HM7.out; have := HM8.out; have := HM9.out; have := HM10.out; have := HM11.out; have := HM12.out; omega))
    have HBv1_14 : Hid ((w14).heap[qv1]? = some (.cells #[.slice a1 n1 c1, .slice a2 n2 c2] 46)) := (far _ (Array.getElem?_eq_some_iff.1 HBv1_13.out).1 (fun e => own_ne HOC3_13.out HBv1_13.out (by decide) _ e rfl) (fun e => own_ne HOP3_13.out HBv1_13.out (by decide) _ e rfl)).trans HBv1_13.out
    have HBv2_14 : Hid ((w14).heap[qv2]? = some (.cells #[.slice oX2 oc.length pX2, .slice oY2 ow.length pY2] 27)) := (far _ (Array.getElem?_eq_some_iff.1 HBv2_13.out).1 (fun e => own_ne HOC3_13.out HBv2_13.out (by decide) _ e rfl) (fun e => own_ne HOP3_13.out HBv2_13.out (by decide) _ e rfl)).trans HBv2_13.out
    have HBv3_14 : Hid ((w14).heap[qv3]? = some (.cells #[.slice oC3 n1 pC3, .slice oP3 n2 pP3] 27)) := (far _ (Array.getElem?_eq_some_iff.1 HBv3_13.out).1 (fun e => own_ne HOC3_13.out HBv3_13.out (by decide) _ e rfl) (fun e => own_ne HOP3_13.out HBv3_13.out (by decide) _ e rfl)).trans HBv3_13.out
    have HBv4_14 : Hid ((w14).heap[qv4]? = some (.cells #[.slice oX4 oc.length pX4, .slice oY4 ow.length pY4] 27)) := (far _ (Array.getElem?_eq_some_iff.1 HBv4_13.out).1 (fun e => own_ne HOC3_13.out HBv4_13.out (by decide) _ e rfl) (fun e => own_ne HOP3_13.out HBv4_13.out (by decide) _ e rfl)).trans HBv4_13.out
    have HOC3_14 : Hid ((w14).ownsRow w.heap.size 9 1 (.slice oC3 n1 pC3) n1 ((mkT 1 cs n1).map Value.string)) := mk0
    have HOP3_14 : Hid ((w14).ownsRow w.heap.size 67 2 (.slice oP3 n2 pP3) n2 (flatWrite (mkWrite (1 + n1) ws n2))) := mk1
    clear hb13 HOC1_13 HOP1_13 HOX2_13 HOY2_13 HOC3_13 HOP3_13 HOX4_13 HOY4_13 HOC5_13 HOP5_13 HBv1_13 HBv2_13 HBv3_13 HBv4_13 mk0 mk1 bm far
    have hkm6 : ¬ (((1 + n1 + 2 * n2 : Nat) : Int) < 0) := by omega
    clear cv3_0 cv3_1
    have cv2_0 : (w14).cell? ⟨qv2, 0, none⟩ = some (.slice oX2 oc.length pX2) := (cell_of HBv2_14.out 0).trans rfl
    have cv2_1 : (w14).cell? ⟨qv2, 1, none⟩ = some (.slice oY2 ow.length pY2) := (cell_of HBv2_14.out 1).trans rfl
    have cv4_0 : (w14).cell? ⟨qv4, 0, none⟩ = some (.slice oX4 oc.length pX4) := (cell_of HBv4_14.out 0).trans rfl
    have cv4_1 : (w14).cell? ⟨qv4, 1, none⟩ = some (.slice oY4 ow.length pY4) := (cell_of HBv4_14.out 1).trans rfl
    go_wp2_with fail
    refine (eqDisk_any oc.length oc ow.length ow _ _ _ _ _ _ _ ⟨HOX4_14.out, HOY4_14.out⟩ ⟨HOX2_14.out, HOY2_14.out⟩ (by have := HLV.out; omega) (by have := HLV.out; omega)).mono ?_
    rintro e w15 ⟨rfl, bw⟩
    have hb15 : Below w.heap.size w (w15) := hb14.trans (bw.mono hb14.size)
    have HM15 : Hid ((w14).heap.size ≤ (w15).heap.size) := bw.size
    have HOC1_15 : Hid ((w15).ownsRow w.heap.size 9 1 (.slice oC1 n1 pC1) n1 (cs.map Value.string)) := owns_below HOC1_14.out bw (fun g hg => owns_lt HOC1_14.out hg)
    have HOP1_15 : Hid ((w15).ownsRow w.heap.size 67 2 (.slice oP1 n2 pP1) n2 (flatWrite ws)) := owns_below HOP1_14.out bw (fun g hg => owns_lt HOP1_14.out hg)
    have HOX2_15 : Hid ((w15).ownsRow w.heap.size 9 1 (.slice oX2 oc.length pX2) oc.length (oc.map Value.string)) := owns_below HOX2_14.out bw (fun g hg => owns_lt HOX2_14.out hg)
    have HOY2_15 : Hid ((w15).ownsRow w.heap.size 67 2 (.slice oY2 ow.length pY2) ow.length (flatWrite ow)) := owns_below HOY2_14.out bw (fun g hg => owns_lt HOY2_14.out hg)
    have HOC3_15 : Hid ((w15).ownsRow w.heap.size 9 1 (.slice oC3 n1 pC3) n1 ((mkT 1 cs n1).map Value.string)) := owns_below HOC3_14.out bw (fun g hg => owns_lt HOC3_14.out hg)
    have HOP3_15 : Hid ((w15).ownsRow w.heap.size 67 2 (.slice oP3 n2 pP3) n2 (flatWrite (mkWrite (1 + n1) ws n2))) := owns_below HOP3_14.out bw (fun g hg => owns_lt HOP3_14.out hg)
    have HOX4_15 : Hid ((w15).ownsRow w.heap.size 9 1 (.slice oX4 oc.length pX4) oc.length (oc.map Value.string)) := owns_below HOX4_14.out bw (fun g hg => owns_lt HOX4_14.out hg)
    have HOY4_15 : Hid ((w15).ownsRow w.heap.size 67 2 (.slice oY4 ow.length pY4) ow.length (flatWrite ow)) := owns_below HOY4_14.out bw (fun g hg => owns_lt HOY4_14.out hg)
    have HOC5_15 : Hid ((w15).ownsRow w.heap.size 9 1 (.slice oC5 n1 pC5) n1 (cs.map Value.string)) := owns_below HOC5_14.out bw (fun g hg => owns_lt HOC5_14.out hg)
    have HOP5_15 : Hid ((w15).ownsRow w.heap.size 67 2 (.slice oP5 n2 pP5) n2 (flatWrite ws)) := owns_below HOP5_14.out bw (fun g hg => owns_lt HOP5_14.out hg)
    have HBv1_15 : Hid ((w15).heap[qv1]? = some (.cells #[.slice a1 n1 c1, .slice a2 n2 c2] 46)) := blk_below HBv1_14.out bw
    have HBv2_15 : Hid ((w15).heap[qv2]? = some (.cells #[.slice oX2 oc.length pX2, .slice oY2 ow.length pY2] 27)) := blk_below HBv2_14.out bw
    have HBv3_15 : Hid ((w15).heap[qv3]? = some (.cells #[.slice oC3 n1 pC3, .slice oP3 n2 pP3] 27)) := blk_below HBv3_14.out bw
    have HBv4_15 : Hid ((w15).heap[qv4]? = some (.cells #[.slice oX4 oc.length pX4, .slice oY4 ow.length pY4] 27)) := blk_below HBv4_14.out bw
    clear hb14 HOC1_14 HOP1_14 HOX2_14 HOY2_14 HOC3_14 HOP3_14 HOX4_14 HOY4_14 HOC5_14 HOP5_14 HBv1_14 HBv2_14 HBv3_14 HBv4_14 bw
    clear cv2_0 cv2_1 cv4_0 cv4_1
    have cv4_0 : (w15).cell? ⟨qv4, 0, none⟩ = some (.slice oX4 oc.length pX4) := (cell_of HBv4_15.out 0).trans rfl
    have cv4_1 : (w15).cell? ⟨qv4, 1, none⟩ = some (.slice oY4 ow.length pY4) := (cell_of HBv4_15.out 1).trans rfl
    go_wp2_with fail
    refine (markDisk_any oc.length oc ow.length ow _ _ _ _ ⟨HOX4_15.out, HOY4_15.out⟩ hb15.size 1 (by omega) (by have := HLV.out; omega)).mono ?_
    rintro e w16 ⟨rfl, ⟨mk0, mk1⟩, bm, far⟩
    have hb16 : Below w.heap.size w w16 := hb15.trans bm
    have HM16 : Hid ((w15).heap.size ≤ w16.heap.size) := bm.size
    have HOC1_16 : Hid ((w16).ownsRow w.heap.size 9 1 (.slice oC1 n1 pC1) n1 (cs.map Value.string)) := owns_same HOC1_15.out (fun g hg => far g (owns_lt HOC1_15.out hg) (fun e => by have h1 := LOX4.out g e; have h2 := HIC1.out g hg; have := HM4.out; have := HM5.out; have := HM6.out; have := HM7.out; have := HM8.out; omega) (own_type_ne HOC1_15.out HOY4_15.out (by decide) g hg))
    have HOP1_16 : Hid ((w16).ownsRow w.heap.size 67 2 (.slice oP1 n2 pP1) n2 (flatWrite ws)) := owns_same HOP1_15.out (fun g hg => far g (owns_lt HOP1_15.out hg) (own_type_ne HOP1_15.out HOX4_15.out (by decide) g hg) (fun e => by have h1 := LOY4.out g e; have h2 := HIP1.out g hg; have := HM4.out; have := HM5.out; have := HM6.out; have := HM7.out; have := HM8.out; omega))
    have HOX2_16 : Hid ((w16).ownsRow w.heap.size 9 1 (.slice oX2 oc.length pX2) oc.length (oc.map Value.string)) := owns_same HOX2_15.out (fun g hg => far g (owns_lt HOX2_15.out hg) (fun e => by have h1 := LOX4.out g e; have h2 := HIX2.out g hg; have := HM5.out; have := HM6.out; have := HM7.out; have := HM8.out; omega) (own_type_ne HOX2_15.out HOY4_15.out (by decide) g hg))
    have HOY2_16 : Hid ((w16).ownsRow w.heap.size 67 2 (.slice oY2 ow.length pY2) ow.length (flatWrite ow)) := owns_same HOY2_15.out (fun g hg => far g (owns_lt HOY2_15.out hg) (own_type_ne HOY2_15.out HOX4_15.out (by decide) g hg) (fun e => by have h1 := LOY4.out g e; have h2 := HIY2.out g hg; have := HM5.out; have := HM6.out; have := HM7.out; have := HM8.out; omega))
    have HOC3_16 : Hid ((w16).ownsRow w.heap.size 9 1 (.slice oC3 n1 pC3) n1 ((mkT 1 cs n1).map Value.string)) := owns_same HOC3_15.out (fun g hg => far g (owns_lt HOC3_15.out hg) (fun e => by have h1 := LOX4.out g e; have h2 := HIC3.out g hg; have := HM7.out; have := HM8.out; omega) (own_type_ne HOC3_15.out HOY4_15.out (by decide) g hg))
    have HOP3_16 : Hid ((w16).ownsRow w.heap.size 67 2 (.slice oP3 n2 pP3) n2 (flatWrite (mkWrite (1 + n1) ws n2))) := owns_same HOP3_15.out (fun g hg => far g (owns_lt HOP3_15.out hg) (own_type_ne HOP3_15.out HOX4_15.out (by decide) g hg) (fun e => by have h1 := LOY4.out g e; have h2 := HIP3.out g hg; have := HM7.out; have := HM8.out; omega))
    have HOC5_16 : Hid ((w16).ownsRow w.heap.size 9 1 (.slice oC5 n1 pC5) n1 (cs.map Value.string)) := owns_same HOC5_15.out (fun g hg => far g (owns_lt HOC5_15.out hg) (fun e => by have h1 := LOC5.out g hg; have h2 := HIX4.out g e; have := HM9.out; have := HM10.out; have := HM11.out; have := HM12.out; omega) (own_type_ne HOC5_15.out HOY4_15.out (by decide) g hg))
    have HOP5_16 : Hid ((w16).ownsRow w.heap.size 67 2 (.slice oP5 n2 pP5) n2 (flatWrite ws)) := owns_same HOP5_15.out (fun g hg => far g (owns_lt HOP5_15.out hg) (own_type_ne HOP5_15.out HOX4_15.out (by decide) g hg) (fun e => by have h1 := LOP5.out g hg; have h2 := HIY4.out g e; have := HM9.out; have := HM10.out; have := HM11.out; have := HM12.out; omega))
    have HBv1_16 : Hid ((w16).heap[qv1]? = some (.cells #[.slice a1 n1 c1, .slice a2 n2 c2] 46)) := (far _ (Array.getElem?_eq_some_iff.1 HBv1_15.out).1 (fun e => own_ne HOX4_15.out HBv1_15.out (by decide) _ e rfl) (fun e => own_ne HOY4_15.out HBv1_15.out (by decide) _ e rfl)).trans HBv1_15.out
    have HBv2_16 : Hid ((w16).heap[qv2]? = some (.cells #[.slice oX2 oc.length pX2, .slice oY2 ow.length pY2] 27)) := (far _ (Array.getElem?_eq_some_iff.1 HBv2_15.out).1 (fun e => own_ne HOX4_15.out HBv2_15.out (by decide) _ e rfl) (fun e => own_ne HOY4_15.out HBv2_15.out (by decide) _ e rfl)).trans HBv2_15.out
    have HBv3_16 : Hid ((w16).heap[qv3]? = some (.cells #[.slice oC3 n1 pC3, .slice oP3 n2 pP3] 27)) := (far _ (Array.getElem?_eq_some_iff.1 HBv3_15.out).1 (fun e => own_ne HOX4_15.out HBv3_15.out (by decide) _ e rfl) (fun e => own_ne HOY4_15.out HBv3_15.out (by decide) _ e rfl)).trans HBv3_15.out
    have HBv4_16 : Hid ((w16).heap[qv4]? = some (.cells #[.slice oX4 oc.length pX4, .slice oY4 ow.length pY4] 27)) := (far _ (Array.getElem?_eq_some_iff.1 HBv4_15.out).1 (fun e => own_ne HOX4_15.out HBv4_15.out (by decide) _ e rfl) (fun e => own_ne HOY4_15.out HBv4_15.out (by decide) _ e rfl)).trans HBv4_15.out
    have HOX4_16 : Hid ((w16).ownsRow w.heap.size 9 1 (.slice oX4 oc.length pX4) oc.length ((mkT 1 oc oc.length).map Value.string)) := mk0
    have HOY4_16 : Hid ((w16).ownsRow w.heap.size 67 2 (.slice oY4 ow.length pY4) ow.length (flatWrite (mkWrite (1 + oc.length) ow ow.length))) := mk1
    clear hb15 HOC1_15 HOP1_15 HOX2_15 HOY2_15 HOC3_15 HOP3_15 HOX4_15 HOY4_15 HOC5_15 HOP5_15 HBv1_15 HBv2_15 HBv3_15 HBv4_15 mk0 mk1 bm far
    have hkm7 : ¬ (((1 + oc.length + 2 * ow.length : Nat) : Int) < 0) := by omega
    clear cv4_0 cv4_1
    have cv4_0 : (w16).cell? ⟨qv4, 0, none⟩ = some (.slice oX4 oc.length pX4) := (cell_of HBv4_16.out 0).trans rfl
    have cv4_1 : (w16).cell? ⟨qv4, 1, none⟩ = some (.slice oY4 ow.length pY4) := (cell_of HBv4_16.out 1).trans rfl
    go_wp2_with fail
    refine (heldDisk_any oc.length (mkT 1 oc oc.length) ow.length (mkWrite (1 + oc.length) ow ow.length) _ _ _ _ ⟨HOX4_16.out, HOY4_16.out⟩ 1 (by omega) (by have := HLV.out; omega) (fun j hj => mkT_at 1 oc j hj _ hj) (fun j hj => by have e := mkWrite_at (1 + oc.length) ow j ow.length (Nat.le_refl _) hj; rw [e]; exact ⟨rfl, rfl⟩)).mono ?_
    rintro e w17 ⟨rfl, bw⟩
    have hb17 : Below w.heap.size w (w17) := hb16.trans (bw.mono hb16.size)
    have HM17 : Hid ((w16).heap.size ≤ (w17).heap.size) := bw.size
    have HOC1_17 : Hid ((w17).ownsRow w.heap.size 9 1 (.slice oC1 n1 pC1) n1 (cs.map Value.string)) := owns_below HOC1_16.out bw (fun g hg => owns_lt HOC1_16.out hg)
    have HOP1_17 : Hid ((w17).ownsRow w.heap.size 67 2 (.slice oP1 n2 pP1) n2 (flatWrite ws)) := owns_below HOP1_16.out bw (fun g hg => owns_lt HOP1_16.out hg)
    have HOX2_17 : Hid ((w17).ownsRow w.heap.size 9 1 (.slice oX2 oc.length pX2) oc.length (oc.map Value.string)) := owns_below HOX2_16.out bw (fun g hg => owns_lt HOX2_16.out hg)
    have HOY2_17 : Hid ((w17).ownsRow w.heap.size 67 2 (.slice oY2 ow.length pY2) ow.length (flatWrite ow)) := owns_below HOY2_16.out bw (fun g hg => owns_lt HOY2_16.out hg)
    have HOC3_17 : Hid ((w17).ownsRow w.heap.size 9 1 (.slice oC3 n1 pC3) n1 ((mkT 1 cs n1).map Value.string)) := owns_below HOC3_16.out bw (fun g hg => owns_lt HOC3_16.out hg)
    have HOP3_17 : Hid ((w17).ownsRow w.heap.size 67 2 (.slice oP3 n2 pP3) n2 (flatWrite (mkWrite (1 + n1) ws n2))) := owns_below HOP3_16.out bw (fun g hg => owns_lt HOP3_16.out hg)
    have HOX4_17 : Hid ((w17).ownsRow w.heap.size 9 1 (.slice oX4 oc.length pX4) oc.length ((mkT 1 oc oc.length).map Value.string)) := owns_below HOX4_16.out bw (fun g hg => owns_lt HOX4_16.out hg)
    have HOY4_17 : Hid ((w17).ownsRow w.heap.size 67 2 (.slice oY4 ow.length pY4) ow.length (flatWrite (mkWrite (1 + oc.length) ow ow.length))) := owns_below HOY4_16.out bw (fun g hg => owns_lt HOY4_16.out hg)
    have HOC5_17 : Hid ((w17).ownsRow w.heap.size 9 1 (.slice oC5 n1 pC5) n1 (cs.map Value.string)) := owns_below HOC5_16.out bw (fun g hg => owns_lt HOC5_16.out hg)
    have HOP5_17 : Hid ((w17).ownsRow w.heap.size 67 2 (.slice oP5 n2 pP5) n2 (flatWrite ws)) := owns_below HOP5_16.out bw (fun g hg => owns_lt HOP5_16.out hg)
    have HBv1_17 : Hid ((w17).heap[qv1]? = some (.cells #[.slice a1 n1 c1, .slice a2 n2 c2] 46)) := blk_below HBv1_16.out bw
    have HBv2_17 : Hid ((w17).heap[qv2]? = some (.cells #[.slice oX2 oc.length pX2, .slice oY2 ow.length pY2] 27)) := blk_below HBv2_16.out bw
    have HBv3_17 : Hid ((w17).heap[qv3]? = some (.cells #[.slice oC3 n1 pC3, .slice oP3 n2 pP3] 27)) := blk_below HBv3_16.out bw
    have HBv4_17 : Hid ((w17).heap[qv4]? = some (.cells #[.slice oX4 oc.length pX4, .slice oY4 ow.length pY4] 27)) := blk_below HBv4_16.out bw
    clear hb16 HOC1_16 HOP1_16 HOX2_16 HOY2_16 HOC3_16 HOP3_16 HOX4_16 HOY4_16 HOC5_16 HOP5_16 HBv1_16 HBv2_16 HBv3_16 HBv4_16 bw
    have hkh8 : ¬ (((1 + oc.length + 2 * ow.length : Nat) : Int) < 0) := by omega
    clear cv4_0 cv4_1
    have cv1_0 : (w17).cell? ⟨qv1, 0, none⟩ = some (.slice a1 n1 c1) := (cell_of HBv1_17.out 0).trans rfl
    have cv1_1 : (w17).cell? ⟨qv1, 1, none⟩ = some (.slice a2 n2 c2) := (cell_of HBv1_17.out 1).trans rfl
    go_wp2_with fail
    refine (toDisk_any a1 n1 c1 cs a2 n2 c2 ws w.heap.size _ (HA1.out _ hb17) (HA2.out _ hb17) hb17.size hm1 hm2).mono ?_
    rintro e w18 ⟨vv1, vv2, rfl, ⟨ownC9, ownP9⟩, bw⟩
    obtain ⟨oC9, pC9, rfl⟩ := slice_of_owns ownC9
    obtain ⟨oP9, pP9, rfl⟩ := slice_of_owns ownP9
    have hb18 : Below w.heap.size w (w18) := hb17.trans (bw.mono hb17.size)
    have HM18 : Hid ((w17).heap.size ≤ (w18).heap.size) := bw.size
    have HOC1_18 : Hid ((w18).ownsRow w.heap.size 9 1 (.slice oC1 n1 pC1) n1 (cs.map Value.string)) := owns_below HOC1_17.out bw (fun g hg => owns_lt HOC1_17.out hg)
    have HOP1_18 : Hid ((w18).ownsRow w.heap.size 67 2 (.slice oP1 n2 pP1) n2 (flatWrite ws)) := owns_below HOP1_17.out bw (fun g hg => owns_lt HOP1_17.out hg)
    have HOX2_18 : Hid ((w18).ownsRow w.heap.size 9 1 (.slice oX2 oc.length pX2) oc.length (oc.map Value.string)) := owns_below HOX2_17.out bw (fun g hg => owns_lt HOX2_17.out hg)
    have HOY2_18 : Hid ((w18).ownsRow w.heap.size 67 2 (.slice oY2 ow.length pY2) ow.length (flatWrite ow)) := owns_below HOY2_17.out bw (fun g hg => owns_lt HOY2_17.out hg)
    have HOC3_18 : Hid ((w18).ownsRow w.heap.size 9 1 (.slice oC3 n1 pC3) n1 ((mkT 1 cs n1).map Value.string)) := owns_below HOC3_17.out bw (fun g hg => owns_lt HOC3_17.out hg)
    have HOP3_18 : Hid ((w18).ownsRow w.heap.size 67 2 (.slice oP3 n2 pP3) n2 (flatWrite (mkWrite (1 + n1) ws n2))) := owns_below HOP3_17.out bw (fun g hg => owns_lt HOP3_17.out hg)
    have HOX4_18 : Hid ((w18).ownsRow w.heap.size 9 1 (.slice oX4 oc.length pX4) oc.length ((mkT 1 oc oc.length).map Value.string)) := owns_below HOX4_17.out bw (fun g hg => owns_lt HOX4_17.out hg)
    have HOY4_18 : Hid ((w18).ownsRow w.heap.size 67 2 (.slice oY4 ow.length pY4) ow.length (flatWrite (mkWrite (1 + oc.length) ow ow.length))) := owns_below HOY4_17.out bw (fun g hg => owns_lt HOY4_17.out hg)
    have HOC5_18 : Hid ((w18).ownsRow w.heap.size 9 1 (.slice oC5 n1 pC5) n1 (cs.map Value.string)) := owns_below HOC5_17.out bw (fun g hg => owns_lt HOC5_17.out hg)
    have HOP5_18 : Hid ((w18).ownsRow w.heap.size 67 2 (.slice oP5 n2 pP5) n2 (flatWrite ws)) := owns_below HOP5_17.out bw (fun g hg => owns_lt HOP5_17.out hg)
    have HBv1_18 : Hid ((w18).heap[qv1]? = some (.cells #[.slice a1 n1 c1, .slice a2 n2 c2] 46)) := blk_below HBv1_17.out bw
    have HBv2_18 : Hid ((w18).heap[qv2]? = some (.cells #[.slice oX2 oc.length pX2, .slice oY2 ow.length pY2] 27)) := blk_below HBv2_17.out bw
    have HBv3_18 : Hid ((w18).heap[qv3]? = some (.cells #[.slice oC3 n1 pC3, .slice oP3 n2 pP3] 27)) := blk_below HBv3_17.out bw
    have HBv4_18 : Hid ((w18).heap[qv4]? = some (.cells #[.slice oX4 oc.length pX4, .slice oY4 ow.length pY4] 27)) := blk_below HBv4_17.out bw
    have HOC9_18 : Hid ((w18).ownsRow w.heap.size 9 1 (.slice oC9 n1 pC9) n1 (cs.map Value.string)) := owns_wide ownC9 hb17.size
    have LOC9 : Hid (∀ g, (Value.ownBlock (.slice oC9 n1 pC9)) = some g → (w17).heap.size ≤ g) := fun g hg => owns_ge ownC9 hg
    have HIC9 : Hid (∀ g, (Value.ownBlock (.slice oC9 n1 pC9)) = some g → g < (w18).heap.size) := fun g hg => owns_lt ownC9 hg
    clear ownC9
    have HOP9_18 : Hid ((w18).ownsRow w.heap.size 67 2 (.slice oP9 n2 pP9) n2 (flatWrite ws)) := owns_wide ownP9 hb17.size
    have LOP9 : Hid (∀ g, (Value.ownBlock (.slice oP9 n2 pP9)) = some g → (w17).heap.size ≤ g) := fun g hg => owns_ge ownP9 hg
    have HIP9 : Hid (∀ g, (Value.ownBlock (.slice oP9 n2 pP9)) = some g → g < (w18).heap.size) := fun g hg => owns_lt ownP9 hg
    clear ownP9
    clear hb17 HOC1_17 HOP1_17 HOX2_17 HOY2_17 HOC3_17 HOP3_17 HOX4_17 HOY4_17 HOC5_17 HOP5_17 HBv1_17 HBv2_17 HBv3_17 HBv4_17 bw
    clear cv1_0 cv1_1
    go_wp2_with fail
    refine (HIM.out _ hb18 _ _ _ ⟨HOC9_18.out, HOP9_18.out⟩).mono ?_
    rintro e w19 ⟨vv1, vv2, rfl, ⟨ownX10, ownY10⟩, bw⟩
    obtain ⟨oX10, pX10, rfl⟩ := slice_of_owns ownX10
    obtain ⟨oY10, pY10, rfl⟩ := slice_of_owns ownY10
    have hb19 : Below w.heap.size w (w19) := hb18.trans (bw.mono hb18.size)
    have HM19 : Hid ((w18).heap.size ≤ (w19).heap.size) := bw.size
    have HOC1_19 : Hid ((w19).ownsRow w.heap.size 9 1 (.slice oC1 n1 pC1) n1 (cs.map Value.string)) := owns_below HOC1_18.out bw (fun g hg => owns_lt HOC1_18.out hg)
    have HOP1_19 : Hid ((w19).ownsRow w.heap.size 67 2 (.slice oP1 n2 pP1) n2 (flatWrite ws)) := owns_below HOP1_18.out bw (fun g hg => owns_lt HOP1_18.out hg)
    have HOX2_19 : Hid ((w19).ownsRow w.heap.size 9 1 (.slice oX2 oc.length pX2) oc.length (oc.map Value.string)) := owns_below HOX2_18.out bw (fun g hg => owns_lt HOX2_18.out hg)
    have HOY2_19 : Hid ((w19).ownsRow w.heap.size 67 2 (.slice oY2 ow.length pY2) ow.length (flatWrite ow)) := owns_below HOY2_18.out bw (fun g hg => owns_lt HOY2_18.out hg)
    have HOC3_19 : Hid ((w19).ownsRow w.heap.size 9 1 (.slice oC3 n1 pC3) n1 ((mkT 1 cs n1).map Value.string)) := owns_below HOC3_18.out bw (fun g hg => owns_lt HOC3_18.out hg)
    have HOP3_19 : Hid ((w19).ownsRow w.heap.size 67 2 (.slice oP3 n2 pP3) n2 (flatWrite (mkWrite (1 + n1) ws n2))) := owns_below HOP3_18.out bw (fun g hg => owns_lt HOP3_18.out hg)
    have HOX4_19 : Hid ((w19).ownsRow w.heap.size 9 1 (.slice oX4 oc.length pX4) oc.length ((mkT 1 oc oc.length).map Value.string)) := owns_below HOX4_18.out bw (fun g hg => owns_lt HOX4_18.out hg)
    have HOY4_19 : Hid ((w19).ownsRow w.heap.size 67 2 (.slice oY4 ow.length pY4) ow.length (flatWrite (mkWrite (1 + oc.length) ow ow.length))) := owns_below HOY4_18.out bw (fun g hg => owns_lt HOY4_18.out hg)
    have HOC5_19 : Hid ((w19).ownsRow w.heap.size 9 1 (.slice oC5 n1 pC5) n1 (cs.map Value.string)) := owns_below HOC5_18.out bw (fun g hg => owns_lt HOC5_18.out hg)
    have HOP5_19 : Hid ((w19).ownsRow w.heap.size 67 2 (.slice oP5 n2 pP5) n2 (flatWrite ws)) := owns_below HOP5_18.out bw (fun g hg => owns_lt HOP5_18.out hg)
    have HOC9_19 : Hid ((w19).ownsRow w.heap.size 9 1 (.slice oC9 n1 pC9) n1 (cs.map Value.string)) := owns_below HOC9_18.out bw (fun g hg => owns_lt HOC9_18.out hg)
    have HOP9_19 : Hid ((w19).ownsRow w.heap.size 67 2 (.slice oP9 n2 pP9) n2 (flatWrite ws)) := owns_below HOP9_18.out bw (fun g hg => owns_lt HOP9_18.out hg)
    have HBv1_19 : Hid ((w19).heap[qv1]? = some (.cells #[.slice a1 n1 c1, .slice a2 n2 c2] 46)) := blk_below HBv1_18.out bw
    have HBv2_19 : Hid ((w19).heap[qv2]? = some (.cells #[.slice oX2 oc.length pX2, .slice oY2 ow.length pY2] 27)) := blk_below HBv2_18.out bw
    have HBv3_19 : Hid ((w19).heap[qv3]? = some (.cells #[.slice oC3 n1 pC3, .slice oP3 n2 pP3] 27)) := blk_below HBv3_18.out bw
    have HBv4_19 : Hid ((w19).heap[qv4]? = some (.cells #[.slice oX4 oc.length pX4, .slice oY4 ow.length pY4] 27)) := blk_below HBv4_18.out bw
    have HOX10_19 : Hid ((w19).ownsRow w.heap.size 9 1 (.slice oX10 oc.length pX10) oc.length (oc.map Value.string)) := owns_wide ownX10 hb18.size
    have LOX10 : Hid (∀ g, (Value.ownBlock (.slice oX10 oc.length pX10)) = some g → (w18).heap.size ≤ g) := fun g hg => owns_ge ownX10 hg
    have HIX10 : Hid (∀ g, (Value.ownBlock (.slice oX10 oc.length pX10)) = some g → g < (w19).heap.size) := fun g hg => owns_lt ownX10 hg
    clear ownX10
    have HOY10_19 : Hid ((w19).ownsRow w.heap.size 67 2 (.slice oY10 ow.length pY10) ow.length (flatWrite ow)) := owns_wide ownY10 hb18.size
    have LOY10 : Hid (∀ g, (Value.ownBlock (.slice oY10 ow.length pY10)) = some g → (w18).heap.size ≤ g) := fun g hg => owns_ge ownY10 hg
    have HIY10 : Hid (∀ g, (Value.ownBlock (.slice oY10 ow.length pY10)) = some g → g < (w19).heap.size) := fun g hg => owns_lt ownY10 hg
    clear ownY10
    clear hb18 HOC1_18 HOP1_18 HOX2_18 HOY2_18 HOC3_18 HOP3_18 HOX4_18 HOY4_18 HOC5_18 HOP5_18 HOC9_18 HOP9_18 HBv1_18 HBv2_18 HBv3_18 HBv4_18 bw
    go_upto_region 25 with fail
    obtain ⟨qv5, hqv5⟩ : ∃ q, q = (w19).heap.size := ⟨_, rfl⟩
    obtain ⟨w20, hW20⟩ : ∃ W, W = (w19).alloc (.cells #[.slice oX10 oc.length pX10, .slice oY10 ow.length pY10] 27) := ⟨_, rfl⟩
    have hz20 : (w19).heap.size = qv5 := hqv5.symm
    first | rw [← hW20, ← hqv5] | rw [← hW20]
    have hs20 : w20.heap.size = qv5 + 1 := by rw [hW20, ← hz20]; simp
    have bw : Below (w19).heap.size (w19) w20 := by rw [hW20]; exact (Below.refl _ _).alloc (Nat.le_refl _) _
    have hb20 : Below w.heap.size w (w20) := hb19.trans (bw.mono hb19.size)
    have HM20 : Hid ((w19).heap.size ≤ (w20).heap.size) := bw.size
    have HOC1_20 : Hid ((w20).ownsRow w.heap.size 9 1 (.slice oC1 n1 pC1) n1 (cs.map Value.string)) := owns_below HOC1_19.out bw (fun g hg => owns_lt HOC1_19.out hg)
    have HOP1_20 : Hid ((w20).ownsRow w.heap.size 67 2 (.slice oP1 n2 pP1) n2 (flatWrite ws)) := owns_below HOP1_19.out bw (fun g hg => owns_lt HOP1_19.out hg)
    have HOX2_20 : Hid ((w20).ownsRow w.heap.size 9 1 (.slice oX2 oc.length pX2) oc.length (oc.map Value.string)) := owns_below HOX2_19.out bw (fun g hg => owns_lt HOX2_19.out hg)
    have HOY2_20 : Hid ((w20).ownsRow w.heap.size 67 2 (.slice oY2 ow.length pY2) ow.length (flatWrite ow)) := owns_below HOY2_19.out bw (fun g hg => owns_lt HOY2_19.out hg)
    have HOC3_20 : Hid ((w20).ownsRow w.heap.size 9 1 (.slice oC3 n1 pC3) n1 ((mkT 1 cs n1).map Value.string)) := owns_below HOC3_19.out bw (fun g hg => owns_lt HOC3_19.out hg)
    have HOP3_20 : Hid ((w20).ownsRow w.heap.size 67 2 (.slice oP3 n2 pP3) n2 (flatWrite (mkWrite (1 + n1) ws n2))) := owns_below HOP3_19.out bw (fun g hg => owns_lt HOP3_19.out hg)
    have HOX4_20 : Hid ((w20).ownsRow w.heap.size 9 1 (.slice oX4 oc.length pX4) oc.length ((mkT 1 oc oc.length).map Value.string)) := owns_below HOX4_19.out bw (fun g hg => owns_lt HOX4_19.out hg)
    have HOY4_20 : Hid ((w20).ownsRow w.heap.size 67 2 (.slice oY4 ow.length pY4) ow.length (flatWrite (mkWrite (1 + oc.length) ow ow.length))) := owns_below HOY4_19.out bw (fun g hg => owns_lt HOY4_19.out hg)
    have HOC5_20 : Hid ((w20).ownsRow w.heap.size 9 1 (.slice oC5 n1 pC5) n1 (cs.map Value.string)) := owns_below HOC5_19.out bw (fun g hg => owns_lt HOC5_19.out hg)
    have HOP5_20 : Hid ((w20).ownsRow w.heap.size 67 2 (.slice oP5 n2 pP5) n2 (flatWrite ws)) := owns_below HOP5_19.out bw (fun g hg => owns_lt HOP5_19.out hg)
    have HOC9_20 : Hid ((w20).ownsRow w.heap.size 9 1 (.slice oC9 n1 pC9) n1 (cs.map Value.string)) := owns_below HOC9_19.out bw (fun g hg => owns_lt HOC9_19.out hg)
    have HOP9_20 : Hid ((w20).ownsRow w.heap.size 67 2 (.slice oP9 n2 pP9) n2 (flatWrite ws)) := owns_below HOP9_19.out bw (fun g hg => owns_lt HOP9_19.out hg)
    have HOX10_20 : Hid ((w20).ownsRow w.heap.size 9 1 (.slice oX10 oc.length pX10) oc.length (oc.map Value.string)) := owns_below HOX10_19.out bw (fun g hg => owns_lt HOX10_19.out hg)
    have HOY10_20 : Hid ((w20).ownsRow w.heap.size 67 2 (.slice oY10 ow.length pY10) ow.length (flatWrite ow)) := owns_below HOY10_19.out bw (fun g hg => owns_lt HOY10_19.out hg)
    have HBv1_20 : Hid ((w20).heap[qv1]? = some (.cells #[.slice a1 n1 c1, .slice a2 n2 c2] 46)) := blk_below HBv1_19.out bw
    have HBv2_20 : Hid ((w20).heap[qv2]? = some (.cells #[.slice oX2 oc.length pX2, .slice oY2 ow.length pY2] 27)) := blk_below HBv2_19.out bw
    have HBv3_20 : Hid ((w20).heap[qv3]? = some (.cells #[.slice oC3 n1 pC3, .slice oP3 n2 pP3] 27)) := blk_below HBv3_19.out bw
    have HBv4_20 : Hid ((w20).heap[qv4]? = some (.cells #[.slice oX4 oc.length pX4, .slice oY4 ow.length pY4] 27)) := blk_below HBv4_19.out bw
    have HNv1v5 : Hid (qv1 ≠ qv5) := fun e => by have h1 := (Array.getElem?_eq_some_iff.1 HBv1_19.out).1; omega
    have HNv2v5 : Hid (qv2 ≠ qv5) := fun e => by have h1 := (Array.getElem?_eq_some_iff.1 HBv2_19.out).1; omega
    have HNv3v5 : Hid (qv3 ≠ qv5) := fun e => by have h1 := (Array.getElem?_eq_some_iff.1 HBv3_19.out).1; omega
    have HNv4v5 : Hid (qv4 ≠ qv5) := fun e => by have h1 := (Array.getElem?_eq_some_iff.1 HBv4_19.out).1; omega
    have HBv5_20 : Hid ((w20).heap[qv5]? = some (.cells #[.slice oX10 oc.length pX10, .slice oY10 ow.length pY10] 27)) := by show _ = _; rw [hW20, ← hz20]; exact heap_alloc_new _ _
    have HGv5 : Hid (w.heap.size ≤ qv5) := by show _ ≤ _; rw [← hz20]; exact hb19.size
    clear hb19 HOC1_19 HOP1_19 HOX2_19 HOY2_19 HOC3_19 HOP3_19 HOX4_19 HOY4_19 HOC5_19 HOP5_19 HOC9_19 HOP9_19 HOX10_19 HOY10_19 HBv1_19 HBv2_19 HBv3_19 HBv4_19 bw hW20 hz20
    clear hs20 hqv5
    have cv2_0 : (w20).cell? ⟨qv2, 0, none⟩ = some (.slice oX2 oc.length pX2) := (cell_of HBv2_20.out 0).trans rfl
    have cv2_1 : (w20).cell? ⟨qv2, 1, none⟩ = some (.slice oY2 ow.length pY2) := (cell_of HBv2_20.out 1).trans rfl
    have cv5_0 : (w20).cell? ⟨qv5, 0, none⟩ = some (.slice oX10 oc.length pX10) := (cell_of HBv5_20.out 0).trans rfl
    have cv5_1 : (w20).cell? ⟨qv5, 1, none⟩ = some (.slice oY10 ow.length pY10) := (cell_of HBv5_20.out 1).trans rfl
    go_wp2_with fail
    refine (eqDisk_any oc.length oc ow.length ow _ _ _ _ _ _ _ ⟨HOX10_20.out, HOY10_20.out⟩ ⟨HOX2_20.out, HOY2_20.out⟩ (by have := HLV.out; omega) (by have := HLV.out; omega)).mono ?_
    rintro e w21 ⟨rfl, bw⟩
    have hb21 : Below w.heap.size w (w21) := hb20.trans (bw.mono hb20.size)
    have HM21 : Hid ((w20).heap.size ≤ (w21).heap.size) := bw.size
    have HOC1_21 : Hid ((w21).ownsRow w.heap.size 9 1 (.slice oC1 n1 pC1) n1 (cs.map Value.string)) := owns_below HOC1_20.out bw (fun g hg => owns_lt HOC1_20.out hg)
    have HOP1_21 : Hid ((w21).ownsRow w.heap.size 67 2 (.slice oP1 n2 pP1) n2 (flatWrite ws)) := owns_below HOP1_20.out bw (fun g hg => owns_lt HOP1_20.out hg)
    have HOX2_21 : Hid ((w21).ownsRow w.heap.size 9 1 (.slice oX2 oc.length pX2) oc.length (oc.map Value.string)) := owns_below HOX2_20.out bw (fun g hg => owns_lt HOX2_20.out hg)
    have HOY2_21 : Hid ((w21).ownsRow w.heap.size 67 2 (.slice oY2 ow.length pY2) ow.length (flatWrite ow)) := owns_below HOY2_20.out bw (fun g hg => owns_lt HOY2_20.out hg)
    have HOC3_21 : Hid ((w21).ownsRow w.heap.size 9 1 (.slice oC3 n1 pC3) n1 ((mkT 1 cs n1).map Value.string)) := owns_below HOC3_20.out bw (fun g hg => owns_lt HOC3_20.out hg)
    have HOP3_21 : Hid ((w21).ownsRow w.heap.size 67 2 (.slice oP3 n2 pP3) n2 (flatWrite (mkWrite (1 + n1) ws n2))) := owns_below HOP3_20.out bw (fun g hg => owns_lt HOP3_20.out hg)
    have HOX4_21 : Hid ((w21).ownsRow w.heap.size 9 1 (.slice oX4 oc.length pX4) oc.length ((mkT 1 oc oc.length).map Value.string)) := owns_below HOX4_20.out bw (fun g hg => owns_lt HOX4_20.out hg)
    have HOY4_21 : Hid ((w21).ownsRow w.heap.size 67 2 (.slice oY4 ow.length pY4) ow.length (flatWrite (mkWrite (1 + oc.length) ow ow.length))) := owns_below HOY4_20.out bw (fun g hg => owns_lt HOY4_20.out hg)
    have HOC5_21 : Hid ((w21).ownsRow w.heap.size 9 1 (.slice oC5 n1 pC5) n1 (cs.map Value.string)) := owns_below HOC5_20.out bw (fun g hg => owns_lt HOC5_20.out hg)
    have HOP5_21 : Hid ((w21).ownsRow w.heap.size 67 2 (.slice oP5 n2 pP5) n2 (flatWrite ws)) := owns_below HOP5_20.out bw (fun g hg => owns_lt HOP5_20.out hg)
    have HOC9_21 : Hid ((w21).ownsRow w.heap.size 9 1 (.slice oC9 n1 pC9) n1 (cs.map Value.string)) := owns_below HOC9_20.out bw (fun g hg => owns_lt HOC9_20.out hg)
    have HOP9_21 : Hid ((w21).ownsRow w.heap.size 67 2 (.slice oP9 n2 pP9) n2 (flatWrite ws)) := owns_below HOP9_20.out bw (fun g hg => owns_lt HOP9_20.out hg)
    have HOX10_21 : Hid ((w21).ownsRow w.heap.size 9 1 (.slice oX10 oc.length pX10) oc.length (oc.map Value.string)) := owns_below HOX10_20.out bw (fun g hg => owns_lt HOX10_20.out hg)
    have HOY10_21 : Hid ((w21).ownsRow w.heap.size 67 2 (.slice oY10 ow.length pY10) ow.length (flatWrite ow)) := owns_below HOY10_20.out bw (fun g hg => owns_lt HOY10_20.out hg)
    have HBv1_21 : Hid ((w21).heap[qv1]? = some (.cells #[.slice a1 n1 c1, .slice a2 n2 c2] 46)) := blk_below HBv1_20.out bw
    have HBv2_21 : Hid ((w21).heap[qv2]? = some (.cells #[.slice oX2 oc.length pX2, .slice oY2 ow.length pY2] 27)) := blk_below HBv2_20.out bw
    have HBv3_21 : Hid ((w21).heap[qv3]? = some (.cells #[.slice oC3 n1 pC3, .slice oP3 n2 pP3] 27)) := blk_below HBv3_20.out bw
    have HBv4_21 : Hid ((w21).heap[qv4]? = some (.cells #[.slice oX4 oc.length pX4, .slice oY4 ow.length pY4] 27)) := blk_below HBv4_20.out bw
    have HBv5_21 : Hid ((w21).heap[qv5]? = some (.cells #[.slice oX10 oc.length pX10, .slice oY10 ow.length pY10] 27)) := blk_below HBv5_20.out bw
    clear hb20 HOC1_20 HOP1_20 HOX2_20 HOY2_20 HOC3_20 HOP3_20 HOX4_20 HOY4_20 HOC5_20 HOP5_20 HOC9_20 HOP9_20 HOX10_20 HOY10_20 HBv1_20 HBv2_20 HBv3_20 HBv4_20 HBv5_20 bw
    clear cv2_0 cv2_1 cv5_0 cv5_1
    have cv4_0 : (w21).cell? ⟨qv4, 0, none⟩ = some (.slice oX4 oc.length pX4) := (cell_of HBv4_21.out 0).trans rfl
    have cv4_1 : (w21).cell? ⟨qv4, 1, none⟩ = some (.slice oY4 ow.length pY4) := (cell_of HBv4_21.out 1).trans rfl
    go_wp2_with fail
    refine (heldDisk_any oc.length (mkT 1 oc oc.length) ow.length (mkWrite (1 + oc.length) ow ow.length) _ _ _ _ ⟨HOX4_21.out, HOY4_21.out⟩ 1 (by omega) (by have := HLV.out; omega) (fun j hj => mkT_at 1 oc j hj _ hj) (fun j hj => by have e := mkWrite_at (1 + oc.length) ow j ow.length (Nat.le_refl _) hj; rw [e]; exact ⟨rfl, rfl⟩)).mono ?_
    rintro e w22 ⟨rfl, bw⟩
    have hb22 : Below w.heap.size w (w22) := hb21.trans (bw.mono hb21.size)
    have HM22 : Hid ((w21).heap.size ≤ (w22).heap.size) := bw.size
    have HOC1_22 : Hid ((w22).ownsRow w.heap.size 9 1 (.slice oC1 n1 pC1) n1 (cs.map Value.string)) := owns_below HOC1_21.out bw (fun g hg => owns_lt HOC1_21.out hg)
    have HOP1_22 : Hid ((w22).ownsRow w.heap.size 67 2 (.slice oP1 n2 pP1) n2 (flatWrite ws)) := owns_below HOP1_21.out bw (fun g hg => owns_lt HOP1_21.out hg)
    have HOX2_22 : Hid ((w22).ownsRow w.heap.size 9 1 (.slice oX2 oc.length pX2) oc.length (oc.map Value.string)) := owns_below HOX2_21.out bw (fun g hg => owns_lt HOX2_21.out hg)
    have HOY2_22 : Hid ((w22).ownsRow w.heap.size 67 2 (.slice oY2 ow.length pY2) ow.length (flatWrite ow)) := owns_below HOY2_21.out bw (fun g hg => owns_lt HOY2_21.out hg)
    have HOC3_22 : Hid ((w22).ownsRow w.heap.size 9 1 (.slice oC3 n1 pC3) n1 ((mkT 1 cs n1).map Value.string)) := owns_below HOC3_21.out bw (fun g hg => owns_lt HOC3_21.out hg)
    have HOP3_22 : Hid ((w22).ownsRow w.heap.size 67 2 (.slice oP3 n2 pP3) n2 (flatWrite (mkWrite (1 + n1) ws n2))) := owns_below HOP3_21.out bw (fun g hg => owns_lt HOP3_21.out hg)
    have HOX4_22 : Hid ((w22).ownsRow w.heap.size 9 1 (.slice oX4 oc.length pX4) oc.length ((mkT 1 oc oc.length).map Value.string)) := owns_below HOX4_21.out bw (fun g hg => owns_lt HOX4_21.out hg)
    have HOY4_22 : Hid ((w22).ownsRow w.heap.size 67 2 (.slice oY4 ow.length pY4) ow.length (flatWrite (mkWrite (1 + oc.length) ow ow.length))) := owns_below HOY4_21.out bw (fun g hg => owns_lt HOY4_21.out hg)
    have HOC5_22 : Hid ((w22).ownsRow w.heap.size 9 1 (.slice oC5 n1 pC5) n1 (cs.map Value.string)) := owns_below HOC5_21.out bw (fun g hg => owns_lt HOC5_21.out hg)
    have HOP5_22 : Hid ((w22).ownsRow w.heap.size 67 2 (.slice oP5 n2 pP5) n2 (flatWrite ws)) := owns_below HOP5_21.out bw (fun g hg => owns_lt HOP5_21.out hg)
    have HOC9_22 : Hid ((w22).ownsRow w.heap.size 9 1 (.slice oC9 n1 pC9) n1 (cs.map Value.string)) := owns_below HOC9_21.out bw (fun g hg => owns_lt HOC9_21.out hg)
    have HOP9_22 : Hid ((w22).ownsRow w.heap.size 67 2 (.slice oP9 n2 pP9) n2 (flatWrite ws)) := owns_below HOP9_21.out bw (fun g hg => owns_lt HOP9_21.out hg)
    have HOX10_22 : Hid ((w22).ownsRow w.heap.size 9 1 (.slice oX10 oc.length pX10) oc.length (oc.map Value.string)) := owns_below HOX10_21.out bw (fun g hg => owns_lt HOX10_21.out hg)
    have HOY10_22 : Hid ((w22).ownsRow w.heap.size 67 2 (.slice oY10 ow.length pY10) ow.length (flatWrite ow)) := owns_below HOY10_21.out bw (fun g hg => owns_lt HOY10_21.out hg)
    have HBv1_22 : Hid ((w22).heap[qv1]? = some (.cells #[.slice a1 n1 c1, .slice a2 n2 c2] 46)) := blk_below HBv1_21.out bw
    have HBv2_22 : Hid ((w22).heap[qv2]? = some (.cells #[.slice oX2 oc.length pX2, .slice oY2 ow.length pY2] 27)) := blk_below HBv2_21.out bw
    have HBv3_22 : Hid ((w22).heap[qv3]? = some (.cells #[.slice oC3 n1 pC3, .slice oP3 n2 pP3] 27)) := blk_below HBv3_21.out bw
    have HBv4_22 : Hid ((w22).heap[qv4]? = some (.cells #[.slice oX4 oc.length pX4, .slice oY4 ow.length pY4] 27)) := blk_below HBv4_21.out bw
    have HBv5_22 : Hid ((w22).heap[qv5]? = some (.cells #[.slice oX10 oc.length pX10, .slice oY10 ow.length pY10] 27)) := blk_below HBv5_21.out bw
    clear hb21 HOC1_21 HOP1_21 HOX2_21 HOY2_21 HOC3_21 HOP3_21 HOX4_21 HOY4_21 HOC5_21 HOP5_21 HOC9_21 HOP9_21 HOX10_21 HOY10_21 HBv1_21 HBv2_21 HBv3_21 HBv4_21 HBv5_21 bw
    have hkh11 : ¬ (((1 + oc.length + 2 * ow.length : Nat) : Int) < 0) := by omega
    clear cv4_0 cv4_1
    go_wp2_with fail
    go_ret
    exact ⟨rfl, hb22⟩


set_option maxRecDepth 100000 in
theorem lifted (os : Os) (started : os.Started) (H : Type) (enc : TypeId × Value → H) :
    ReturnsInHanded {} Try.checked os 9 .any (Rows.fnExactFlushSpec.pre6 enc Try.prog Try.f9 Rows.fnExactFlushRow.domain false) (Rows.fnExactFlushSpec.post enc Try.prog Try.f9 false true false false) := by
  refine returnsInHanded_of_change (C := Try.checked) own started (by kernel_rfl) Try.func9
    (ChangeSpec.witness6 (enc := enc) (C := Try.checked) false ⟨#[], #[.agg #[.slice none 0 0, .slice none 0 0]], []⟩ 8 (by kernel_rfl) (by kernel_rfl) (by kernel_rfl) (by kernel_rfl)) ?_
  intro W base args ds gs before hval0 hW _ _
  have hval : ∀ (j : Nat) t v, Try.f9.params[j]? = some t → args[j]? = some v → Value.okWide Try.prog W .any base t v := hval0
  have hW' := hW
  obtain ⟨p, q, hA0, hV, rfl, hfz, hnd⟩ := hW
  have hA : DataW.TrodAll enc Try.prog W 0 (fun _ => true) true Try.f9.params.toList args.toList ds p := hA0
  rw [Try.params9] at hA hval
  obtain ⟨v0, vs0, d0, ds0, p0, q0, hargs, rfl, rfl, h0, r0⟩ := trodAll_cons hA
  obtain ⟨rfl, rfl, rfl⟩ := trodAll_nil r0
  obtain rfl : args = #[v0] := by cases args; simp_all
  obtain ⟨rfl, rfl⟩ := trodVars_none hV
  have k0 := h0
  have lt0 : ∀ x ∈ p0, x.block < W.heap.size := by obtain ⟨m, hm⟩ := k0; exact DataW.trod_lt m _ _ _ hm
  obtain ⟨da0, dn0, dc0, dcs0, db0, dm0, dd0, dws0, rfl, ga0, gb0, gc0, gd0, ge0, gf0⟩ := openDisk (hval 0 46 v0 rfl rfl) h0
  clear hA0 hval0
  refine (walk1 W da0 dn0 dc0 dcs0 db0 dm0 dd0 dws0 ga0 gb0 gc0 gd0 ge0 gf0).mono fun e W' ⟨he, bel⟩ => ?_
  subst he
  exact ⟨_, rfl, _, _, _, [], _, [], hW', trodAll_mk1 (shut_bool Try.underlying4 _), (trodAll_cons_mk (Below.trod laidOut (by kernel_rfl) (of_decide_eq_true (by kernel_rfl)) k0 bel lt0) trodAll_mk0), rfl, bel.frame _, fun h => by cases h⟩

theorem over : Rows.fnExactFlushRow.holds Try.pinned (OpenSpec.ofChange Rows.fnExactFlushSpec) :=
  OpenClaim.holds_of_wide 9 Try.f9 rfl rfl rfl rfl rfl rfl rfl ⟨rfl, rfl, rfl, rfl, rfl⟩ rfl rfl rfl rfl rfl (by kernel_rfl) Try.func9 (by kernel_rfl)
    (of_decide_eq_true (by kernel_rfl)) (by unfold Func.isWrapper; first | (rw [if_pos (by decide +kernel)]; kernel_rfl) | (rw [if_neg (by decide +kernel)]; exact ⟨rfl, rfl⟩))
    (fun os started H enc _ => lifted os started H enc)
end fnExactFlush

theorem fnExactFlush_holds : Rows.FnExactFlushSaid := fnExactFlush.over
#print axioms fnExactFlush_holds
end Go.Proofs.Ytckjbgpdbehmaaa
