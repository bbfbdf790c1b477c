/- Crash: at every argument the program answers as the specification (the law answers true), it writes into no argument, and its answer owns its memory: no condition. -/
import Derived.Test.YtckjbgpdbehmaaaFnExactCrashB
import Derived.Test.YtckjbgpdbehmaaaRows
import Derived.WalkKit
import Derived.ProofKit
import Derived.OpenShut
import Derived.ShutString
import Derived.ChangeOld
import Derived.Below
import Derived.Deep.RegionHeld3
import Derived.Deep.DrawnRows
import Derived.Deep.CutRange
import Derived.Deep.DeepCutAuto
namespace Go.Proofs.Ytckjbgpdbehmaaa
namespace fnExactCrash
open Go.ChangeShapes Go.WideShapes Go.ChangeAt Go.RowKit
open Go.ChangeMaps (open_string shut_string)
attribute [local go_sem ↓] Go.wp_at_zero Go.wp_at_succ

theorem own : ownKnob Try.prog.godebug = none := by kernel_rfl
theorem laidOut : laidOutB Try.prog = true := by kernel_rfl

open Go.Lib hiding intOf
set_option maxHeartbeats 16000000 in
set_option maxRecDepth 100000 in
theorem walk1 (w : World) (a1 : Option Addr) (n1 c1 : Nat) (cs : List ByteArray) (a2 : Option Addr) (n2 c2 : Nat) (ws : List (Int × ByteArray)) (h1 : ArgT w w.heap.size a1 n1 cs) (h2 : ArgWrite w w.heap.size a2 n2 ws) (hn1 : n1 ≤ maxLen) (hn2 : n2 ≤ maxLen) (hs1 : ∀ i, i < n1 → (textAt cs i).size ≤ maxLen) (hs2 : ∀ x ∈ ws, (x.2).size ≤ maxLen) (aK : Option Addr) (nK cK : Nat) (ks : List Bool) (hk : ArgBool w w.heap.size aK nK ks) (hnK : nK ≤ maxLen) :
    Calls Try.prog 10 #[.agg #[.slice a1 n1 c1, .slice a2 n2 c2], .slice aK nK cK] w fun e w' => e = .returned (.bool true) ∧ Below w.heap.size w w' := by
  classical
  have HA1 : Hid (∀ W, Below w.heap.size w W → ArgT W w.heap.size a1 n1 cs) := fun W h => h1.below h
  have HA2 : Hid (∀ W, Below w.heap.size w W → ArgWrite W w.heap.size a2 n2 ws) := fun W h => h2.below h
  have HCL : Hid (cs.length = n1) := h1.len
  have HPL : Hid (ws.length = n2) := h2.1
  have HN1 : Hid (n1 ≤ maxLen) := hn1
  have HN2 : Hid (n2 ≤ maxLen) := hn2
  have HS1 : Hid (∀ i, i < n1 → (textAt cs i).size ≤ maxLen) := hs1
  have HS2 : Hid (∀ x ∈ ws, (x.2).size ≤ maxLen) := hs2
  clear h1 h2 hn1 hn2 hs1 hs2
  have HAK : Hid (∀ W, Below w.heap.size w W → ArgBool W w.heap.size aK nK ks) := fun W h => hk.below h
  unfold maxLen at hnK
  clear hk
  have hb0 : Below w.heap.size w w := Below.refl _ _
  go_enter Try.func10, Try.ntmps10
  go_upto_region 1 with fail
  obtain ⟨qv1, hqv1⟩ : ∃ q, q = (w).heap.size := ⟨_, rfl⟩
  obtain ⟨w1, hW1⟩ : ∃ W, W = (w).alloc (.cells #[.slice a1 n1 c1, .slice a2 n2 c2] 46) := ⟨_, rfl⟩
  have hz1 : (w).heap.size = qv1 := hqv1.symm
  first | rw [← hW1, ← hqv1] | rw [← hW1]
  have hs1 : w1.heap.size = qv1 + 1 := by rw [hW1, ← hz1]; simp
  have bw : Below (w).heap.size (w) w1 := by rw [hW1]; exact (Below.refl _ _).alloc (Nat.le_refl _) _
  have hb1 : Below w.heap.size w (w1) := hb0.trans (bw.mono hb0.size)
  have HM1 : Hid ((w).heap.size ≤ (w1).heap.size) := bw.size
  have HBv1_1 : Hid ((w1).heap[qv1]? = some (.cells #[.slice a1 n1 c1, .slice a2 n2 c2] 46)) := by show _ = _; rw [hW1, ← hz1]; exact heap_alloc_new _ _
  have HGv1 : Hid (w.heap.size ≤ qv1) := by show _ ≤ _; rw [← hz1]; exact hb0.size
  clear hb0 bw hW1 hz1
  clear hs1 hqv1
  by_cases hc1 : 1048576 < (nK : Int)
  · go_wp2_with fail
    go_ret
    exact ⟨rfl, hb1⟩
  · have cv1_0 : (w1).cell? ⟨qv1, 0, none⟩ = some (.slice a1 n1 c1) := (cell_of HBv1_1.out 0).trans rfl
    have cv1_1 : (w1).cell? ⟨qv1, 1, none⟩ = some (.slice a2 n2 c2) := (cell_of HBv1_1.out 1).trans rfl
    go_wp2_with fail
    refine (szDisk_any 1048576 (by omega) (by omega) a1 n1 c1 cs a2 n2 c2 ws w.heap.size _ (HA1.out _ hb1) (HA2.out _ hb1) hb1.size HN1.out HN2.out HS1.out HS2.out).mono ?_
    rintro e w2 ⟨r1, rfl, hl1, hr1, bw⟩
    have hb2 : Below w.heap.size w (w2) := hb1.trans (bw.mono hb1.size)
    have HM2 : Hid ((w1).heap.size ≤ (w2).heap.size) := bw.size
    have HBv1_2 : Hid ((w2).heap[qv1]? = some (.cells #[.slice a1 n1 c1, .slice a2 n2 c2] 46)) := blk_below HBv1_1.out bw
    clear hb1 HBv1_1 bw
    clear cv1_0 cv1_1
    by_cases hc2 : r1 < 0
    · clear hr1
      go_wp2_with fail
      go_ret
      exact ⟨rfl, hb2⟩
    · obtain ⟨⟨hm1, hz1⟩, hm2, hz2⟩ := hr1 (by omega)
      have HZ1 : Hid (∀ i, i < n1 → (textAt cs i).size ≤ 1048576) := hz1
      have HZ2 : Hid (∀ x ∈ ws, (x.2).size ≤ 1048576) := hz2
      clear hr1 hz1 hz2
      obtain ⟨oc, hoc⟩ : ∃ l, l = landC cs ws (keptB ks) := ⟨_, rfl⟩
      obtain ⟨ow, how⟩ : ∃ l, l = ([] : List (Int × ByteArray)) := ⟨_, rfl⟩
      have HSP : Hid (∀ W : World, Below w.heap.size w W → ∀ (u1 u2 : Value) (B : Nat), DiskO W B u1 n1 cs u2 n2 ws → ∀ (oB : Option Addr) (pB BK : Nat), W.ownsRow BK 4 1 (.slice oB nK pB) nK (ks.map Value.bool) → Calls Try.prog 14 #[.agg #[u1, u2], .slice oB nK pB] W fun e w' => DiskIs oc ow W e w') := fun W _ u1 u2 B ho oB pB BK hk => by rw [hoc, how]; exact specCrash_any u1 u2 n1 cs n2 ws B W ho (by omega) (by omega) oB nK pB ks (bool_view hk)
      have HIM : Hid (∀ W : World, Below w.heap.size w W → ∀ (u1 u2 : Value) (B : Nat), DiskO W B u1 n1 cs u2 n2 ws → ∀ (oB : Option Addr) (pB BK : Nat), W.ownsRow BK 4 1 (.slice oB nK pB) nK (ks.map Value.bool) → Calls Try.prog 13 #[.agg #[u1, u2], .slice oB nK pB] W fun e w' => DiskIs oc ow W e w') := fun W _ u1 u2 B ho oB pB BK hk => by rw [hoc, how]; exact implCrash_any u1 u2 n1 cs n2 ws B W ho (by omega) (by omega) HZ1.out HZ2.out oB nK pB ks (bool_view hk)
      have HLV : Hid ((n1 ≤ 1048576 ∧ n2 ≤ 1048576) ∧ oc.length ≤ 1048576 ∧ ow.length ≤ 1048577) := ⟨⟨hm1, hm2⟩, by rw [hoc]; exact Nat.le_trans (landC_len cs ws (keptB ks)) (by rw [HCL.out]; exact hm1), by rw [how]; decide⟩
      clear hoc how
      have cv1_0 : (w2).cell? ⟨qv1, 0, none⟩ = some (.slice a1 n1 c1) := (cell_of HBv1_2.out 0).trans rfl
      have cv1_1 : (w2).cell? ⟨qv1, 1, none⟩ = some (.slice a2 n2 c2) := (cell_of HBv1_2.out 1).trans rfl
      go_wp2_with fail
      refine (toDisk_any a1 n1 c1 cs a2 n2 c2 ws w.heap.size _ (HA1.out _ hb2) (HA2.out _ hb2) hb2.size hm1 hm2).mono ?_
      rintro e w3 ⟨vv1, vv2, rfl, ⟨ownC1, ownP1⟩, bw⟩
      obtain ⟨oC1, pC1, rfl⟩ := slice_of_owns ownC1
      obtain ⟨oP1, pP1, rfl⟩ := slice_of_owns ownP1
      have hb3 : Below w.heap.size w (w3) := hb2.trans (bw.mono hb2.size)
      have HM3 : Hid ((w2).heap.size ≤ (w3).heap.size) := bw.size
      have HBv1_3 : Hid ((w3).heap[qv1]? = some (.cells #[.slice a1 n1 c1, .slice a2 n2 c2] 46)) := blk_below HBv1_2.out bw
      have HOC1_3 : Hid ((w3).ownsRow w.heap.size 9 1 (.slice oC1 n1 pC1) n1 (cs.map Value.string)) := owns_wide ownC1 hb2.size
      have LOC1 : Hid (∀ g, (Value.ownBlock (.slice oC1 n1 pC1)) = some g → (w2).heap.size ≤ g) := fun g hg => owns_ge ownC1 hg
      have HIC1 : Hid (∀ g, (Value.ownBlock (.slice oC1 n1 pC1)) = some g → g < (w3).heap.size) := fun g hg => owns_lt ownC1 hg
      clear ownC1
      have HOP1_3 : Hid ((w3).ownsRow w.heap.size 67 2 (.slice oP1 n2 pP1) n2 (flatWrite ws)) := owns_wide ownP1 hb2.size
      have LOP1 : Hid (∀ g, (Value.ownBlock (.slice oP1 n2 pP1)) = some g → (w2).heap.size ≤ g) := fun g hg => owns_ge ownP1 hg
      have HIP1 : Hid (∀ g, (Value.ownBlock (.slice oP1 n2 pP1)) = some g → g < (w3).heap.size) := fun g hg => owns_lt ownP1 hg
      clear ownP1
      clear hb2 HBv1_2 bw
      clear cv1_0 cv1_1
      go_wp2_with fail
      refine (toBoolS_any w.heap.size aK nK cK ks _ (HAK.out _ hb3) hb3.size (by omega)).mono ?_
      rintro e w4 ⟨vv, rfl, ownB2, bw⟩
      obtain ⟨oB2, pB2, rfl⟩ := slice_of_owns ownB2
      have hb4 : Below w.heap.size w (w4) := hb3.trans (bw.mono hb3.size)
      have HM4 : Hid ((w3).heap.size ≤ (w4).heap.size) := bw.size
      have HOC1_4 : Hid ((w4).ownsRow w.heap.size 9 1 (.slice oC1 n1 pC1) n1 (cs.map Value.string)) := owns_below HOC1_3.out bw (fun g hg => owns_lt HOC1_3.out hg)
      have HOP1_4 : Hid ((w4).ownsRow w.heap.size 67 2 (.slice oP1 n2 pP1) n2 (flatWrite ws)) := owns_below HOP1_3.out bw (fun g hg => owns_lt HOP1_3.out hg)
      have HBv1_4 : Hid ((w4).heap[qv1]? = some (.cells #[.slice a1 n1 c1, .slice a2 n2 c2] 46)) := blk_below HBv1_3.out bw
      have HOB2_4 : Hid ((w4).ownsRow w.heap.size 4 1 (.slice oB2 nK pB2) nK (ks.map Value.bool)) := owns_wide ownB2 hb3.size
      have LOB2 : Hid (∀ g, (Value.ownBlock (.slice oB2 nK pB2)) = some g → (w3).heap.size ≤ g) := fun g hg => owns_ge ownB2 hg
      have HIB2 : Hid (∀ g, (Value.ownBlock (.slice oB2 nK pB2)) = some g → g < (w4).heap.size) := fun g hg => owns_lt ownB2 hg
      clear ownB2
      clear hb3 HOC1_3 HOP1_3 HBv1_3 bw
      go_wp2_with fail
      refine (HSP.out _ hb4 _ _ _ ⟨HOC1_4.out, HOP1_4.out⟩ _ _ _ HOB2_4.out).mono ?_
      rintro e w5 ⟨vv1, vv2, rfl, ⟨ownX3, ownY3⟩, bw⟩
      obtain ⟨oX3, pX3, rfl⟩ := slice_of_owns ownX3
      obtain ⟨oY3, pY3, rfl⟩ := slice_of_owns ownY3
      have hb5 : Below w.heap.size w (w5) := hb4.trans (bw.mono hb4.size)
      have HM5 : Hid ((w4).heap.size ≤ (w5).heap.size) := bw.size
      have HOC1_5 : Hid ((w5).ownsRow w.heap.size 9 1 (.slice oC1 n1 pC1) n1 (cs.map Value.string)) := owns_below HOC1_4.out bw (fun g hg => owns_lt HOC1_4.out hg)
      have HOP1_5 : Hid ((w5).ownsRow w.heap.size 67 2 (.slice oP1 n2 pP1) n2 (flatWrite ws)) := owns_below HOP1_4.out bw (fun g hg => owns_lt HOP1_4.out hg)
      have HOB2_5 : Hid ((w5).ownsRow w.heap.size 4 1 (.slice oB2 nK pB2) nK (ks.map Value.bool)) := owns_below HOB2_4.out bw (fun g hg => owns_lt HOB2_4.out hg)
      have HBv1_5 : Hid ((w5).heap[qv1]? = some (.cells #[.slice a1 n1 c1, .slice a2 n2 c2] 46)) := blk_below HBv1_4.out bw
      have HOX3_5 : Hid ((w5).ownsRow w.heap.size 9 1 (.slice oX3 oc.length pX3) oc.length (oc.map Value.string)) := owns_wide ownX3 hb4.size
      have LOX3 : Hid (∀ g, (Value.ownBlock (.slice oX3 oc.length pX3)) = some g → (w4).heap.size ≤ g) := fun g hg => owns_ge ownX3 hg
      have HIX3 : Hid (∀ g, (Value.ownBlock (.slice oX3 oc.length pX3)) = some g → g < (w5).heap.size) := fun g hg => owns_lt ownX3 hg
      clear ownX3
      have HOY3_5 : Hid ((w5).ownsRow w.heap.size 67 2 (.slice oY3 ow.length pY3) ow.length (flatWrite ow)) := owns_wide ownY3 hb4.size
      have LOY3 : Hid (∀ g, (Value.ownBlock (.slice oY3 ow.length pY3)) = some g → (w4).heap.size ≤ g) := fun g hg => owns_ge ownY3 hg
      have HIY3 : Hid (∀ g, (Value.ownBlock (.slice oY3 ow.length pY3)) = some g → g < (w5).heap.size) := fun g hg => owns_lt ownY3 hg
      clear ownY3
      clear hb4 HOC1_4 HOP1_4 HOB2_4 HBv1_4 bw
      go_upto_region 8 with fail
      obtain ⟨qv2, hqv2⟩ : ∃ q, q = (w5).heap.size := ⟨_, rfl⟩
      obtain ⟨w6, hW6⟩ : ∃ W, W = (w5).alloc (.cells #[.slice oX3 oc.length pX3, .slice oY3 ow.length pY3] 27) := ⟨_, rfl⟩
      have hz6 : (w5).heap.size = qv2 := hqv2.symm
      first | rw [← hW6, ← hqv2] | rw [← hW6]
      have hs6 : w6.heap.size = qv2 + 1 := by rw [hW6, ← hz6]; simp
      have bw : Below (w5).heap.size (w5) w6 := by rw [hW6]; exact (Below.refl _ _).alloc (Nat.le_refl _) _
      have hb6 : Below w.heap.size w (w6) := hb5.trans (bw.mono hb5.size)
      have HM6 : Hid ((w5).heap.size ≤ (w6).heap.size) := bw.size
      have HOC1_6 : Hid ((w6).ownsRow w.heap.size 9 1 (.slice oC1 n1 pC1) n1 (cs.map Value.string)) := owns_below HOC1_5.out bw (fun g hg => owns_lt HOC1_5.out hg)
      have HOP1_6 : Hid ((w6).ownsRow w.heap.size 67 2 (.slice oP1 n2 pP1) n2 (flatWrite ws)) := owns_below HOP1_5.out bw (fun g hg => owns_lt HOP1_5.out hg)
      have HOB2_6 : Hid ((w6).ownsRow w.heap.size 4 1 (.slice oB2 nK pB2) nK (ks.map Value.bool)) := owns_below HOB2_5.out bw (fun g hg => owns_lt HOB2_5.out hg)
      have HOX3_6 : Hid ((w6).ownsRow w.heap.size 9 1 (.slice oX3 oc.length pX3) oc.length (oc.map Value.string)) := owns_below HOX3_5.out bw (fun g hg => owns_lt HOX3_5.out hg)
      have HOY3_6 : Hid ((w6).ownsRow w.heap.size 67 2 (.slice oY3 ow.length pY3) ow.length (flatWrite ow)) := owns_below HOY3_5.out bw (fun g hg => owns_lt HOY3_5.out hg)
      have HBv1_6 : Hid ((w6).heap[qv1]? = some (.cells #[.slice a1 n1 c1, .slice a2 n2 c2] 46)) := blk_below HBv1_5.out bw
      have HNv1v2 : Hid (qv1 ≠ qv2) := fun e => by have h1 := (Array.getElem?_eq_some_iff.1 HBv1_5.out).1; omega
      have HBv2_6 : Hid ((w6).heap[qv2]? = some (.cells #[.slice oX3 oc.length pX3, .slice oY3 ow.length pY3] 27)) := by show _ = _; rw [hW6, ← hz6]; exact heap_alloc_new _ _
      have HGv2 : Hid (w.heap.size ≤ qv2) := by show _ ≤ _; rw [← hz6]; exact hb5.size
      clear hb5 HOC1_5 HOP1_5 HOB2_5 HOX3_5 HOY3_5 HBv1_5 bw hW6 hz6
      clear hs6 hqv2
      have cv1_0 : (w6).cell? ⟨qv1, 0, none⟩ = some (.slice a1 n1 c1) := (cell_of HBv1_6.out 0).trans rfl
      have cv1_1 : (w6).cell? ⟨qv1, 1, none⟩ = some (.slice a2 n2 c2) := (cell_of HBv1_6.out 1).trans rfl
      go_wp2_with fail
      refine (toDisk_any a1 n1 c1 cs a2 n2 c2 ws w.heap.size _ (HA1.out _ hb6) (HA2.out _ hb6) hb6.size hm1 hm2).mono ?_
      rintro e w7 ⟨vv1, vv2, rfl, ⟨ownC4, ownP4⟩, bw⟩
      obtain ⟨oC4, pC4, rfl⟩ := slice_of_owns ownC4
      obtain ⟨oP4, pP4, rfl⟩ := slice_of_owns ownP4
      have hb7 : Below w.heap.size w (w7) := hb6.trans (bw.mono hb6.size)
      have HM7 : Hid ((w6).heap.size ≤ (w7).heap.size) := bw.size
      have HOC1_7 : Hid ((w7).ownsRow w.heap.size 9 1 (.slice oC1 n1 pC1) n1 (cs.map Value.string)) := owns_below HOC1_6.out bw (fun g hg => owns_lt HOC1_6.out hg)
      have HOP1_7 : Hid ((w7).ownsRow w.heap.size 67 2 (.slice oP1 n2 pP1) n2 (flatWrite ws)) := owns_below HOP1_6.out bw (fun g hg => owns_lt HOP1_6.out hg)
      have HOB2_7 : Hid ((w7).ownsRow w.heap.size 4 1 (.slice oB2 nK pB2) nK (ks.map Value.bool)) := owns_below HOB2_6.out bw (fun g hg => owns_lt HOB2_6.out hg)
      have HOX3_7 : Hid ((w7).ownsRow w.heap.size 9 1 (.slice oX3 oc.length pX3) oc.length (oc.map Value.string)) := owns_below HOX3_6.out bw (fun g hg => owns_lt HOX3_6.out hg)
      have HOY3_7 : Hid ((w7).ownsRow w.heap.size 67 2 (.slice oY3 ow.length pY3) ow.length (flatWrite ow)) := owns_below HOY3_6.out bw (fun g hg => owns_lt HOY3_6.out hg)
      have HBv1_7 : Hid ((w7).heap[qv1]? = some (.cells #[.slice a1 n1 c1, .slice a2 n2 c2] 46)) := blk_below HBv1_6.out bw
      have HBv2_7 : Hid ((w7).heap[qv2]? = some (.cells #[.slice oX3 oc.length pX3, .slice oY3 ow.length pY3] 27)) := blk_below HBv2_6.out bw
      have HOC4_7 : Hid ((w7).ownsRow w.heap.size 9 1 (.slice oC4 n1 pC4) n1 (cs.map Value.string)) := owns_wide ownC4 hb6.size
      have LOC4 : Hid (∀ g, (Value.ownBlock (.slice oC4 n1 pC4)) = some g → (w6).heap.size ≤ g) := fun g hg => owns_ge ownC4 hg
      have HIC4 : Hid (∀ g, (Value.ownBlock (.slice oC4 n1 pC4)) = some g → g < (w7).heap.size) := fun g hg => owns_lt ownC4 hg
      clear ownC4
      have HOP4_7 : Hid ((w7).ownsRow w.heap.size 67 2 (.slice oP4 n2 pP4) n2 (flatWrite ws)) := owns_wide ownP4 hb6.size
      have LOP4 : Hid (∀ g, (Value.ownBlock (.slice oP4 n2 pP4)) = some g → (w6).heap.size ≤ g) := fun g hg => owns_ge ownP4 hg
      have HIP4 : Hid (∀ g, (Value.ownBlock (.slice oP4 n2 pP4)) = some g → g < (w7).heap.size) := fun g hg => owns_lt ownP4 hg
      clear ownP4
      clear hb6 HOC1_6 HOP1_6 HOB2_6 HOX3_6 HOY3_6 HBv1_6 HBv2_6 bw
      clear cv1_0 cv1_1
      go_upto_region 9 with fail
      obtain ⟨qv3, hqv3⟩ : ∃ q, q = (w7).heap.size := ⟨_, rfl⟩
      obtain ⟨w8, hW8⟩ : ∃ W, W = (w7).alloc (.cells #[.slice oC4 n1 pC4, .slice oP4 n2 pP4] 27) := ⟨_, rfl⟩
      have hz8 : (w7).heap.size = qv3 := hqv3.symm
      first | rw [← hW8, ← hqv3] | rw [← hW8]
      have hs8 : w8.heap.size = qv3 + 1 := by rw [hW8, ← hz8]; simp
      have bw : Below (w7).heap.size (w7) w8 := by rw [hW8]; exact (Below.refl _ _).alloc (Nat.le_refl _) _
      have hb8 : Below w.heap.size w (w8) := hb7.trans (bw.mono hb7.size)
      have HM8 : Hid ((w7).heap.size ≤ (w8).heap.size) := bw.size
      have HOC1_8 : Hid ((w8).ownsRow w.heap.size 9 1 (.slice oC1 n1 pC1) n1 (cs.map Value.string)) := owns_below HOC1_7.out bw (fun g hg => owns_lt HOC1_7.out hg)
      have HOP1_8 : Hid ((w8).ownsRow w.heap.size 67 2 (.slice oP1 n2 pP1) n2 (flatWrite ws)) := owns_below HOP1_7.out bw (fun g hg => owns_lt HOP1_7.out hg)
      have HOB2_8 : Hid ((w8).ownsRow w.heap.size 4 1 (.slice oB2 nK pB2) nK (ks.map Value.bool)) := owns_below HOB2_7.out bw (fun g hg => owns_lt HOB2_7.out hg)
      have HOX3_8 : Hid ((w8).ownsRow w.heap.size 9 1 (.slice oX3 oc.length pX3) oc.length (oc.map Value.string)) := owns_below HOX3_7.out bw (fun g hg => owns_lt HOX3_7.out hg)
      have HOY3_8 : Hid ((w8).ownsRow w.heap.size 67 2 (.slice oY3 ow.length pY3) ow.length (flatWrite ow)) := owns_below HOY3_7.out bw (fun g hg => owns_lt HOY3_7.out hg)
      have HOC4_8 : Hid ((w8).ownsRow w.heap.size 9 1 (.slice oC4 n1 pC4) n1 (cs.map Value.string)) := owns_below HOC4_7.out bw (fun g hg => owns_lt HOC4_7.out hg)
      have HOP4_8 : Hid ((w8).ownsRow w.heap.size 67 2 (.slice oP4 n2 pP4) n2 (flatWrite ws)) := owns_below HOP4_7.out bw (fun g hg => owns_lt HOP4_7.out hg)
      have HBv1_8 : Hid ((w8).heap[qv1]? = some (.cells #[.slice a1 n1 c1, .slice a2 n2 c2] 46)) := blk_below HBv1_7.out bw
      have HBv2_8 : Hid ((w8).heap[qv2]? = some (.cells #[.slice oX3 oc.length pX3, .slice oY3 ow.length pY3] 27)) := blk_below HBv2_7.out bw
      have HNv1v3 : Hid (qv1 ≠ qv3) := fun e => by have h1 := (Array.getElem?_eq_some_iff.1 HBv1_7.out).1; omega
      have HNv2v3 : Hid (qv2 ≠ qv3) := fun e => by have h1 := (Array.getElem?_eq_some_iff.1 HBv2_7.out).1; omega
      have HBv3_8 : Hid ((w8).heap[qv3]? = some (.cells #[.slice oC4 n1 pC4, .slice oP4 n2 pP4] 27)) := by show _ = _; rw [hW8, ← hz8]; exact heap_alloc_new _ _
      have HGv3 : Hid (w.heap.size ≤ qv3) := by show _ ≤ _; rw [← hz8]; exact hb7.size
      clear hb7 HOC1_7 HOP1_7 HOB2_7 HOX3_7 HOY3_7 HOC4_7 HOP4_7 HBv1_7 HBv2_7 bw hW8 hz8
      clear hs8 hqv3
      go_wp2_with fail
      refine (toBoolS_any w.heap.size aK nK cK ks _ (HAK.out _ hb8) hb8.size (by omega)).mono ?_
      rintro e w9 ⟨vv, rfl, ownB5, bw⟩
      obtain ⟨oB5, pB5, rfl⟩ := slice_of_owns ownB5
      have hb9 : Below w.heap.size w (w9) := hb8.trans (bw.mono hb8.size)
      have HM9 : Hid ((w8).heap.size ≤ (w9).heap.size) := bw.size
      have HOC1_9 : Hid ((w9).ownsRow w.heap.size 9 1 (.slice oC1 n1 pC1) n1 (cs.map Value.string)) := owns_below HOC1_8.out bw (fun g hg => owns_lt HOC1_8.out hg)
      have HOP1_9 : Hid ((w9).ownsRow w.heap.size 67 2 (.slice oP1 n2 pP1) n2 (flatWrite ws)) := owns_below HOP1_8.out bw (fun g hg => owns_lt HOP1_8.out hg)
      have HOB2_9 : Hid ((w9).ownsRow w.heap.size 4 1 (.slice oB2 nK pB2) nK (ks.map Value.bool)) := owns_below HOB2_8.out bw (fun g hg => owns_lt HOB2_8.out hg)
      have HOX3_9 : Hid ((w9).ownsRow w.heap.size 9 1 (.slice oX3 oc.length pX3) oc.length (oc.map Value.string)) := owns_below HOX3_8.out bw (fun g hg => owns_lt HOX3_8.out hg)
      have HOY3_9 : Hid ((w9).ownsRow w.heap.size 67 2 (.slice oY3 ow.length pY3) ow.length (flatWrite ow)) := owns_below HOY3_8.out bw (fun g hg => owns_lt HOY3_8.out hg)
      have HOC4_9 : Hid ((w9).ownsRow w.heap.size 9 1 (.slice oC4 n1 pC4) n1 (cs.map Value.string)) := owns_below HOC4_8.out bw (fun g hg => owns_lt HOC4_8.out hg)
      have HOP4_9 : Hid ((w9).ownsRow w.heap.size 67 2 (.slice oP4 n2 pP4) n2 (flatWrite ws)) := owns_below HOP4_8.out bw (fun g hg => owns_lt HOP4_8.out hg)
      have HBv1_9 : Hid ((w9).heap[qv1]? = some (.cells #[.slice a1 n1 c1, .slice a2 n2 c2] 46)) := blk_below HBv1_8.out bw
      have HBv2_9 : Hid ((w9).heap[qv2]? = some (.cells #[.slice oX3 oc.length pX3, .slice oY3 ow.length pY3] 27)) := blk_below HBv2_8.out bw
      have HBv3_9 : Hid ((w9).heap[qv3]? = some (.cells #[.slice oC4 n1 pC4, .slice oP4 n2 pP4] 27)) := blk_below HBv3_8.out bw
      have HOB5_9 : Hid ((w9).ownsRow w.heap.size 4 1 (.slice oB5 nK pB5) nK (ks.map Value.bool)) := owns_wide ownB5 hb8.size
      have LOB5 : Hid (∀ g, (Value.ownBlock (.slice oB5 nK pB5)) = some g → (w8).heap.size ≤ g) := fun g hg => owns_ge ownB5 hg
      have HIB5 : Hid (∀ g, (Value.ownBlock (.slice oB5 nK pB5)) = some g → g < (w9).heap.size) := fun g hg => owns_lt ownB5 hg
      clear ownB5
      clear hb8 HOC1_8 HOP1_8 HOB2_8 HOX3_8 HOY3_8 HOC4_8 HOP4_8 HBv1_8 HBv2_8 HBv3_8 bw
      have cv3_0 : (w9).cell? ⟨qv3, 0, none⟩ = some (.slice oC4 n1 pC4) := (cell_of HBv3_9.out 0).trans rfl
      have cv3_1 : (w9).cell? ⟨qv3, 1, none⟩ = some (.slice oP4 n2 pP4) := (cell_of HBv3_9.out 1).trans rfl
      go_wp2_with fail
      refine (HIM.out _ hb9 _ _ _ ⟨HOC4_9.out, HOP4_9.out⟩ _ _ _ HOB5_9.out).mono ?_
      rintro e w10 ⟨vv1, vv2, rfl, ⟨ownX6, ownY6⟩, bw⟩
      obtain ⟨oX6, pX6, rfl⟩ := slice_of_owns ownX6
      obtain ⟨oY6, pY6, rfl⟩ := slice_of_owns ownY6
      have hb10 : Below w.heap.size w (w10) := hb9.trans (bw.mono hb9.size)
      have HM10 : Hid ((w9).heap.size ≤ (w10).heap.size) := bw.size
      have HOC1_10 : Hid ((w10).ownsRow w.heap.size 9 1 (.slice oC1 n1 pC1) n1 (cs.map Value.string)) := owns_below HOC1_9.out bw (fun g hg => owns_lt HOC1_9.out hg)
      have HOP1_10 : Hid ((w10).ownsRow w.heap.size 67 2 (.slice oP1 n2 pP1) n2 (flatWrite ws)) := owns_below HOP1_9.out bw (fun g hg => owns_lt HOP1_9.out hg)
      have HOB2_10 : Hid ((w10).ownsRow w.heap.size 4 1 (.slice oB2 nK pB2) nK (ks.map Value.bool)) := owns_below HOB2_9.out bw (fun g hg => owns_lt HOB2_9.out hg)
      have HOX3_10 : Hid ((w10).ownsRow w.heap.size 9 1 (.slice oX3 oc.length pX3) oc.length (oc.map Value.string)) := owns_below HOX3_9.out bw (fun g hg => owns_lt HOX3_9.out hg)
      have HOY3_10 : Hid ((w10).ownsRow w.heap.size 67 2 (.slice oY3 ow.length pY3) ow.length (flatWrite ow)) := owns_below HOY3_9.out bw (fun g hg => owns_lt HOY3_9.out hg)
      have HOC4_10 : Hid ((w10).ownsRow w.heap.size 9 1 (.slice oC4 n1 pC4) n1 (cs.map Value.string)) := owns_below HOC4_9.out bw (fun g hg => owns_lt HOC4_9.out hg)
      have HOP4_10 : Hid ((w10).ownsRow w.heap.size 67 2 (.slice oP4 n2 pP4) n2 (flatWrite ws)) := owns_below HOP4_9.out bw (fun g hg => owns_lt HOP4_9.out hg)
      have HOB5_10 : Hid ((w10).ownsRow w.heap.size 4 1 (.slice oB5 nK pB5) nK (ks.map Value.bool)) := owns_below HOB5_9.out bw (fun g hg => owns_lt HOB5_9.out hg)
      have HBv1_10 : Hid ((w10).heap[qv1]? = some (.cells #[.slice a1 n1 c1, .slice a2 n2 c2] 46)) := blk_below HBv1_9.out bw
      have HBv2_10 : Hid ((w10).heap[qv2]? = some (.cells #[.slice oX3 oc.length pX3, .slice oY3 ow.length pY3] 27)) := blk_below HBv2_9.out bw
      have HBv3_10 : Hid ((w10).heap[qv3]? = some (.cells #[.slice oC4 n1 pC4, .slice oP4 n2 pP4] 27)) := blk_below HBv3_9.out bw
      have HOX6_10 : Hid ((w10).ownsRow w.heap.size 9 1 (.slice oX6 oc.length pX6) oc.length (oc.map Value.string)) := owns_wide ownX6 hb9.size
      have LOX6 : Hid (∀ g, (Value.ownBlock (.slice oX6 oc.length pX6)) = some g → (w9).heap.size ≤ g) := fun g hg => owns_ge ownX6 hg
      have HIX6 : Hid (∀ g, (Value.ownBlock (.slice oX6 oc.length pX6)) = some g → g < (w10).heap.size) := fun g hg => owns_lt ownX6 hg
      clear ownX6
      have HOY6_10 : Hid ((w10).ownsRow w.heap.size 67 2 (.slice oY6 ow.length pY6) ow.length (flatWrite ow)) := owns_wide ownY6 hb9.size
      have LOY6 : Hid (∀ g, (Value.ownBlock (.slice oY6 ow.length pY6)) = some g → (w9).heap.size ≤ g) := fun g hg => owns_ge ownY6 hg
      have HIY6 : Hid (∀ g, (Value.ownBlock (.slice oY6 ow.length pY6)) = some g → g < (w10).heap.size) := fun g hg => owns_lt ownY6 hg
      clear ownY6
      clear hb9 HOC1_9 HOP1_9 HOB2_9 HOX3_9 HOY3_9 HOC4_9 HOP4_9 HOB5_9 HBv1_9 HBv2_9 HBv3_9 bw
      clear cv3_0 cv3_1
      go_upto_region 11 with fail
      obtain ⟨qv4, hqv4⟩ : ∃ q, q = (w10).heap.size := ⟨_, rfl⟩
      obtain ⟨w11, hW11⟩ : ∃ W, W = (w10).alloc (.cells #[.slice oX6 oc.length pX6, .slice oY6 ow.length pY6] 27) := ⟨_, rfl⟩
      have hz11 : (w10).heap.size = qv4 := hqv4.symm
      first | rw [← hW11, ← hqv4] | rw [← hW11]
      have hs11 : w11.heap.size = qv4 + 1 := by rw [hW11, ← hz11]; simp
      have bw : Below (w10).heap.size (w10) w11 := by rw [hW11]; exact (Below.refl _ _).alloc (Nat.le_refl _) _
      have hb11 : Below w.heap.size w (w11) := hb10.trans (bw.mono hb10.size)
      have HM11 : Hid ((w10).heap.size ≤ (w11).heap.size) := bw.size
      have HOC1_11 : Hid ((w11).ownsRow w.heap.size 9 1 (.slice oC1 n1 pC1) n1 (cs.map Value.string)) := owns_below HOC1_10.out bw (fun g hg => owns_lt HOC1_10.out hg)
      have HOP1_11 : Hid ((w11).ownsRow w.heap.size 67 2 (.slice oP1 n2 pP1) n2 (flatWrite ws)) := owns_below HOP1_10.out bw (fun g hg => owns_lt HOP1_10.out hg)
      have HOB2_11 : Hid ((w11).ownsRow w.heap.size 4 1 (.slice oB2 nK pB2) nK (ks.map Value.bool)) := owns_below HOB2_10.out bw (fun g hg => owns_lt HOB2_10.out hg)
      have HOX3_11 : Hid ((w11).ownsRow w.heap.size 9 1 (.slice oX3 oc.length pX3) oc.length (oc.map Value.string)) := owns_below HOX3_10.out bw (fun g hg => owns_lt HOX3_10.out hg)
      have HOY3_11 : Hid ((w11).ownsRow w.heap.size 67 2 (.slice oY3 ow.length pY3) ow.length (flatWrite ow)) := owns_below HOY3_10.out bw (fun g hg => owns_lt HOY3_10.out hg)
      have HOC4_11 : Hid ((w11).ownsRow w.heap.size 9 1 (.slice oC4 n1 pC4) n1 (cs.map Value.string)) := owns_below HOC4_10.out bw (fun g hg => owns_lt HOC4_10.out hg)
      have HOP4_11 : Hid ((w11).ownsRow w.heap.size 67 2 (.slice oP4 n2 pP4) n2 (flatWrite ws)) := owns_below HOP4_10.out bw (fun g hg => owns_lt HOP4_10.out hg)
      have HOB5_11 : Hid ((w11).ownsRow w.heap.size 4 1 (.slice oB5 nK pB5) nK (ks.map Value.bool)) := owns_below HOB5_10.out bw (fun g hg => owns_lt HOB5_10.out hg)
      have HOX6_11 : Hid ((w11).ownsRow w.heap.size 9 1 (.slice oX6 oc.length pX6) oc.length (oc.map Value.string)) := owns_below HOX6_10.out bw (fun g hg => owns_lt HOX6_10.out hg)
      have HOY6_11 : Hid ((w11).ownsRow w.heap.size 67 2 (.slice oY6 ow.length pY6) ow.length (flatWrite ow)) := owns_below HOY6_10.out bw (fun g hg => owns_lt HOY6_10.out hg)
      have HBv1_11 : Hid ((w11).heap[qv1]? = some (.cells #[.slice a1 n1 c1, .slice a2 n2 c2] 46)) := blk_below HBv1_10.out bw
      have HBv2_11 : Hid ((w11).heap[qv2]? = some (.cells #[.slice oX3 oc.length pX3, .slice oY3 ow.length pY3] 27)) := blk_below HBv2_10.out bw
      have HBv3_11 : Hid ((w11).heap[qv3]? = some (.cells #[.slice oC4 n1 pC4, .slice oP4 n2 pP4] 27)) := blk_below HBv3_10.out bw
      have HNv1v4 : Hid (qv1 ≠ qv4) := fun e => by have h1 := (Array.getElem?_eq_some_iff.1 HBv1_10.out).1; omega
      have HNv2v4 : Hid (qv2 ≠ qv4) := fun e => by have h1 := (Array.getElem?_eq_some_iff.1 HBv2_10.out).1; omega
      have HNv3v4 : Hid (qv3 ≠ qv4) := fun e => by have h1 := (Array.getElem?_eq_some_iff.1 HBv3_10.out).1; omega
      have HBv4_11 : Hid ((w11).heap[qv4]? = some (.cells #[.slice oX6 oc.length pX6, .slice oY6 ow.length pY6] 27)) := by show _ = _; rw [hW11, ← hz11]; exact heap_alloc_new _ _
      have HGv4 : Hid (w.heap.size ≤ qv4) := by show _ ≤ _; rw [← hz11]; exact hb10.size
      clear hb10 HOC1_10 HOP1_10 HOB2_10 HOX3_10 HOY3_10 HOC4_10 HOP4_10 HOB5_10 HOX6_10 HOY6_10 HBv1_10 HBv2_10 HBv3_10 bw hW11 hz11
      clear hs11 hqv4
      have cv2_0 : (w11).cell? ⟨qv2, 0, none⟩ = some (.slice oX3 oc.length pX3) := (cell_of HBv2_11.out 0).trans rfl
      have cv2_1 : (w11).cell? ⟨qv2, 1, none⟩ = some (.slice oY3 ow.length pY3) := (cell_of HBv2_11.out 1).trans rfl
      have cv4_0 : (w11).cell? ⟨qv4, 0, none⟩ = some (.slice oX6 oc.length pX6) := (cell_of HBv4_11.out 0).trans rfl
      have cv4_1 : (w11).cell? ⟨qv4, 1, none⟩ = some (.slice oY6 ow.length pY6) := (cell_of HBv4_11.out 1).trans rfl
      go_wp2_with fail
      refine (eqDisk_any oc.length oc ow.length ow _ _ _ _ _ _ _ ⟨HOX6_11.out, HOY6_11.out⟩ ⟨HOX3_11.out, HOY3_11.out⟩ (by have := HLV.out; omega) (by have := HLV.out; omega)).mono ?_
      rintro e w12 ⟨rfl, bw⟩
      have hb12 : Below w.heap.size w (w12) := hb11.trans (bw.mono hb11.size)
      have HM12 : Hid ((w11).heap.size ≤ (w12).heap.size) := bw.size
      have HOC1_12 : Hid ((w12).ownsRow w.heap.size 9 1 (.slice oC1 n1 pC1) n1 (cs.map Value.string)) := owns_below HOC1_11.out bw (fun g hg => owns_lt HOC1_11.out hg)
      have HOP1_12 : Hid ((w12).ownsRow w.heap.size 67 2 (.slice oP1 n2 pP1) n2 (flatWrite ws)) := owns_below HOP1_11.out bw (fun g hg => owns_lt HOP1_11.out hg)
      have HOB2_12 : Hid ((w12).ownsRow w.heap.size 4 1 (.slice oB2 nK pB2) nK (ks.map Value.bool)) := owns_below HOB2_11.out bw (fun g hg => owns_lt HOB2_11.out hg)
      have HOX3_12 : Hid ((w12).ownsRow w.heap.size 9 1 (.slice oX3 oc.length pX3) oc.length (oc.map Value.string)) := owns_below HOX3_11.out bw (fun g hg => owns_lt HOX3_11.out hg)
      have HOY3_12 : Hid ((w12).ownsRow w.heap.size 67 2 (.slice oY3 ow.length pY3) ow.length (flatWrite ow)) := owns_below HOY3_11.out bw (fun g hg => owns_lt HOY3_11.out hg)
      have HOC4_12 : Hid ((w12).ownsRow w.heap.size 9 1 (.slice oC4 n1 pC4) n1 (cs.map Value.string)) := owns_below HOC4_11.out bw (fun g hg => owns_lt HOC4_11.out hg)
      have HOP4_12 : Hid ((w12).ownsRow w.heap.size 67 2 (.slice oP4 n2 pP4) n2 (flatWrite ws)) := owns_below HOP4_11.out bw (fun g hg => owns_lt HOP4_11.out hg)
      have HOB5_12 : Hid ((w12).ownsRow w.heap.size 4 1 (.slice oB5 nK pB5) nK (ks.map Value.bool)) := owns_below HOB5_11.out bw (fun g hg => owns_lt HOB5_11.out hg)
      have HOX6_12 : Hid ((w12).ownsRow w.heap.size 9 1 (.slice oX6 oc.length pX6) oc.length (oc.map Value.string)) := owns_below HOX6_11.out bw (fun g hg => owns_lt HOX6_11.out hg)
      have HOY6_12 : Hid ((w12).ownsRow w.heap.size 67 2 (.slice oY6 ow.length pY6) ow.length (flatWrite ow)) := owns_below HOY6_11.out bw (fun g hg => owns_lt HOY6_11.out hg)
      have HBv1_12 : Hid ((w12).heap[qv1]? = some (.cells #[.slice a1 n1 c1, .slice a2 n2 c2] 46)) := blk_below HBv1_11.out bw
      have HBv2_12 : Hid ((w12).heap[qv2]? = some (.cells #[.slice oX3 oc.length pX3, .slice oY3 ow.length pY3] 27)) := blk_below HBv2_11.out bw
      have HBv3_12 : Hid ((w12).heap[qv3]? = some (.cells #[.slice oC4 n1 pC4, .slice oP4 n2 pP4] 27)) := blk_below HBv3_11.out bw
      have HBv4_12 : Hid ((w12).heap[qv4]? = some (.cells #[.slice oX6 oc.length pX6, .slice oY6 ow.length pY6] 27)) := blk_below HBv4_11.out bw
      clear hb11 HOC1_11 HOP1_11 HOB2_11 HOX3_11 HOY3_11 HOC4_11 HOP4_11 HOB5_11 HOX6_11 HOY6_11 HBv1_11 HBv2_11 HBv3_11 HBv4_11 bw
      clear cv2_0 cv2_1 cv4_0 cv4_1
      go_upto_region 13 with fail
      refine wp_region_held_drew (S := fun W => W.heap[qv3]? = some (.cells #[.slice oC4 n1 pC4, .slice oP4 n2 pP4] 27) ∧ W.heap[qv1]? = some (.cells #[.slice a1 n1 c1, .slice a2 n2 c2] 46)) (by kernel_rfl) ⟨HBv3_12.out, HBv1_12.out⟩ (fun _ => ?_)
      obtain ⟨w13, hX⟩ : ∃ X, X = w12.drew := ⟨_, rfl⟩
      have bw : Below w12.heap.size w12 w13 := by rw [hX]; exact (Below.refl _ _).drew
      rw [← hX]
      have hb13 : Below w.heap.size w (w13) := hb12.trans (bw.mono hb12.size)
      have HM13 : Hid ((w12).heap.size ≤ (w13).heap.size) := bw.size
      have HOC1_13 : Hid ((w13).ownsRow w.heap.size 9 1 (.slice oC1 n1 pC1) n1 (cs.map Value.string)) := owns_below HOC1_12.out bw (fun g hg => owns_lt HOC1_12.out hg)
      have HOP1_13 : Hid ((w13).ownsRow w.heap.size 67 2 (.slice oP1 n2 pP1) n2 (flatWrite ws)) := owns_below HOP1_12.out bw (fun g hg => owns_lt HOP1_12.out hg)
      have HOB2_13 : Hid ((w13).ownsRow w.heap.size 4 1 (.slice oB2 nK pB2) nK (ks.map Value.bool)) := owns_below HOB2_12.out bw (fun g hg => owns_lt HOB2_12.out hg)
      have HOX3_13 : Hid ((w13).ownsRow w.heap.size 9 1 (.slice oX3 oc.length pX3) oc.length (oc.map Value.string)) := owns_below HOX3_12.out bw (fun g hg => owns_lt HOX3_12.out hg)
      have HOY3_13 : Hid ((w13).ownsRow w.heap.size 67 2 (.slice oY3 ow.length pY3) ow.length (flatWrite ow)) := owns_below HOY3_12.out bw (fun g hg => owns_lt HOY3_12.out hg)
      have HOC4_13 : Hid ((w13).ownsRow w.heap.size 9 1 (.slice oC4 n1 pC4) n1 (cs.map Value.string)) := owns_below HOC4_12.out bw (fun g hg => owns_lt HOC4_12.out hg)
      have HOP4_13 : Hid ((w13).ownsRow w.heap.size 67 2 (.slice oP4 n2 pP4) n2 (flatWrite ws)) := owns_below HOP4_12.out bw (fun g hg => owns_lt HOP4_12.out hg)
      have HOB5_13 : Hid ((w13).ownsRow w.heap.size 4 1 (.slice oB5 nK pB5) nK (ks.map Value.bool)) := owns_below HOB5_12.out bw (fun g hg => owns_lt HOB5_12.out hg)
      have HOX6_13 : Hid ((w13).ownsRow w.heap.size 9 1 (.slice oX6 oc.length pX6) oc.length (oc.map Value.string)) := owns_below HOX6_12.out bw (fun g hg => owns_lt HOX6_12.out hg)
      have HOY6_13 : Hid ((w13).ownsRow w.heap.size 67 2 (.slice oY6 ow.length pY6) ow.length (flatWrite ow)) := owns_below HOY6_12.out bw (fun g hg => owns_lt HOY6_12.out hg)
      have HBv1_13 : Hid ((w13).heap[qv1]? = some (.cells #[.slice a1 n1 c1, .slice a2 n2 c2] 46)) := blk_below HBv1_12.out bw
      have HBv2_13 : Hid ((w13).heap[qv2]? = some (.cells #[.slice oX3 oc.length pX3, .slice oY3 ow.length pY3] 27)) := blk_below HBv2_12.out bw
      have HBv3_13 : Hid ((w13).heap[qv3]? = some (.cells #[.slice oC4 n1 pC4, .slice oP4 n2 pP4] 27)) := blk_below HBv3_12.out bw
      have HBv4_13 : Hid ((w13).heap[qv4]? = some (.cells #[.slice oX6 oc.length pX6, .slice oY6 ow.length pY6] 27)) := blk_below HBv4_12.out bw
      have hS13 : w13.heap[qv3]? = some (.cells #[.slice oC4 n1 pC4, .slice oP4 n2 pP4] 27) ∧ w13.heap[qv1]? = some (.cells #[.slice a1 n1 c1, .slice a2 n2 c2] 46) := ⟨HBv3_13.out, HBv1_13.out⟩
      clear hb12 HOC1_12 HOP1_12 HOB2_12 HOX3_12 HOY3_12 HOC4_12 HOP4_12 HOB5_12 HOX6_12 HOY6_12 HBv1_12 HBv2_12 HBv3_12 HBv4_12 bw hX
      refine wpAnyH_takeD (i := 0) (v := .agg #[.slice oC4 n1 pC4, .slice oP4 n2 pP4]) (some 38) rfl rfl (by kernel_rfl) (by kernel_rfl) (by kernel_rfl) (fun _ _ _ h => h) (Or.inl ⟨by rfl, by intro W hW; obtain ⟨hhv3, hhv1⟩ := hW; have y0 := (cell_of hhv3 0).trans rfl; have y1 := (cell_of hhv3 1).trans rfl; go_simp⟩) hS13 ?_
      simp only [Act.put, List.setIfInBounds_toArray, List.set_cons_zero, List.set_cons_succ]
      refine wpAnyH_takeD (i := 1) (v := .agg #[.slice a1 n1 c1, .slice a2 n2 c2]) (some 39) rfl rfl (by kernel_rfl) (by kernel_rfl) (by kernel_rfl) (fun _ _ _ h => h) (Or.inl ⟨by rfl, by intro W hW; obtain ⟨hhv3, hhv1⟩ := hW; have y0 := (cell_of hhv1 0).trans rfl; have y1 := (cell_of hhv1 1).trans rfl; go_simp⟩) hS13 ?_
      simp only [Act.put, List.setIfInBounds_toArray, List.set_cons_zero, List.set_cons_succ]
      refine wpAnyH_ready (rs := [2]) (by kernel_rfl) (by simp) ?_
      refine AllReadyH.cons rfl (fun K hK => ?_) AllReadyH.nil
      go_simp
      refine (toDisk_any a1 n1 c1 cs a2 n2 c2 ws w.heap.size _ (HA1.out _ hb13) (HA2.out _ hb13) hb13.size hm1 hm2).mono ?_
      rintro e w14 ⟨vv1, vv2, rfl, ⟨ownC7, ownP7⟩, bw⟩
      obtain ⟨oC7, pC7, rfl⟩ := slice_of_owns ownC7
      obtain ⟨oP7, pP7, rfl⟩ := slice_of_owns ownP7
      have hb14 : Below w.heap.size w (w14) := hb13.trans (bw.mono hb13.size)
      have HM14 : Hid ((w13).heap.size ≤ (w14).heap.size) := bw.size
      have HOC1_14 : Hid ((w14).ownsRow w.heap.size 9 1 (.slice oC1 n1 pC1) n1 (cs.map Value.string)) := owns_below HOC1_13.out bw (fun g hg => owns_lt HOC1_13.out hg)
      have HOP1_14 : Hid ((w14).ownsRow w.heap.size 67 2 (.slice oP1 n2 pP1) n2 (flatWrite ws)) := owns_below HOP1_13.out bw (fun g hg => owns_lt HOP1_13.out hg)
      have HOB2_14 : Hid ((w14).ownsRow w.heap.size 4 1 (.slice oB2 nK pB2) nK (ks.map Value.bool)) := owns_below HOB2_13.out bw (fun g hg => owns_lt HOB2_13.out hg)
      have HOX3_14 : Hid ((w14).ownsRow w.heap.size 9 1 (.slice oX3 oc.length pX3) oc.length (oc.map Value.string)) := owns_below HOX3_13.out bw (fun g hg => owns_lt HOX3_13.out hg)
      have HOY3_14 : Hid ((w14).ownsRow w.heap.size 67 2 (.slice oY3 ow.length pY3) ow.length (flatWrite ow)) := owns_below HOY3_13.out bw (fun g hg => owns_lt HOY3_13.out hg)
      have HOC4_14 : Hid ((w14).ownsRow w.heap.size 9 1 (.slice oC4 n1 pC4) n1 (cs.map Value.string)) := owns_below HOC4_13.out bw (fun g hg => owns_lt HOC4_13.out hg)
      have HOP4_14 : Hid ((w14).ownsRow w.heap.size 67 2 (.slice oP4 n2 pP4) n2 (flatWrite ws)) := owns_below HOP4_13.out bw (fun g hg => owns_lt HOP4_13.out hg)
      have HOB5_14 : Hid ((w14).ownsRow w.heap.size 4 1 (.slice oB5 nK pB5) nK (ks.map Value.bool)) := owns_below HOB5_13.out bw (fun g hg => owns_lt HOB5_13.out hg)
      have HOX6_14 : Hid ((w14).ownsRow w.heap.size 9 1 (.slice oX6 oc.length pX6) oc.length (oc.map Value.string)) := owns_below HOX6_13.out bw (fun g hg => owns_lt HOX6_13.out hg)
      have HOY6_14 : Hid ((w14).ownsRow w.heap.size 67 2 (.slice oY6 ow.length pY6) ow.length (flatWrite ow)) := owns_below HOY6_13.out bw (fun g hg => owns_lt HOY6_13.out hg)
      have HBv1_14 : Hid ((w14).heap[qv1]? = some (.cells #[.slice a1 n1 c1, .slice a2 n2 c2] 46)) := blk_below HBv1_13.out bw
      have HBv2_14 : Hid ((w14).heap[qv2]? = some (.cells #[.slice oX3 oc.length pX3, .slice oY3 ow.length pY3] 27)) := blk_below HBv2_13.out bw
      have HBv3_14 : Hid ((w14).heap[qv3]? = some (.cells #[.slice oC4 n1 pC4, .slice oP4 n2 pP4] 27)) := blk_below HBv3_13.out bw
      have HBv4_14 : Hid ((w14).heap[qv4]? = some (.cells #[.slice oX6 oc.length pX6, .slice oY6 ow.length pY6] 27)) := blk_below HBv4_13.out bw
      have HOC7_14 : Hid ((w14).ownsRow w.heap.size 9 1 (.slice oC7 n1 pC7) n1 (cs.map Value.string)) := owns_wide ownC7 hb13.size
      have LOC7 : Hid (∀ g, (Value.ownBlock (.slice oC7 n1 pC7)) = some g → (w13).heap.size ≤ g) := fun g hg => owns_ge ownC7 hg
      have HIC7 : Hid (∀ g, (Value.ownBlock (.slice oC7 n1 pC7)) = some g → g < (w14).heap.size) := fun g hg => owns_lt ownC7 hg
      clear ownC7
      have HOP7_14 : Hid ((w14).ownsRow w.heap.size 67 2 (.slice oP7 n2 pP7) n2 (flatWrite ws)) := owns_wide ownP7 hb13.size
      have LOP7 : Hid (∀ g, (Value.ownBlock (.slice oP7 n2 pP7)) = some g → (w13).heap.size ≤ g) := fun g hg => owns_ge ownP7 hg
      have HIP7 : Hid (∀ g, (Value.ownBlock (.slice oP7 n2 pP7)) = some g → g < (w14).heap.size) := fun g hg => owns_lt ownP7 hg
      clear ownP7
      clear hb13 HOC1_13 HOP1_13 HOB2_13 HOX3_13 HOY3_13 HOC4_13 HOP4_13 HOB5_13 HOX6_13 HOY6_13 HBv1_13 HBv2_13 HBv3_13 HBv4_13 bw
      have hS14 : w14.heap[qv3]? = some (.cells #[.slice oC4 n1 pC4, .slice oP4 n2 pP4] 27) ∧ w14.heap[qv1]? = some (.cells #[.slice a1 n1 c1, .slice a2 n2 c2] 46) := ⟨HBv3_14.out, HBv1_14.out⟩
      refine hK.out _ _ hS14 (fun _ => ?_)
      clear hK K hS13
      refine wpAnyH_ready (rs := [3]) (by kernel_rfl) (by simp) ?_
      refine AllReadyH.cons rfl (fun K hK => ?_) AllReadyH.nil
      go_simp
      refine (eqDisk_any n1 cs n2 ws _ _ _ _ _ _ _ ⟨HOC4_14.out, HOP4_14.out⟩ ⟨HOC7_14.out, HOP7_14.out⟩ (by have := HLV.out; omega) (by have := HLV.out; omega)).mono ?_
      rintro e w15 ⟨rfl, bw⟩
      have hb15 : Below w.heap.size w (w15) := hb14.trans (bw.mono hb14.size)
      have HM15 : Hid ((w14).heap.size ≤ (w15).heap.size) := bw.size
      have HOC1_15 : Hid ((w15).ownsRow w.heap.size 9 1 (.slice oC1 n1 pC1) n1 (cs.map Value.string)) := owns_below HOC1_14.out bw (fun g hg => owns_lt HOC1_14.out hg)
      have HOP1_15 : Hid ((w15).ownsRow w.heap.size 67 2 (.slice oP1 n2 pP1) n2 (flatWrite ws)) := owns_below HOP1_14.out bw (fun g hg => owns_lt HOP1_14.out hg)
      have HOB2_15 : Hid ((w15).ownsRow w.heap.size 4 1 (.slice oB2 nK pB2) nK (ks.map Value.bool)) := owns_below HOB2_14.out bw (fun g hg => owns_lt HOB2_14.out hg)
      have HOX3_15 : Hid ((w15).ownsRow w.heap.size 9 1 (.slice oX3 oc.length pX3) oc.length (oc.map Value.string)) := owns_below HOX3_14.out bw (fun g hg => owns_lt HOX3_14.out hg)
      have HOY3_15 : Hid ((w15).ownsRow w.heap.size 67 2 (.slice oY3 ow.length pY3) ow.length (flatWrite ow)) := owns_below HOY3_14.out bw (fun g hg => owns_lt HOY3_14.out hg)
      have HOC4_15 : Hid ((w15).ownsRow w.heap.size 9 1 (.slice oC4 n1 pC4) n1 (cs.map Value.string)) := owns_below HOC4_14.out bw (fun g hg => owns_lt HOC4_14.out hg)
      have HOP4_15 : Hid ((w15).ownsRow w.heap.size 67 2 (.slice oP4 n2 pP4) n2 (flatWrite ws)) := owns_below HOP4_14.out bw (fun g hg => owns_lt HOP4_14.out hg)
      have HOB5_15 : Hid ((w15).ownsRow w.heap.size 4 1 (.slice oB5 nK pB5) nK (ks.map Value.bool)) := owns_below HOB5_14.out bw (fun g hg => owns_lt HOB5_14.out hg)
      have HOX6_15 : Hid ((w15).ownsRow w.heap.size 9 1 (.slice oX6 oc.length pX6) oc.length (oc.map Value.string)) := owns_below HOX6_14.out bw (fun g hg => owns_lt HOX6_14.out hg)
      have HOY6_15 : Hid ((w15).ownsRow w.heap.size 67 2 (.slice oY6 ow.length pY6) ow.length (flatWrite ow)) := owns_below HOY6_14.out bw (fun g hg => owns_lt HOY6_14.out hg)
      have HOC7_15 : Hid ((w15).ownsRow w.heap.size 9 1 (.slice oC7 n1 pC7) n1 (cs.map Value.string)) := owns_below HOC7_14.out bw (fun g hg => owns_lt HOC7_14.out hg)
      have HOP7_15 : Hid ((w15).ownsRow w.heap.size 67 2 (.slice oP7 n2 pP7) n2 (flatWrite ws)) := owns_below HOP7_14.out bw (fun g hg => owns_lt HOP7_14.out hg)
      have HBv1_15 : Hid ((w15).heap[qv1]? = some (.cells #[.slice a1 n1 c1, .slice a2 n2 c2] 46)) := blk_below HBv1_14.out bw
      have HBv2_15 : Hid ((w15).heap[qv2]? = some (.cells #[.slice oX3 oc.length pX3, .slice oY3 ow.length pY3] 27)) := blk_below HBv2_14.out bw
      have HBv3_15 : Hid ((w15).heap[qv3]? = some (.cells #[.slice oC4 n1 pC4, .slice oP4 n2 pP4] 27)) := blk_below HBv3_14.out bw
      have HBv4_15 : Hid ((w15).heap[qv4]? = some (.cells #[.slice oX6 oc.length pX6, .slice oY6 ow.length pY6] 27)) := blk_below HBv4_14.out bw
      clear hb14 HOC1_14 HOP1_14 HOB2_14 HOX3_14 HOY3_14 HOC4_14 HOP4_14 HOB5_14 HOX6_14 HOY6_14 HOC7_14 HOP7_14 HBv1_14 HBv2_14 HBv3_14 HBv4_14 bw
      have hS15 : w15.heap[qv3]? = some (.cells #[.slice oC4 n1 pC4, .slice oP4 n2 pP4] 27) ∧ w15.heap[qv1]? = some (.cells #[.slice a1 n1 c1, .slice a2 n2 c2] 46) := ⟨HBv3_15.out, HBv1_15.out⟩
      refine hK.out _ _ hS15 (fun _ => ?_)
      clear hK K hS14
      refine wpAnyH_takeD (i := 4) (v := .bool false) (some 42) rfl rfl (by kernel_rfl) (by kernel_rfl) (by kernel_rfl) (fun _ _ _ h => h) (Or.inl ⟨by rfl, by intro W _; go_simp⟩) hS15 ?_
      simp only [Act.put, List.setIfInBounds_toArray, List.set_cons_zero, List.set_cons_succ]
      clear hS15
      refine wpAnyH_done (by kernel_rfl) ?_ _
      go_wp2_with fail
      refine (toBoolS_any w.heap.size aK nK cK ks _ (HAK.out _ hb15) hb15.size (by omega)).mono ?_
      rintro e w16 ⟨vv, rfl, ownB8, bw⟩
      obtain ⟨oB8, pB8, rfl⟩ := slice_of_owns ownB8
      have hb16 : Below w.heap.size w (w16) := hb15.trans (bw.mono hb15.size)
      have HM16 : Hid ((w15).heap.size ≤ (w16).heap.size) := bw.size
      have HOC1_16 : Hid ((w16).ownsRow w.heap.size 9 1 (.slice oC1 n1 pC1) n1 (cs.map Value.string)) := owns_below HOC1_15.out bw (fun g hg => owns_lt HOC1_15.out hg)
      have HOP1_16 : Hid ((w16).ownsRow w.heap.size 67 2 (.slice oP1 n2 pP1) n2 (flatWrite ws)) := owns_below HOP1_15.out bw (fun g hg => owns_lt HOP1_15.out hg)
      have HOB2_16 : Hid ((w16).ownsRow w.heap.size 4 1 (.slice oB2 nK pB2) nK (ks.map Value.bool)) := owns_below HOB2_15.out bw (fun g hg => owns_lt HOB2_15.out hg)
      have HOX3_16 : Hid ((w16).ownsRow w.heap.size 9 1 (.slice oX3 oc.length pX3) oc.length (oc.map Value.string)) := owns_below HOX3_15.out bw (fun g hg => owns_lt HOX3_15.out hg)
      have HOY3_16 : Hid ((w16).ownsRow w.heap.size 67 2 (.slice oY3 ow.length pY3) ow.length (flatWrite ow)) := owns_below HOY3_15.out bw (fun g hg => owns_lt HOY3_15.out hg)
      have HOC4_16 : Hid ((w16).ownsRow w.heap.size 9 1 (.slice oC4 n1 pC4) n1 (cs.map Value.string)) := owns_below HOC4_15.out bw (fun g hg => owns_lt HOC4_15.out hg)
      have HOP4_16 : Hid ((w16).ownsRow w.heap.size 67 2 (.slice oP4 n2 pP4) n2 (flatWrite ws)) := owns_below HOP4_15.out bw (fun g hg => owns_lt HOP4_15.out hg)
      have HOB5_16 : Hid ((w16).ownsRow w.heap.size 4 1 (.slice oB5 nK pB5) nK (ks.map Value.bool)) := owns_below HOB5_15.out bw (fun g hg => owns_lt HOB5_15.out hg)
      have HOX6_16 : Hid ((w16).ownsRow w.heap.size 9 1 (.slice oX6 oc.length pX6) oc.length (oc.map Value.string)) := owns_below HOX6_15.out bw (fun g hg => owns_lt HOX6_15.out hg)
      have HOY6_16 : Hid ((w16).ownsRow w.heap.size 67 2 (.slice oY6 ow.length pY6) ow.length (flatWrite ow)) := owns_below HOY6_15.out bw (fun g hg => owns_lt HOY6_15.out hg)
      have HOC7_16 : Hid ((w16).ownsRow w.heap.size 9 1 (.slice oC7 n1 pC7) n1 (cs.map Value.string)) := owns_below HOC7_15.out bw (fun g hg => owns_lt HOC7_15.out hg)
      have HOP7_16 : Hid ((w16).ownsRow w.heap.size 67 2 (.slice oP7 n2 pP7) n2 (flatWrite ws)) := owns_below HOP7_15.out bw (fun g hg => owns_lt HOP7_15.out hg)
      have HBv1_16 : Hid ((w16).heap[qv1]? = some (.cells #[.slice a1 n1 c1, .slice a2 n2 c2] 46)) := blk_below HBv1_15.out bw
      have HBv2_16 : Hid ((w16).heap[qv2]? = some (.cells #[.slice oX3 oc.length pX3, .slice oY3 ow.length pY3] 27)) := blk_below HBv2_15.out bw
      have HBv3_16 : Hid ((w16).heap[qv3]? = some (.cells #[.slice oC4 n1 pC4, .slice oP4 n2 pP4] 27)) := blk_below HBv3_15.out bw
      have HBv4_16 : Hid ((w16).heap[qv4]? = some (.cells #[.slice oX6 oc.length pX6, .slice oY6 ow.length pY6] 27)) := blk_below HBv4_15.out bw
      have HOB8_16 : Hid ((w16).ownsRow w.heap.size 4 1 (.slice oB8 nK pB8) nK (ks.map Value.bool)) := owns_wide ownB8 hb15.size
      have LOB8 : Hid (∀ g, (Value.ownBlock (.slice oB8 nK pB8)) = some g → (w15).heap.size ≤ g) := fun g hg => owns_ge ownB8 hg
      have HIB8 : Hid (∀ g, (Value.ownBlock (.slice oB8 nK pB8)) = some g → g < (w16).heap.size) := fun g hg => owns_lt ownB8 hg
      clear ownB8
      clear hb15 HOC1_15 HOP1_15 HOB2_15 HOX3_15 HOY3_15 HOC4_15 HOP4_15 HOB5_15 HOX6_15 HOY6_15 HOC7_15 HOP7_15 HBv1_15 HBv2_15 HBv3_15 HBv4_15 bw
      go_wp2_with fail
      refine (eqBoolS_any _ _ nK _ _ ks _ (bool_view HOB5_16.out) (bool_view HOB8_16.out) (by omega)).mono ?_
      rintro e w17 ⟨rfl, bw⟩
      have hb17 : Below w.heap.size w (w17) := hb16.trans (bw.mono hb16.size)
      have HM17 : Hid ((w16).heap.size ≤ (w17).heap.size) := bw.size
      have HOC1_17 : Hid ((w17).ownsRow w.heap.size 9 1 (.slice oC1 n1 pC1) n1 (cs.map Value.string)) := owns_below HOC1_16.out bw (fun g hg => owns_lt HOC1_16.out hg)
      have HOP1_17 : Hid ((w17).ownsRow w.heap.size 67 2 (.slice oP1 n2 pP1) n2 (flatWrite ws)) := owns_below HOP1_16.out bw (fun g hg => owns_lt HOP1_16.out hg)
      have HOB2_17 : Hid ((w17).ownsRow w.heap.size 4 1 (.slice oB2 nK pB2) nK (ks.map Value.bool)) := owns_below HOB2_16.out bw (fun g hg => owns_lt HOB2_16.out hg)
      have HOX3_17 : Hid ((w17).ownsRow w.heap.size 9 1 (.slice oX3 oc.length pX3) oc.length (oc.map Value.string)) := owns_below HOX3_16.out bw (fun g hg => owns_lt HOX3_16.out hg)
      have HOY3_17 : Hid ((w17).ownsRow w.heap.size 67 2 (.slice oY3 ow.length pY3) ow.length (flatWrite ow)) := owns_below HOY3_16.out bw (fun g hg => owns_lt HOY3_16.out hg)
      have HOC4_17 : Hid ((w17).ownsRow w.heap.size 9 1 (.slice oC4 n1 pC4) n1 (cs.map Value.string)) := owns_below HOC4_16.out bw (fun g hg => owns_lt HOC4_16.out hg)
      have HOP4_17 : Hid ((w17).ownsRow w.heap.size 67 2 (.slice oP4 n2 pP4) n2 (flatWrite ws)) := owns_below HOP4_16.out bw (fun g hg => owns_lt HOP4_16.out hg)
      have HOB5_17 : Hid ((w17).ownsRow w.heap.size 4 1 (.slice oB5 nK pB5) nK (ks.map Value.bool)) := owns_below HOB5_16.out bw (fun g hg => owns_lt HOB5_16.out hg)
      have HOX6_17 : Hid ((w17).ownsRow w.heap.size 9 1 (.slice oX6 oc.length pX6) oc.length (oc.map Value.string)) := owns_below HOX6_16.out bw (fun g hg => owns_lt HOX6_16.out hg)
      have HOY6_17 : Hid ((w17).ownsRow w.heap.size 67 2 (.slice oY6 ow.length pY6) ow.length (flatWrite ow)) := owns_below HOY6_16.out bw (fun g hg => owns_lt HOY6_16.out hg)
      have HOC7_17 : Hid ((w17).ownsRow w.heap.size 9 1 (.slice oC7 n1 pC7) n1 (cs.map Value.string)) := owns_below HOC7_16.out bw (fun g hg => owns_lt HOC7_16.out hg)
      have HOP7_17 : Hid ((w17).ownsRow w.heap.size 67 2 (.slice oP7 n2 pP7) n2 (flatWrite ws)) := owns_below HOP7_16.out bw (fun g hg => owns_lt HOP7_16.out hg)
      have HOB8_17 : Hid ((w17).ownsRow w.heap.size 4 1 (.slice oB8 nK pB8) nK (ks.map Value.bool)) := owns_below HOB8_16.out bw (fun g hg => owns_lt HOB8_16.out hg)
      have HBv1_17 : Hid ((w17).heap[qv1]? = some (.cells #[.slice a1 n1 c1, .slice a2 n2 c2] 46)) := blk_below HBv1_16.out bw
      have HBv2_17 : Hid ((w17).heap[qv2]? = some (.cells #[.slice oX3 oc.length pX3, .slice oY3 ow.length pY3] 27)) := blk_below HBv2_16.out bw
      have HBv3_17 : Hid ((w17).heap[qv3]? = some (.cells #[.slice oC4 n1 pC4, .slice oP4 n2 pP4] 27)) := blk_below HBv3_16.out bw
      have HBv4_17 : Hid ((w17).heap[qv4]? = some (.cells #[.slice oX6 oc.length pX6, .slice oY6 ow.length pY6] 27)) := blk_below HBv4_16.out bw
      clear hb16 HOC1_16 HOP1_16 HOB2_16 HOX3_16 HOY3_16 HOC4_16 HOP4_16 HOB5_16 HOX6_16 HOY6_16 HOC7_16 HOP7_16 HOB8_16 HBv1_16 HBv2_16 HBv3_16 HBv4_16 bw
      have cv3_0 : (w17).cell? ⟨qv3, 0, none⟩ = some (.slice oC4 n1 pC4) := (cell_of HBv3_17.out 0).trans rfl
      have cv3_1 : (w17).cell? ⟨qv3, 1, none⟩ = some (.slice oP4 n2 pP4) := (cell_of HBv3_17.out 1).trans rfl
      go_wp2_with fail
      refine (markDisk_any n1 cs n2 ws _ _ _ _ ⟨HOC4_17.out, HOP4_17.out⟩ hb17.size 1 (by omega) (by have := HLV.out; omega)).mono ?_
      rintro e w18 ⟨rfl, ⟨mk0, mk1⟩, bm, far⟩
      have hb18 : Below w.heap.size w w18 := hb17.trans bm
      have HM18 : Hid ((w17).heap.size ≤ w18.heap.size) := bm.size
      have HOC1_18 : Hid ((w18).ownsRow w.heap.size 9 1 (.slice oC1 n1 pC1) n1 (cs.map Value.string)) := owns_same HOC1_17.out (fun g hg => far g (owns_lt HOC1_17.out hg) (fun e => by have h1 := LOC4.out g e; have h2 := HIC1.out g hg; have := HM4.out; have := HM5.out; have := HM6.out; have := HM7.out; omega) (own_type_ne HOC1_17.out HOP4_17.out (by decide) g hg))
      have HOP1_18 : Hid ((w18).ownsRow w.heap.size 67 2 (.slice oP1 n2 pP1) n2 (flatWrite ws)) := owns_same HOP1_17.out (fun g hg => far g (owns_lt HOP1_17.out hg) (own_type_ne HOP1_17.out HOC4_17.out (by decide) g hg) (fun e => by have h1 := LOP4.out g e; have h2 := HIP1.out g hg; have := HM4.out; have := HM5.out; have := HM6.out; have := HM7.out; omega))
      have HOB2_18 : Hid ((w18).ownsRow w.heap.size 4 1 (.slice oB2 nK pB2) nK (ks.map Value.bool)) := owns_same HOB2_17.out (fun g hg => far g (owns_lt HOB2_17.out hg) (own_type_ne HOB2_17.out HOC4_17.out (by decide) g hg) (own_type_ne HOB2_17.out HOP4_17.out (by decide) g hg))
      have HOX3_18 : Hid ((w18).ownsRow w.heap.size 9 1 (.slice oX3 oc.length pX3) oc.length (oc.map Value.string)) := owns_same HOX3_17.out (fun g hg => far g (owns_lt HOX3_17.out hg) (fun e => by have h1 := LOC4.out g e; have h2 := HIX3.out g hg; have := HM6.out; have := HM7.out; omega) (own_type_ne HOX3_17.out HOP4_17.out (by decide) g hg))
      have HOY3_18 : Hid ((w18).ownsRow w.heap.size 67 2 (.slice oY3 ow.length pY3) ow.length (flatWrite ow)) := owns_same HOY3_17.out (fun g hg => far g (owns_lt HOY3_17.out hg) (own_type_ne HOY3_17.out HOC4_17.out (by decide) g hg) (fun e => by have h1 := LOP4.out g e; have h2 := HIY3.out g hg; have := HM6.out; have := HM7.out; omega))
      have HOB5_18 : Hid ((w18).ownsRow w.heap.size 4 1 (.slice oB5 nK pB5) nK (ks.map Value.bool)) := owns_same HOB5_17.out (fun g hg => far g (owns_lt HOB5_17.out hg) (own_type_ne HOB5_17.out HOC4_17.out (by decide) g hg) (own_type_ne HOB5_17.out HOP4_17.out (by decide) g hg))
      have HOX6_18 : Hid ((w18).ownsRow w.heap.size 9 1 (.slice oX6 oc.length pX6) oc.length (oc.map Value.string)) := owns_same HOX6_17.out (fun g hg => far g (owns_lt HOX6_17.out hg) (fun e => by have h1 := LOX6.out g hg; have h2 := HIC4.out g e; have := HM8.out; have := HM9.out; have := HM10.out; omega) (own_type_ne HOX6_17.out HOP4_17.out (by decide) g hg))
      have HOY6_18 : Hid ((w18).ownsRow w.heap.size 67 2 (.slice oY6 ow.length pY6) ow.length (flatWrite ow)) := owns_same HOY6_17.out (fun g hg => far g (owns_lt HOY6_17.out hg) (own_type_ne HOY6_17.out HOC4_17.out (by decide) g hg) (fun e => by have h1 := LOY6.out g hg; have h2 := HIP4.out g e; have := HM8.out; have := HM9.out; have := HM10.out; omega))
      have HOC7_18 : Hid ((w18).ownsRow w.heap.size 9 1 (.slice oC7 n1 pC7) n1 (cs.map Value.string)) := owns_same HOC7_17.out (fun g hg => far g (owns_lt HOC7_17.out hg) (fun e => by have h1 := LOC7.out g hg; have h2 := HIC4.out g e; have := HM8.out; have := HM9.out; have := HM10.out; have := HM11.out; have := HM12.out; have := HM13.out; have := HM14.out; omega) (own_type_ne HOC7_17.out HOP4_17.out (by decide) g hg))
      have HOP7_18 : Hid ((w18).ownsRow w.heap.size 67 2 (.slice oP7 n2 pP7) n2 (flatWrite ws)) := owns_same HOP7_17.out (fun g hg => far g (owns_lt HOP7_17.out hg) (own_type_ne HOP7_17.out HOC4_17.out (by decide) g hg) (fun e => by have h1 := LOP7.out g hg; have h2 := HIP4.out g e; have := HM8.out; have := HM9.out; have := HM10.out; have := HM11.out; have := HM12.out; have := HM13.out; have := HM14.out; omega))
      have HOB8_18 : Hid ((w18).ownsRow w.heap.size 4 1 (.slice oB8 nK pB8) nK (ks.map Value.bool)) := owns_same HOB8_17.out (fun g hg => far g (owns_lt HOB8_17.out hg) (own_type_ne HOB8_17.out HOC4_17.out (by decide) g hg) (own_type_ne HOB8_17.out HOP4_17.out (by decide) g hg))
      have HBv1_18 : Hid ((w18).heap[qv1]? = some (.cells #[.slice a1 n1 c1, .slice a2 n2 c2] 46)) := (far _ (Array.getElem?_eq_some_iff.1 HBv1_17.out).1 (fun e => own_ne HOC4_17.out HBv1_17.out (by decide) _ e rfl) (fun e => own_ne HOP4_17.out HBv1_17.out (by decide) _ e rfl)).trans HBv1_17.out
      have HBv2_18 : Hid ((w18).heap[qv2]? = some (.cells #[.slice oX3 oc.length pX3, .slice oY3 ow.length pY3] 27)) := (far _ (Array.getElem?_eq_some_iff.1 HBv2_17.out).1 (fun e => own_ne HOC4_17.out HBv2_17.out (by decide) _ e rfl) (fun e => own_ne HOP4_17.out HBv2_17.out (by decide) _ e rfl)).trans HBv2_17.out
      have HBv3_18 : Hid ((w18).heap[qv3]? = some (.cells #[.slice oC4 n1 pC4, .slice oP4 n2 pP4] 27)) := (far _ (Array.getElem?_eq_some_iff.1 HBv3_17.out).1 (fun e => own_ne HOC4_17.out HBv3_17.out (by decide) _ e rfl) (fun e => own_ne HOP4_17.out HBv3_17.out (by decide) _ e rfl)).trans HBv3_17.out
      have HBv4_18 : Hid ((w18).heap[qv4]? = some (.cells #[.slice oX6 oc.length pX6, .slice oY6 ow.length pY6] 27)) := (far _ (Array.getElem?_eq_some_iff.1 HBv4_17.out).1 (fun e => own_ne HOC4_17.out HBv4_17.out (by decide) _ e rfl) (fun e => own_ne HOP4_17.out HBv4_17.out (by decide) _ e rfl)).trans HBv4_17.out
      have HOC4_18 : Hid ((w18).ownsRow w.heap.size 9 1 (.slice oC4 n1 pC4) n1 ((mkT 1 cs n1).map Value.string)) := mk0
      have HOP4_18 : Hid ((w18).ownsRow w.heap.size 67 2 (.slice oP4 n2 pP4) n2 (flatWrite (mkWrite (1 + n1) ws n2))) := mk1
      clear hb17 HOC1_17 HOP1_17 HOB2_17 HOX3_17 HOY3_17 HOC4_17 HOP4_17 HOB5_17 HOX6_17 HOY6_17 HOC7_17 HOP7_17 HOB8_17 HBv1_17 HBv2_17 HBv3_17 HBv4_17 mk0 mk1 bm far
      have hkm9 : ¬ (((1 + n1 + 2 * n2 : Nat) : Int) < 0) := by omega
      clear cv3_0 cv3_1
      go_wp2_with fail
      refine (markBoolS_any _ nK _ _ ks _ HOB5_18.out (1 + n1 + 2 * n2) (by have := HLV.out; omega)).mono ?_
      rintro e w19 ⟨rfl, ⟨ms, mk⟩, bm, far⟩
      have hb19 : Below w.heap.size w w19 := hb18.trans bm
      have HM19 : Hid ((w18).heap.size ≤ w19.heap.size) := bm.size
      have HOC1_19 : Hid ((w19).ownsRow w.heap.size 9 1 (.slice oC1 n1 pC1) n1 (cs.map Value.string)) := owns_same HOC1_18.out (fun g hg => far g (owns_lt HOC1_18.out hg) (own_type_ne HOC1_18.out HOB5_18.out (by decide) g hg))
      have HOP1_19 : Hid ((w19).ownsRow w.heap.size 67 2 (.slice oP1 n2 pP1) n2 (flatWrite ws)) := owns_same HOP1_18.out (fun g hg => far g (owns_lt HOP1_18.out hg) (own_type_ne HOP1_18.out HOB5_18.out (by decide) g hg))
      have HOB2_19 : Hid ((w19).ownsRow w.heap.size 4 1 (.slice oB2 nK pB2) nK (ks.map Value.bool)) := owns_same HOB2_18.out (fun g hg => far g (owns_lt HOB2_18.out hg) (fun e => by have h1 := LOB5.out g e; have h2 := HIB2.out g hg; have := HM5.out; have := HM6.out; have := HM7.out; have := HM8.out; have := HM9.out; omega))
      have HOX3_19 : Hid ((w19).ownsRow w.heap.size 9 1 (.slice oX3 oc.length pX3) oc.length (oc.map Value.string)) := owns_same HOX3_18.out (fun g hg => far g (owns_lt HOX3_18.out hg) (own_type_ne HOX3_18.out HOB5_18.out (by decide) g hg))
      have HOY3_19 : Hid ((w19).ownsRow w.heap.size 67 2 (.slice oY3 ow.length pY3) ow.length (flatWrite ow)) := owns_same HOY3_18.out (fun g hg => far g (owns_lt HOY3_18.out hg) (own_type_ne HOY3_18.out HOB5_18.out (by decide) g hg))
      have HOC4_19 : Hid ((w19).ownsRow w.heap.size 9 1 (.slice oC4 n1 pC4) n1 ((mkT 1 cs n1).map Value.string)) := owns_same HOC4_18.out (fun g hg => far g (owns_lt HOC4_18.out hg) (own_type_ne HOC4_18.out HOB5_18.out (by decide) g hg))
      have HOP4_19 : Hid ((w19).ownsRow w.heap.size 67 2 (.slice oP4 n2 pP4) n2 (flatWrite (mkWrite (1 + n1) ws n2))) := owns_same HOP4_18.out (fun g hg => far g (owns_lt HOP4_18.out hg) (own_type_ne HOP4_18.out HOB5_18.out (by decide) g hg))
      have HOX6_19 : Hid ((w19).ownsRow w.heap.size 9 1 (.slice oX6 oc.length pX6) oc.length (oc.map Value.string)) := owns_same HOX6_18.out (fun g hg => far g (owns_lt HOX6_18.out hg) (own_type_ne HOX6_18.out HOB5_18.out (by decide) g hg))
      have HOY6_19 : Hid ((w19).ownsRow w.heap.size 67 2 (.slice oY6 ow.length pY6) ow.length (flatWrite ow)) := owns_same HOY6_18.out (fun g hg => far g (owns_lt HOY6_18.out hg) (own_type_ne HOY6_18.out HOB5_18.out (by decide) g hg))
      have HOC7_19 : Hid ((w19).ownsRow w.heap.size 9 1 (.slice oC7 n1 pC7) n1 (cs.map Value.string)) := owns_same HOC7_18.out (fun g hg => far g (owns_lt HOC7_18.out hg) (own_type_ne HOC7_18.out HOB5_18.out (by decide) g hg))
      have HOP7_19 : Hid ((w19).ownsRow w.heap.size 67 2 (.slice oP7 n2 pP7) n2 (flatWrite ws)) := owns_same HOP7_18.out (fun g hg => far g (owns_lt HOP7_18.out hg) (own_type_ne HOP7_18.out HOB5_18.out (by decide) g hg))
      have HOB8_19 : Hid ((w19).ownsRow w.heap.size 4 1 (.slice oB8 nK pB8) nK (ks.map Value.bool)) := owns_same HOB8_18.out (fun g hg => far g (owns_lt HOB8_18.out hg) (fun e => by have h1 := LOB8.out g hg; have h2 := HIB5.out g e; have := HM10.out; have := HM11.out; have := HM12.out; have := HM13.out; have := HM14.out; have := HM15.out; have := HM16.out; omega))
      have HBv1_19 : Hid ((w19).heap[qv1]? = some (.cells #[.slice a1 n1 c1, .slice a2 n2 c2] 46)) := blk_far HBv1_18.out far HOB5_18.out (by decide)
      have HBv2_19 : Hid ((w19).heap[qv2]? = some (.cells #[.slice oX3 oc.length pX3, .slice oY3 ow.length pY3] 27)) := blk_far HBv2_18.out far HOB5_18.out (by decide)
      have HBv3_19 : Hid ((w19).heap[qv3]? = some (.cells #[.slice oC4 n1 pC4, .slice oP4 n2 pP4] 27)) := blk_far HBv3_18.out far HOB5_18.out (by decide)
      have HBv4_19 : Hid ((w19).heap[qv4]? = some (.cells #[.slice oX6 oc.length pX6, .slice oY6 ow.length pY6] 27)) := blk_far HBv4_18.out far HOB5_18.out (by decide)
      have HOB5_19 : Hid ((w19).ownsRow w.heap.size 4 1 (.slice oB5 nK pB5) nK (ms.map Value.bool)) := mk
      clear hb18 HOC1_18 HOP1_18 HOB2_18 HOX3_18 HOY3_18 HOC4_18 HOP4_18 HOB5_18 HOX6_18 HOY6_18 HOC7_18 HOP7_18 HOB8_18 HBv1_18 HBv2_18 HBv3_18 HBv4_18 mk bm far
      have hkb10 : ¬ ((((1 + n1 + 2 * n2 : Nat) : Int) + (nK : Int)) < 0) := by omega
      have cv2_0 : (w19).cell? ⟨qv2, 0, none⟩ = some (.slice oX3 oc.length pX3) := (cell_of HBv2_19.out 0).trans rfl
      have cv2_1 : (w19).cell? ⟨qv2, 1, none⟩ = some (.slice oY3 ow.length pY3) := (cell_of HBv2_19.out 1).trans rfl
      have cv4_0 : (w19).cell? ⟨qv4, 0, none⟩ = some (.slice oX6 oc.length pX6) := (cell_of HBv4_19.out 0).trans rfl
      have cv4_1 : (w19).cell? ⟨qv4, 1, none⟩ = some (.slice oY6 ow.length pY6) := (cell_of HBv4_19.out 1).trans rfl
      go_wp2_with fail
      refine (eqDisk_any oc.length oc ow.length ow _ _ _ _ _ _ _ ⟨HOX6_19.out, HOY6_19.out⟩ ⟨HOX3_19.out, HOY3_19.out⟩ (by have := HLV.out; omega) (by have := HLV.out; omega)).mono ?_
      rintro e w20 ⟨rfl, bw⟩
      have hb20 : Below w.heap.size w (w20) := hb19.trans (bw.mono hb19.size)
      have HM20 : Hid ((w19).heap.size ≤ (w20).heap.size) := bw.size
      have HOC1_20 : Hid ((w20).ownsRow w.heap.size 9 1 (.slice oC1 n1 pC1) n1 (cs.map Value.string)) := owns_below HOC1_19.out bw (fun g hg => owns_lt HOC1_19.out hg)
      have HOP1_20 : Hid ((w20).ownsRow w.heap.size 67 2 (.slice oP1 n2 pP1) n2 (flatWrite ws)) := owns_below HOP1_19.out bw (fun g hg => owns_lt HOP1_19.out hg)
      have HOB2_20 : Hid ((w20).ownsRow w.heap.size 4 1 (.slice oB2 nK pB2) nK (ks.map Value.bool)) := owns_below HOB2_19.out bw (fun g hg => owns_lt HOB2_19.out hg)
      have HOX3_20 : Hid ((w20).ownsRow w.heap.size 9 1 (.slice oX3 oc.length pX3) oc.length (oc.map Value.string)) := owns_below HOX3_19.out bw (fun g hg => owns_lt HOX3_19.out hg)
      have HOY3_20 : Hid ((w20).ownsRow w.heap.size 67 2 (.slice oY3 ow.length pY3) ow.length (flatWrite ow)) := owns_below HOY3_19.out bw (fun g hg => owns_lt HOY3_19.out hg)
      have HOC4_20 : Hid ((w20).ownsRow w.heap.size 9 1 (.slice oC4 n1 pC4) n1 ((mkT 1 cs n1).map Value.string)) := owns_below HOC4_19.out bw (fun g hg => owns_lt HOC4_19.out hg)
      have HOP4_20 : Hid ((w20).ownsRow w.heap.size 67 2 (.slice oP4 n2 pP4) n2 (flatWrite (mkWrite (1 + n1) ws n2))) := owns_below HOP4_19.out bw (fun g hg => owns_lt HOP4_19.out hg)
      have HOB5_20 : Hid ((w20).ownsRow w.heap.size 4 1 (.slice oB5 nK pB5) nK (ms.map Value.bool)) := owns_below HOB5_19.out bw (fun g hg => owns_lt HOB5_19.out hg)
      have HOX6_20 : Hid ((w20).ownsRow w.heap.size 9 1 (.slice oX6 oc.length pX6) oc.length (oc.map Value.string)) := owns_below HOX6_19.out bw (fun g hg => owns_lt HOX6_19.out hg)
      have HOY6_20 : Hid ((w20).ownsRow w.heap.size 67 2 (.slice oY6 ow.length pY6) ow.length (flatWrite ow)) := owns_below HOY6_19.out bw (fun g hg => owns_lt HOY6_19.out hg)
      have HOC7_20 : Hid ((w20).ownsRow w.heap.size 9 1 (.slice oC7 n1 pC7) n1 (cs.map Value.string)) := owns_below HOC7_19.out bw (fun g hg => owns_lt HOC7_19.out hg)
      have HOP7_20 : Hid ((w20).ownsRow w.heap.size 67 2 (.slice oP7 n2 pP7) n2 (flatWrite ws)) := owns_below HOP7_19.out bw (fun g hg => owns_lt HOP7_19.out hg)
      have HOB8_20 : Hid ((w20).ownsRow w.heap.size 4 1 (.slice oB8 nK pB8) nK (ks.map Value.bool)) := owns_below HOB8_19.out bw (fun g hg => owns_lt HOB8_19.out hg)
      have HBv1_20 : Hid ((w20).heap[qv1]? = some (.cells #[.slice a1 n1 c1, .slice a2 n2 c2] 46)) := blk_below HBv1_19.out bw
      have HBv2_20 : Hid ((w20).heap[qv2]? = some (.cells #[.slice oX3 oc.length pX3, .slice oY3 ow.length pY3] 27)) := blk_below HBv2_19.out bw
      have HBv3_20 : Hid ((w20).heap[qv3]? = some (.cells #[.slice oC4 n1 pC4, .slice oP4 n2 pP4] 27)) := blk_below HBv3_19.out bw
      have HBv4_20 : Hid ((w20).heap[qv4]? = some (.cells #[.slice oX6 oc.length pX6, .slice oY6 ow.length pY6] 27)) := blk_below HBv4_19.out bw
      clear hb19 HOC1_19 HOP1_19 HOB2_19 HOX3_19 HOY3_19 HOC4_19 HOP4_19 HOB5_19 HOX6_19 HOY6_19 HOC7_19 HOP7_19 HOB8_19 HBv1_19 HBv2_19 HBv3_19 HBv4_19 bw
      clear cv2_0 cv2_1 cv4_0 cv4_1
      have cv4_0 : (w20).cell? ⟨qv4, 0, none⟩ = some (.slice oX6 oc.length pX6) := (cell_of HBv4_20.out 0).trans rfl
      have cv4_1 : (w20).cell? ⟨qv4, 1, none⟩ = some (.slice oY6 ow.length pY6) := (cell_of HBv4_20.out 1).trans rfl
      go_wp2_with fail
      refine (markDisk_any oc.length oc ow.length ow _ _ _ _ ⟨HOX6_20.out, HOY6_20.out⟩ hb20.size 1 (by omega) (by have := HLV.out; omega)).mono ?_
      rintro e w21 ⟨rfl, ⟨mk0, mk1⟩, bm, far⟩
      have hb21 : Below w.heap.size w w21 := hb20.trans bm
      have HM21 : Hid ((w20).heap.size ≤ w21.heap.size) := bm.size
      have HOC1_21 : Hid ((w21).ownsRow w.heap.size 9 1 (.slice oC1 n1 pC1) n1 (cs.map Value.string)) := owns_same HOC1_20.out (fun g hg => far g (owns_lt HOC1_20.out hg) (fun e => by have h1 := LOX6.out g e; have h2 := HIC1.out g hg; have := HM4.out; have := HM5.out; have := HM6.out; have := HM7.out; have := HM8.out; have := HM9.out; have := HM10.out; omega) (own_type_ne HOC1_20.out HOY6_20.out (by decide) g hg))
      have HOP1_21 : Hid ((w21).ownsRow w.heap.size 67 2 (.slice oP1 n2 pP1) n2 (flatWrite ws)) := owns_same HOP1_20.out (fun g hg => far g (owns_lt HOP1_20.out hg) (own_type_ne HOP1_20.out HOX6_20.out (by decide) g hg) (fun e => by have h1 := LOY6.out g e; have h2 := HIP1.out g hg; have := HM4.out; have := HM5.out; have := HM6.out; have := HM7.out; have := HM8.out; have := HM9.out; have := HM10.out; omega))
      have HOB2_21 : Hid ((w21).ownsRow w.heap.size 4 1 (.slice oB2 nK pB2) nK (ks.map Value.bool)) := owns_same HOB2_20.out (fun g hg => far g (owns_lt HOB2_20.out hg) (own_type_ne HOB2_20.out HOX6_20.out (by decide) g hg) (own_type_ne HOB2_20.out HOY6_20.out (by decide) g hg))
      have HOX3_21 : Hid ((w21).ownsRow w.heap.size 9 1 (.slice oX3 oc.length pX3) oc.length (oc.map Value.string)) := owns_same HOX3_20.out (fun g hg => far g (owns_lt HOX3_20.out hg) (fun e => by have h1 := LOX6.out g e; have h2 := HIX3.out g hg; have := HM6.out; have := HM7.out; have := HM8.out; have := HM9.out; have := HM10.out; omega) (own_type_ne HOX3_20.out HOY6_20.out (by decide) g hg))
      have HOY3_21 : Hid ((w21).ownsRow w.heap.size 67 2 (.slice oY3 ow.length pY3) ow.length (flatWrite ow)) := owns_same HOY3_20.out (fun g hg => far g (owns_lt HOY3_20.out hg) (own_type_ne HOY3_20.out HOX6_20.out (by decide) g hg) (fun e => by have h1 := LOY6.out g e; have h2 := HIY3.out g hg; have := HM6.out; have := HM7.out; have := HM8.out; have := HM9.out; have := HM10.out; omega))
      have HOC4_21 : Hid ((w21).ownsRow w.heap.size 9 1 (.slice oC4 n1 pC4) n1 ((mkT 1 cs n1).map Value.string)) := owns_same HOC4_20.out (fun g hg => far g (owns_lt HOC4_20.out hg) (fun e => by have h1 := LOX6.out g e; have h2 := HIC4.out g hg; have := HM8.out; have := HM9.out; have := HM10.out; omega) (own_type_ne HOC4_20.out HOY6_20.out (by decide) g hg))
      have HOP4_21 : Hid ((w21).ownsRow w.heap.size 67 2 (.slice oP4 n2 pP4) n2 (flatWrite (mkWrite (1 + n1) ws n2))) := owns_same HOP4_20.out (fun g hg => far g (owns_lt HOP4_20.out hg) (own_type_ne HOP4_20.out HOX6_20.out (by decide) g hg) (fun e => by have h1 := LOY6.out g e; have h2 := HIP4.out g hg; have := HM8.out; have := HM9.out; have := HM10.out; omega))
      have HOB5_21 : Hid ((w21).ownsRow w.heap.size 4 1 (.slice oB5 nK pB5) nK (ms.map Value.bool)) := owns_same HOB5_20.out (fun g hg => far g (owns_lt HOB5_20.out hg) (own_type_ne HOB5_20.out HOX6_20.out (by decide) g hg) (own_type_ne HOB5_20.out HOY6_20.out (by decide) g hg))
      have HOC7_21 : Hid ((w21).ownsRow w.heap.size 9 1 (.slice oC7 n1 pC7) n1 (cs.map Value.string)) := owns_same HOC7_20.out (fun g hg => far g (owns_lt HOC7_20.out hg) (fun e => by have h1 := LOC7.out g hg; have h2 := HIX6.out g e; have := HM11.out; have := HM12.out; have := HM13.out; have := HM14.out; omega) (own_type_ne HOC7_20.out HOY6_20.out (by decide) g hg))
      have HOP7_21 : Hid ((w21).ownsRow w.heap.size 67 2 (.slice oP7 n2 pP7) n2 (flatWrite ws)) := owns_same HOP7_20.out (fun g hg => far g (owns_lt HOP7_20.out hg) (own_type_ne HOP7_20.out HOX6_20.out (by decide) g hg) (fun e => by have h1 := LOP7.out g hg; have h2 := HIY6.out g e; have := HM11.out; have := HM12.out; have := HM13.out; have := HM14.out; omega))
      have HOB8_21 : Hid ((w21).ownsRow w.heap.size 4 1 (.slice oB8 nK pB8) nK (ks.map Value.bool)) := owns_same HOB8_20.out (fun g hg => far g (owns_lt HOB8_20.out hg) (own_type_ne HOB8_20.out HOX6_20.out (by decide) g hg) (own_type_ne HOB8_20.out HOY6_20.out (by decide) g hg))
      have HBv1_21 : Hid ((w21).heap[qv1]? = some (.cells #[.slice a1 n1 c1, .slice a2 n2 c2] 46)) := (far _ (Array.getElem?_eq_some_iff.1 HBv1_20.out).1 (fun e => own_ne HOX6_20.out HBv1_20.out (by decide) _ e rfl) (fun e => own_ne HOY6_20.out HBv1_20.out (by decide) _ e rfl)).trans HBv1_20.out
      have HBv2_21 : Hid ((w21).heap[qv2]? = some (.cells #[.slice oX3 oc.length pX3, .slice oY3 ow.length pY3] 27)) := (far _ (Array.getElem?_eq_some_iff.1 HBv2_20.out).1 (fun e => own_ne HOX6_20.out HBv2_20.out (by decide) _ e rfl) (fun e => own_ne HOY6_20.out HBv2_20.out (by decide) _ e rfl)).trans HBv2_20.out
      have HBv3_21 : Hid ((w21).heap[qv3]? = some (.cells #[.slice oC4 n1 pC4, .slice oP4 n2 pP4] 27)) := (far _ (Array.getElem?_eq_some_iff.1 HBv3_20.out).1 (fun e => own_ne HOX6_20.out HBv3_20.out (by decide) _ e rfl) (fun e => own_ne HOY6_20.out HBv3_20.out (by decide) _ e rfl)).trans HBv3_20.out
      have HBv4_21 : Hid ((w21).heap[qv4]? = some (.cells #[.slice oX6 oc.length pX6, .slice oY6 ow.length pY6] 27)) := (far _ (Array.getElem?_eq_some_iff.1 HBv4_20.out).1 (fun e => own_ne HOX6_20.out HBv4_20.out (by decide) _ e rfl) (fun e => own_ne HOY6_20.out HBv4_20.out (by decide) _ e rfl)).trans HBv4_20.out
      have HOX6_21 : Hid ((w21).ownsRow w.heap.size 9 1 (.slice oX6 oc.length pX6) oc.length ((mkT 1 oc oc.length).map Value.string)) := mk0
      have HOY6_21 : Hid ((w21).ownsRow w.heap.size 67 2 (.slice oY6 ow.length pY6) ow.length (flatWrite (mkWrite (1 + oc.length) ow ow.length))) := mk1
      clear hb20 HOC1_20 HOP1_20 HOB2_20 HOX3_20 HOY3_20 HOC4_20 HOP4_20 HOB5_20 HOX6_20 HOY6_20 HOC7_20 HOP7_20 HOB8_20 HBv1_20 HBv2_20 HBv3_20 HBv4_20 mk0 mk1 bm far
      have hkm11 : ¬ (((1 + oc.length + 2 * ow.length : Nat) : Int) < 0) := by omega
      clear cv4_0 cv4_1
      have cv4_0 : (w21).cell? ⟨qv4, 0, none⟩ = some (.slice oX6 oc.length pX6) := (cell_of HBv4_21.out 0).trans rfl
      have cv4_1 : (w21).cell? ⟨qv4, 1, none⟩ = some (.slice oY6 ow.length pY6) := (cell_of HBv4_21.out 1).trans rfl
      go_wp2_with fail
      refine (heldDisk_any oc.length (mkT 1 oc oc.length) ow.length (mkWrite (1 + oc.length) ow ow.length) _ _ _ _ ⟨HOX6_21.out, HOY6_21.out⟩ 1 (by omega) (by have := HLV.out; omega) (fun j hj => mkT_at 1 oc j hj _ hj) (fun j hj => by have e := mkWrite_at (1 + oc.length) ow j ow.length (Nat.le_refl _) hj; rw [e]; exact ⟨rfl, rfl⟩)).mono ?_
      rintro e w22 ⟨rfl, bw⟩
      have hb22 : Below w.heap.size w (w22) := hb21.trans (bw.mono hb21.size)
      have HM22 : Hid ((w21).heap.size ≤ (w22).heap.size) := bw.size
      have HOC1_22 : Hid ((w22).ownsRow w.heap.size 9 1 (.slice oC1 n1 pC1) n1 (cs.map Value.string)) := owns_below HOC1_21.out bw (fun g hg => owns_lt HOC1_21.out hg)
      have HOP1_22 : Hid ((w22).ownsRow w.heap.size 67 2 (.slice oP1 n2 pP1) n2 (flatWrite ws)) := owns_below HOP1_21.out bw (fun g hg => owns_lt HOP1_21.out hg)
      have HOB2_22 : Hid ((w22).ownsRow w.heap.size 4 1 (.slice oB2 nK pB2) nK (ks.map Value.bool)) := owns_below HOB2_21.out bw (fun g hg => owns_lt HOB2_21.out hg)
      have HOX3_22 : Hid ((w22).ownsRow w.heap.size 9 1 (.slice oX3 oc.length pX3) oc.length (oc.map Value.string)) := owns_below HOX3_21.out bw (fun g hg => owns_lt HOX3_21.out hg)
      have HOY3_22 : Hid ((w22).ownsRow w.heap.size 67 2 (.slice oY3 ow.length pY3) ow.length (flatWrite ow)) := owns_below HOY3_21.out bw (fun g hg => owns_lt HOY3_21.out hg)
      have HOC4_22 : Hid ((w22).ownsRow w.heap.size 9 1 (.slice oC4 n1 pC4) n1 ((mkT 1 cs n1).map Value.string)) := owns_below HOC4_21.out bw (fun g hg => owns_lt HOC4_21.out hg)
      have HOP4_22 : Hid ((w22).ownsRow w.heap.size 67 2 (.slice oP4 n2 pP4) n2 (flatWrite (mkWrite (1 + n1) ws n2))) := owns_below HOP4_21.out bw (fun g hg => owns_lt HOP4_21.out hg)
      have HOB5_22 : Hid ((w22).ownsRow w.heap.size 4 1 (.slice oB5 nK pB5) nK (ms.map Value.bool)) := owns_below HOB5_21.out bw (fun g hg => owns_lt HOB5_21.out hg)
      have HOX6_22 : Hid ((w22).ownsRow w.heap.size 9 1 (.slice oX6 oc.length pX6) oc.length ((mkT 1 oc oc.length).map Value.string)) := owns_below HOX6_21.out bw (fun g hg => owns_lt HOX6_21.out hg)
      have HOY6_22 : Hid ((w22).ownsRow w.heap.size 67 2 (.slice oY6 ow.length pY6) ow.length (flatWrite (mkWrite (1 + oc.length) ow ow.length))) := owns_below HOY6_21.out bw (fun g hg => owns_lt HOY6_21.out hg)
      have HOC7_22 : Hid ((w22).ownsRow w.heap.size 9 1 (.slice oC7 n1 pC7) n1 (cs.map Value.string)) := owns_below HOC7_21.out bw (fun g hg => owns_lt HOC7_21.out hg)
      have HOP7_22 : Hid ((w22).ownsRow w.heap.size 67 2 (.slice oP7 n2 pP7) n2 (flatWrite ws)) := owns_below HOP7_21.out bw (fun g hg => owns_lt HOP7_21.out hg)
      have HOB8_22 : Hid ((w22).ownsRow w.heap.size 4 1 (.slice oB8 nK pB8) nK (ks.map Value.bool)) := owns_below HOB8_21.out bw (fun g hg => owns_lt HOB8_21.out hg)
      have HBv1_22 : Hid ((w22).heap[qv1]? = some (.cells #[.slice a1 n1 c1, .slice a2 n2 c2] 46)) := blk_below HBv1_21.out bw
      have HBv2_22 : Hid ((w22).heap[qv2]? = some (.cells #[.slice oX3 oc.length pX3, .slice oY3 ow.length pY3] 27)) := blk_below HBv2_21.out bw
      have HBv3_22 : Hid ((w22).heap[qv3]? = some (.cells #[.slice oC4 n1 pC4, .slice oP4 n2 pP4] 27)) := blk_below HBv3_21.out bw
      have HBv4_22 : Hid ((w22).heap[qv4]? = some (.cells #[.slice oX6 oc.length pX6, .slice oY6 ow.length pY6] 27)) := blk_below HBv4_21.out bw
      clear hb21 HOC1_21 HOP1_21 HOB2_21 HOX3_21 HOY3_21 HOC4_21 HOP4_21 HOB5_21 HOX6_21 HOY6_21 HOC7_21 HOP7_21 HOB8_21 HBv1_21 HBv2_21 HBv3_21 HBv4_21 bw
      have hkh12 : ¬ (((1 + oc.length + 2 * ow.length : Nat) : Int) < 0) := by omega
      clear cv4_0 cv4_1
      have cv1_0 : (w22).cell? ⟨qv1, 0, none⟩ = some (.slice a1 n1 c1) := (cell_of HBv1_22.out 0).trans rfl
      have cv1_1 : (w22).cell? ⟨qv1, 1, none⟩ = some (.slice a2 n2 c2) := (cell_of HBv1_22.out 1).trans rfl
      go_wp2_with fail
      refine (toDisk_any a1 n1 c1 cs a2 n2 c2 ws w.heap.size _ (HA1.out _ hb22) (HA2.out _ hb22) hb22.size hm1 hm2).mono ?_
      rintro e w23 ⟨vv1, vv2, rfl, ⟨ownC13, ownP13⟩, bw⟩
      obtain ⟨oC13, pC13, rfl⟩ := slice_of_owns ownC13
      obtain ⟨oP13, pP13, rfl⟩ := slice_of_owns ownP13
      have hb23 : Below w.heap.size w (w23) := hb22.trans (bw.mono hb22.size)
      have HM23 : Hid ((w22).heap.size ≤ (w23).heap.size) := bw.size
      have HOC1_23 : Hid ((w23).ownsRow w.heap.size 9 1 (.slice oC1 n1 pC1) n1 (cs.map Value.string)) := owns_below HOC1_22.out bw (fun g hg => owns_lt HOC1_22.out hg)
      have HOP1_23 : Hid ((w23).ownsRow w.heap.size 67 2 (.slice oP1 n2 pP1) n2 (flatWrite ws)) := owns_below HOP1_22.out bw (fun g hg => owns_lt HOP1_22.out hg)
      have HOB2_23 : Hid ((w23).ownsRow w.heap.size 4 1 (.slice oB2 nK pB2) nK (ks.map Value.bool)) := owns_below HOB2_22.out bw (fun g hg => owns_lt HOB2_22.out hg)
      have HOX3_23 : Hid ((w23).ownsRow w.heap.size 9 1 (.slice oX3 oc.length pX3) oc.length (oc.map Value.string)) := owns_below HOX3_22.out bw (fun g hg => owns_lt HOX3_22.out hg)
      have HOY3_23 : Hid ((w23).ownsRow w.heap.size 67 2 (.slice oY3 ow.length pY3) ow.length (flatWrite ow)) := owns_below HOY3_22.out bw (fun g hg => owns_lt HOY3_22.out hg)
      have HOC4_23 : Hid ((w23).ownsRow w.heap.size 9 1 (.slice oC4 n1 pC4) n1 ((mkT 1 cs n1).map Value.string)) := owns_below HOC4_22.out bw (fun g hg => owns_lt HOC4_22.out hg)
      have HOP4_23 : Hid ((w23).ownsRow w.heap.size 67 2 (.slice oP4 n2 pP4) n2 (flatWrite (mkWrite (1 + n1) ws n2))) := owns_below HOP4_22.out bw (fun g hg => owns_lt HOP4_22.out hg)
      have HOB5_23 : Hid ((w23).ownsRow w.heap.size 4 1 (.slice oB5 nK pB5) nK (ms.map Value.bool)) := owns_below HOB5_22.out bw (fun g hg => owns_lt HOB5_22.out hg)
      have HOX6_23 : Hid ((w23).ownsRow w.heap.size 9 1 (.slice oX6 oc.length pX6) oc.length ((mkT 1 oc oc.length).map Value.string)) := owns_below HOX6_22.out bw (fun g hg => owns_lt HOX6_22.out hg)
      have HOY6_23 : Hid ((w23).ownsRow w.heap.size 67 2 (.slice oY6 ow.length pY6) ow.length (flatWrite (mkWrite (1 + oc.length) ow ow.length))) := owns_below HOY6_22.out bw (fun g hg => owns_lt HOY6_22.out hg)
      have HOC7_23 : Hid ((w23).ownsRow w.heap.size 9 1 (.slice oC7 n1 pC7) n1 (cs.map Value.string)) := owns_below HOC7_22.out bw (fun g hg => owns_lt HOC7_22.out hg)
      have HOP7_23 : Hid ((w23).ownsRow w.heap.size 67 2 (.slice oP7 n2 pP7) n2 (flatWrite ws)) := owns_below HOP7_22.out bw (fun g hg => owns_lt HOP7_22.out hg)
      have HOB8_23 : Hid ((w23).ownsRow w.heap.size 4 1 (.slice oB8 nK pB8) nK (ks.map Value.bool)) := owns_below HOB8_22.out bw (fun g hg => owns_lt HOB8_22.out hg)
      have HBv1_23 : Hid ((w23).heap[qv1]? = some (.cells #[.slice a1 n1 c1, .slice a2 n2 c2] 46)) := blk_below HBv1_22.out bw
      have HBv2_23 : Hid ((w23).heap[qv2]? = some (.cells #[.slice oX3 oc.length pX3, .slice oY3 ow.length pY3] 27)) := blk_below HBv2_22.out bw
      have HBv3_23 : Hid ((w23).heap[qv3]? = some (.cells #[.slice oC4 n1 pC4, .slice oP4 n2 pP4] 27)) := blk_below HBv3_22.out bw
      have HBv4_23 : Hid ((w23).heap[qv4]? = some (.cells #[.slice oX6 oc.length pX6, .slice oY6 ow.length pY6] 27)) := blk_below HBv4_22.out bw
      have HOC13_23 : Hid ((w23).ownsRow w.heap.size 9 1 (.slice oC13 n1 pC13) n1 (cs.map Value.string)) := owns_wide ownC13 hb22.size
      have LOC13 : Hid (∀ g, (Value.ownBlock (.slice oC13 n1 pC13)) = some g → (w22).heap.size ≤ g) := fun g hg => owns_ge ownC13 hg
      have HIC13 : Hid (∀ g, (Value.ownBlock (.slice oC13 n1 pC13)) = some g → g < (w23).heap.size) := fun g hg => owns_lt ownC13 hg
      clear ownC13
      have HOP13_23 : Hid ((w23).ownsRow w.heap.size 67 2 (.slice oP13 n2 pP13) n2 (flatWrite ws)) := owns_wide ownP13 hb22.size
      have LOP13 : Hid (∀ g, (Value.ownBlock (.slice oP13 n2 pP13)) = some g → (w22).heap.size ≤ g) := fun g hg => owns_ge ownP13 hg
      have HIP13 : Hid (∀ g, (Value.ownBlock (.slice oP13 n2 pP13)) = some g → g < (w23).heap.size) := fun g hg => owns_lt ownP13 hg
      clear ownP13
      clear hb22 HOC1_22 HOP1_22 HOB2_22 HOX3_22 HOY3_22 HOC4_22 HOP4_22 HOB5_22 HOX6_22 HOY6_22 HOC7_22 HOP7_22 HOB8_22 HBv1_22 HBv2_22 HBv3_22 HBv4_22 bw
      clear cv1_0 cv1_1
      go_wp2_with fail
      refine (toBoolS_any w.heap.size aK nK cK ks _ (HAK.out _ hb23) hb23.size (by omega)).mono ?_
      rintro e w24 ⟨vv, rfl, ownB14, bw⟩
      obtain ⟨oB14, pB14, rfl⟩ := slice_of_owns ownB14
      have hb24 : Below w.heap.size w (w24) := hb23.trans (bw.mono hb23.size)
      have HM24 : Hid ((w23).heap.size ≤ (w24).heap.size) := bw.size
      have HOC1_24 : Hid ((w24).ownsRow w.heap.size 9 1 (.slice oC1 n1 pC1) n1 (cs.map Value.string)) := owns_below HOC1_23.out bw (fun g hg => owns_lt HOC1_23.out hg)
      have HOP1_24 : Hid ((w24).ownsRow w.heap.size 67 2 (.slice oP1 n2 pP1) n2 (flatWrite ws)) := owns_below HOP1_23.out bw (fun g hg => owns_lt HOP1_23.out hg)
      have HOB2_24 : Hid ((w24).ownsRow w.heap.size 4 1 (.slice oB2 nK pB2) nK (ks.map Value.bool)) := owns_below HOB2_23.out bw (fun g hg => owns_lt HOB2_23.out hg)
      have HOX3_24 : Hid ((w24).ownsRow w.heap.size 9 1 (.slice oX3 oc.length pX3) oc.length (oc.map Value.string)) := owns_below HOX3_23.out bw (fun g hg => owns_lt HOX3_23.out hg)
      have HOY3_24 : Hid ((w24).ownsRow w.heap.size 67 2 (.slice oY3 ow.length pY3) ow.length (flatWrite ow)) := owns_below HOY3_23.out bw (fun g hg => owns_lt HOY3_23.out hg)
      have HOC4_24 : Hid ((w24).ownsRow w.heap.size 9 1 (.slice oC4 n1 pC4) n1 ((mkT 1 cs n1).map Value.string)) := owns_below HOC4_23.out bw (fun g hg => owns_lt HOC4_23.out hg)
      have HOP4_24 : Hid ((w24).ownsRow w.heap.size 67 2 (.slice oP4 n2 pP4) n2 (flatWrite (mkWrite (1 + n1) ws n2))) := owns_below HOP4_23.out bw (fun g hg => owns_lt HOP4_23.out hg)
      have HOB5_24 : Hid ((w24).ownsRow w.heap.size 4 1 (.slice oB5 nK pB5) nK (ms.map Value.bool)) := owns_below HOB5_23.out bw (fun g hg => owns_lt HOB5_23.out hg)
      have HOX6_24 : Hid ((w24).ownsRow w.heap.size 9 1 (.slice oX6 oc.length pX6) oc.length ((mkT 1 oc oc.length).map Value.string)) := owns_below HOX6_23.out bw (fun g hg => owns_lt HOX6_23.out hg)
      have HOY6_24 : Hid ((w24).ownsRow w.heap.size 67 2 (.slice oY6 ow.length pY6) ow.length (flatWrite (mkWrite (1 + oc.length) ow ow.length))) := owns_below HOY6_23.out bw (fun g hg => owns_lt HOY6_23.out hg)
      have HOC7_24 : Hid ((w24).ownsRow w.heap.size 9 1 (.slice oC7 n1 pC7) n1 (cs.map Value.string)) := owns_below HOC7_23.out bw (fun g hg => owns_lt HOC7_23.out hg)
      have HOP7_24 : Hid ((w24).ownsRow w.heap.size 67 2 (.slice oP7 n2 pP7) n2 (flatWrite ws)) := owns_below HOP7_23.out bw (fun g hg => owns_lt HOP7_23.out hg)
      have HOB8_24 : Hid ((w24).ownsRow w.heap.size 4 1 (.slice oB8 nK pB8) nK (ks.map Value.bool)) := owns_below HOB8_23.out bw (fun g hg => owns_lt HOB8_23.out hg)
      have HOC13_24 : Hid ((w24).ownsRow w.heap.size 9 1 (.slice oC13 n1 pC13) n1 (cs.map Value.string)) := owns_below HOC13_23.out bw (fun g hg => owns_lt HOC13_23.out hg)
      have HOP13_24 : Hid ((w24).ownsRow w.heap.size 67 2 (.slice oP13 n2 pP13) n2 (flatWrite ws)) := owns_below HOP13_23.out bw (fun g hg => owns_lt HOP13_23.out hg)
      have HBv1_24 : Hid ((w24).heap[qv1]? = some (.cells #[.slice a1 n1 c1, .slice a2 n2 c2] 46)) := blk_below HBv1_23.out bw
      have HBv2_24 : Hid ((w24).heap[qv2]? = some (.cells #[.slice oX3 oc.length pX3, .slice oY3 ow.length pY3] 27)) := blk_below HBv2_23.out bw
      have HBv3_24 : Hid ((w24).heap[qv3]? = some (.cells #[.slice oC4 n1 pC4, .slice oP4 n2 pP4] 27)) := blk_below HBv3_23.out bw
      have HBv4_24 : Hid ((w24).heap[qv4]? = some (.cells #[.slice oX6 oc.length pX6, .slice oY6 ow.length pY6] 27)) := blk_below HBv4_23.out bw
      have HOB14_24 : Hid ((w24).ownsRow w.heap.size 4 1 (.slice oB14 nK pB14) nK (ks.map Value.bool)) := owns_wide ownB14 hb23.size
      have LOB14 : Hid (∀ g, (Value.ownBlock (.slice oB14 nK pB14)) = some g → (w23).heap.size ≤ g) := fun g hg => owns_ge ownB14 hg
      have HIB14 : Hid (∀ g, (Value.ownBlock (.slice oB14 nK pB14)) = some g → g < (w24).heap.size) := fun g hg => owns_lt ownB14 hg
      clear ownB14
      clear hb23 HOC1_23 HOP1_23 HOB2_23 HOX3_23 HOY3_23 HOC4_23 HOP4_23 HOB5_23 HOX6_23 HOY6_23 HOC7_23 HOP7_23 HOB8_23 HOC13_23 HOP13_23 HBv1_23 HBv2_23 HBv3_23 HBv4_23 bw
      go_wp2_with fail
      refine (HIM.out _ hb24 _ _ _ ⟨HOC13_24.out, HOP13_24.out⟩ _ _ _ HOB14_24.out).mono ?_
      rintro e w25 ⟨vv1, vv2, rfl, ⟨ownX15, ownY15⟩, bw⟩
      obtain ⟨oX15, pX15, rfl⟩ := slice_of_owns ownX15
      obtain ⟨oY15, pY15, rfl⟩ := slice_of_owns ownY15
      have hb25 : Below w.heap.size w (w25) := hb24.trans (bw.mono hb24.size)
      have HM25 : Hid ((w24).heap.size ≤ (w25).heap.size) := bw.size
      have HOC1_25 : Hid ((w25).ownsRow w.heap.size 9 1 (.slice oC1 n1 pC1) n1 (cs.map Value.string)) := owns_below HOC1_24.out bw (fun g hg => owns_lt HOC1_24.out hg)
      have HOP1_25 : Hid ((w25).ownsRow w.heap.size 67 2 (.slice oP1 n2 pP1) n2 (flatWrite ws)) := owns_below HOP1_24.out bw (fun g hg => owns_lt HOP1_24.out hg)
      have HOB2_25 : Hid ((w25).ownsRow w.heap.size 4 1 (.slice oB2 nK pB2) nK (ks.map Value.bool)) := owns_below HOB2_24.out bw (fun g hg => owns_lt HOB2_24.out hg)
      have HOX3_25 : Hid ((w25).ownsRow w.heap.size 9 1 (.slice oX3 oc.length pX3) oc.length (oc.map Value.string)) := owns_below HOX3_24.out bw (fun g hg => owns_lt HOX3_24.out hg)
      have HOY3_25 : Hid ((w25).ownsRow w.heap.size 67 2 (.slice oY3 ow.length pY3) ow.length (flatWrite ow)) := owns_below HOY3_24.out bw (fun g hg => owns_lt HOY3_24.out hg)
      have HOC4_25 : Hid ((w25).ownsRow w.heap.size 9 1 (.slice oC4 n1 pC4) n1 ((mkT 1 cs n1).map Value.string)) := owns_below HOC4_24.out bw (fun g hg => owns_lt HOC4_24.out hg)
      have HOP4_25 : Hid ((w25).ownsRow w.heap.size 67 2 (.slice oP4 n2 pP4) n2 (flatWrite (mkWrite (1 + n1) ws n2))) := owns_below HOP4_24.out bw (fun g hg => owns_lt HOP4_24.out hg)
      have HOB5_25 : Hid ((w25).ownsRow w.heap.size 4 1 (.slice oB5 nK pB5) nK (ms.map Value.bool)) := owns_below HOB5_24.out bw (fun g hg => owns_lt HOB5_24.out hg)
      have HOX6_25 : Hid ((w25).ownsRow w.heap.size 9 1 (.slice oX6 oc.length pX6) oc.length ((mkT 1 oc oc.length).map Value.string)) := owns_below HOX6_24.out bw (fun g hg => owns_lt HOX6_24.out hg)
      have HOY6_25 : Hid ((w25).ownsRow w.heap.size 67 2 (.slice oY6 ow.length pY6) ow.length (flatWrite (mkWrite (1 + oc.length) ow ow.length))) := owns_below HOY6_24.out bw (fun g hg => owns_lt HOY6_24.out hg)
      have HOC7_25 : Hid ((w25).ownsRow w.heap.size 9 1 (.slice oC7 n1 pC7) n1 (cs.map Value.string)) := owns_below HOC7_24.out bw (fun g hg => owns_lt HOC7_24.out hg)
      have HOP7_25 : Hid ((w25).ownsRow w.heap.size 67 2 (.slice oP7 n2 pP7) n2 (flatWrite ws)) := owns_below HOP7_24.out bw (fun g hg => owns_lt HOP7_24.out hg)
      have HOB8_25 : Hid ((w25).ownsRow w.heap.size 4 1 (.slice oB8 nK pB8) nK (ks.map Value.bool)) := owns_below HOB8_24.out bw (fun g hg => owns_lt HOB8_24.out hg)
      have HOC13_25 : Hid ((w25).ownsRow w.heap.size 9 1 (.slice oC13 n1 pC13) n1 (cs.map Value.string)) := owns_below HOC13_24.out bw (fun g hg => owns_lt HOC13_24.out hg)
      have HOP13_25 : Hid ((w25).ownsRow w.heap.size 67 2 (.slice oP13 n2 pP13) n2 (flatWrite ws)) := owns_below HOP13_24.out bw (fun g hg => owns_lt HOP13_24.out hg)
      have HOB14_25 : Hid ((w25).ownsRow w.heap.size 4 1 (.slice oB14 nK pB14) nK (ks.map Value.bool)) := owns_below HOB14_24.out bw (fun g hg => owns_lt HOB14_24.out hg)
      have HBv1_25 : Hid ((w25).heap[qv1]? = some (.cells #[.slice a1 n1 c1, .slice a2 n2 c2] 46)) := blk_below HBv1_24.out bw
      have HBv2_25 : Hid ((w25).heap[qv2]? = some (.cells #[.slice oX3 oc.length pX3, .slice oY3 ow.length pY3] 27)) := blk_below HBv2_24.out bw
      have HBv3_25 : Hid ((w25).heap[qv3]? = some (.cells #[.slice oC4 n1 pC4, .slice oP4 n2 pP4] 27)) := blk_below HBv3_24.out bw
      have HBv4_25 : Hid ((w25).heap[qv4]? = some (.cells #[.slice oX6 oc.length pX6, .slice oY6 ow.length pY6] 27)) := blk_below HBv4_24.out bw
      have HOX15_25 : Hid ((w25).ownsRow w.heap.size 9 1 (.slice oX15 oc.length pX15) oc.length (oc.map Value.string)) := owns_wide ownX15 hb24.size
      have LOX15 : Hid (∀ g, (Value.ownBlock (.slice oX15 oc.length pX15)) = some g → (w24).heap.size ≤ g) := fun g hg => owns_ge ownX15 hg
      have HIX15 : Hid (∀ g, (Value.ownBlock (.slice oX15 oc.length pX15)) = some g → g < (w25).heap.size) := fun g hg => owns_lt ownX15 hg
      clear ownX15
      have HOY15_25 : Hid ((w25).ownsRow w.heap.size 67 2 (.slice oY15 ow.length pY15) ow.length (flatWrite ow)) := owns_wide ownY15 hb24.size
      have LOY15 : Hid (∀ g, (Value.ownBlock (.slice oY15 ow.length pY15)) = some g → (w24).heap.size ≤ g) := fun g hg => owns_ge ownY15 hg
      have HIY15 : Hid (∀ g, (Value.ownBlock (.slice oY15 ow.length pY15)) = some g → g < (w25).heap.size) := fun g hg => owns_lt ownY15 hg
      clear ownY15
      clear hb24 HOC1_24 HOP1_24 HOB2_24 HOX3_24 HOY3_24 HOC4_24 HOP4_24 HOB5_24 HOX6_24 HOY6_24 HOC7_24 HOP7_24 HOB8_24 HOC13_24 HOP13_24 HOB14_24 HBv1_24 HBv2_24 HBv3_24 HBv4_24 bw
      go_upto_region 31 with fail
      obtain ⟨qv5, hqv5⟩ : ∃ q, q = (w25).heap.size := ⟨_, rfl⟩
      obtain ⟨w26, hW26⟩ : ∃ W, W = (w25).alloc (.cells #[.slice oX15 oc.length pX15, .slice oY15 ow.length pY15] 27) := ⟨_, rfl⟩
      have hz26 : (w25).heap.size = qv5 := hqv5.symm
      first | rw [← hW26, ← hqv5] | rw [← hW26]
      have hs26 : w26.heap.size = qv5 + 1 := by rw [hW26, ← hz26]; simp
      have bw : Below (w25).heap.size (w25) w26 := by rw [hW26]; exact (Below.refl _ _).alloc (Nat.le_refl _) _
      have hb26 : Below w.heap.size w (w26) := hb25.trans (bw.mono hb25.size)
      have HM26 : Hid ((w25).heap.size ≤ (w26).heap.size) := bw.size
      have HOC1_26 : Hid ((w26).ownsRow w.heap.size 9 1 (.slice oC1 n1 pC1) n1 (cs.map Value.string)) := owns_below HOC1_25.out bw (fun g hg => owns_lt HOC1_25.out hg)
      have HOP1_26 : Hid ((w26).ownsRow w.heap.size 67 2 (.slice oP1 n2 pP1) n2 (flatWrite ws)) := owns_below HOP1_25.out bw (fun g hg => owns_lt HOP1_25.out hg)
      have HOB2_26 : Hid ((w26).ownsRow w.heap.size 4 1 (.slice oB2 nK pB2) nK (ks.map Value.bool)) := owns_below HOB2_25.out bw (fun g hg => owns_lt HOB2_25.out hg)
      have HOX3_26 : Hid ((w26).ownsRow w.heap.size 9 1 (.slice oX3 oc.length pX3) oc.length (oc.map Value.string)) := owns_below HOX3_25.out bw (fun g hg => owns_lt HOX3_25.out hg)
      have HOY3_26 : Hid ((w26).ownsRow w.heap.size 67 2 (.slice oY3 ow.length pY3) ow.length (flatWrite ow)) := owns_below HOY3_25.out bw (fun g hg => owns_lt HOY3_25.out hg)
      have HOC4_26 : Hid ((w26).ownsRow w.heap.size 9 1 (.slice oC4 n1 pC4) n1 ((mkT 1 cs n1).map Value.string)) := owns_below HOC4_25.out bw (fun g hg => owns_lt HOC4_25.out hg)
      have HOP4_26 : Hid ((w26).ownsRow w.heap.size 67 2 (.slice oP4 n2 pP4) n2 (flatWrite (mkWrite (1 + n1) ws n2))) := owns_below HOP4_25.out bw (fun g hg => owns_lt HOP4_25.out hg)
      have HOB5_26 : Hid ((w26).ownsRow w.heap.size 4 1 (.slice oB5 nK pB5) nK (ms.map Value.bool)) := owns_below HOB5_25.out bw (fun g hg => owns_lt HOB5_25.out hg)
      have HOX6_26 : Hid ((w26).ownsRow w.heap.size 9 1 (.slice oX6 oc.length pX6) oc.length ((mkT 1 oc oc.length).map Value.string)) := owns_below HOX6_25.out bw (fun g hg => owns_lt HOX6_25.out hg)
      have HOY6_26 : Hid ((w26).ownsRow w.heap.size 67 2 (.slice oY6 ow.length pY6) ow.length (flatWrite (mkWrite (1 + oc.length) ow ow.length))) := owns_below HOY6_25.out bw (fun g hg => owns_lt HOY6_25.out hg)
      have HOC7_26 : Hid ((w26).ownsRow w.heap.size 9 1 (.slice oC7 n1 pC7) n1 (cs.map Value.string)) := owns_below HOC7_25.out bw (fun g hg => owns_lt HOC7_25.out hg)
      have HOP7_26 : Hid ((w26).ownsRow w.heap.size 67 2 (.slice oP7 n2 pP7) n2 (flatWrite ws)) := owns_below HOP7_25.out bw (fun g hg => owns_lt HOP7_25.out hg)
      have HOB8_26 : Hid ((w26).ownsRow w.heap.size 4 1 (.slice oB8 nK pB8) nK (ks.map Value.bool)) := owns_below HOB8_25.out bw (fun g hg => owns_lt HOB8_25.out hg)
      have HOC13_26 : Hid ((w26).ownsRow w.heap.size 9 1 (.slice oC13 n1 pC13) n1 (cs.map Value.string)) := owns_below HOC13_25.out bw (fun g hg => owns_lt HOC13_25.out hg)
      have HOP13_26 : Hid ((w26).ownsRow w.heap.size 67 2 (.slice oP13 n2 pP13) n2 (flatWrite ws)) := owns_below HOP13_25.out bw (fun g hg => owns_lt HOP13_25.out hg)
      have HOB14_26 : Hid ((w26).ownsRow w.heap.size 4 1 (.slice oB14 nK pB14) nK (ks.map Value.bool)) := owns_below HOB14_25.out bw (fun g hg => owns_lt HOB14_25.out hg)
      have HOX15_26 : Hid ((w26).ownsRow w.heap.size 9 1 (.slice oX15 oc.length pX15) oc.length (oc.map Value.string)) := owns_below HOX15_25.out bw (fun g hg => owns_lt HOX15_25.out hg)
      have HOY15_26 : Hid ((w26).ownsRow w.heap.size 67 2 (.slice oY15 ow.length pY15) ow.length (flatWrite ow)) := owns_below HOY15_25.out bw (fun g hg => owns_lt HOY15_25.out hg)
      have HBv1_26 : Hid ((w26).heap[qv1]? = some (.cells #[.slice a1 n1 c1, .slice a2 n2 c2] 46)) := blk_below HBv1_25.out bw
      have HBv2_26 : Hid ((w26).heap[qv2]? = some (.cells #[.slice oX3 oc.length pX3, .slice oY3 ow.length pY3] 27)) := blk_below HBv2_25.out bw
      have HBv3_26 : Hid ((w26).heap[qv3]? = some (.cells #[.slice oC4 n1 pC4, .slice oP4 n2 pP4] 27)) := blk_below HBv3_25.out bw
      have HBv4_26 : Hid ((w26).heap[qv4]? = some (.cells #[.slice oX6 oc.length pX6, .slice oY6 ow.length pY6] 27)) := blk_below HBv4_25.out bw
      have HNv1v5 : Hid (qv1 ≠ qv5) := fun e => by have h1 := (Array.getElem?_eq_some_iff.1 HBv1_25.out).1; omega
      have HNv2v5 : Hid (qv2 ≠ qv5) := fun e => by have h1 := (Array.getElem?_eq_some_iff.1 HBv2_25.out).1; omega
      have HNv3v5 : Hid (qv3 ≠ qv5) := fun e => by have h1 := (Array.getElem?_eq_some_iff.1 HBv3_25.out).1; omega
      have HNv4v5 : Hid (qv4 ≠ qv5) := fun e => by have h1 := (Array.getElem?_eq_some_iff.1 HBv4_25.out).1; omega
      have HBv5_26 : Hid ((w26).heap[qv5]? = some (.cells #[.slice oX15 oc.length pX15, .slice oY15 ow.length pY15] 27)) := by show _ = _; rw [hW26, ← hz26]; exact heap_alloc_new _ _
      have HGv5 : Hid (w.heap.size ≤ qv5) := by show _ ≤ _; rw [← hz26]; exact hb25.size
      clear hb25 HOC1_25 HOP1_25 HOB2_25 HOX3_25 HOY3_25 HOC4_25 HOP4_25 HOB5_25 HOX6_25 HOY6_25 HOC7_25 HOP7_25 HOB8_25 HOC13_25 HOP13_25 HOB14_25 HOX15_25 HOY15_25 HBv1_25 HBv2_25 HBv3_25 HBv4_25 bw hW26 hz26
      clear hs26 hqv5
      have cv2_0 : (w26).cell? ⟨qv2, 0, none⟩ = some (.slice oX3 oc.length pX3) := (cell_of HBv2_26.out 0).trans rfl
      have cv2_1 : (w26).cell? ⟨qv2, 1, none⟩ = some (.slice oY3 ow.length pY3) := (cell_of HBv2_26.out 1).trans rfl
      have cv5_0 : (w26).cell? ⟨qv5, 0, none⟩ = some (.slice oX15 oc.length pX15) := (cell_of HBv5_26.out 0).trans rfl
      have cv5_1 : (w26).cell? ⟨qv5, 1, none⟩ = some (.slice oY15 ow.length pY15) := (cell_of HBv5_26.out 1).trans rfl
      go_wp2_with fail
      refine (eqDisk_any oc.length oc ow.length ow _ _ _ _ _ _ _ ⟨HOX15_26.out, HOY15_26.out⟩ ⟨HOX3_26.out, HOY3_26.out⟩ (by have := HLV.out; omega) (by have := HLV.out; omega)).mono ?_
      rintro e w27 ⟨rfl, bw⟩
      have hb27 : Below w.heap.size w (w27) := hb26.trans (bw.mono hb26.size)
      have HM27 : Hid ((w26).heap.size ≤ (w27).heap.size) := bw.size
      have HOC1_27 : Hid ((w27).ownsRow w.heap.size 9 1 (.slice oC1 n1 pC1) n1 (cs.map Value.string)) := owns_below HOC1_26.out bw (fun g hg => owns_lt HOC1_26.out hg)
      have HOP1_27 : Hid ((w27).ownsRow w.heap.size 67 2 (.slice oP1 n2 pP1) n2 (flatWrite ws)) := owns_below HOP1_26.out bw (fun g hg => owns_lt HOP1_26.out hg)
      have HOB2_27 : Hid ((w27).ownsRow w.heap.size 4 1 (.slice oB2 nK pB2) nK (ks.map Value.bool)) := owns_below HOB2_26.out bw (fun g hg => owns_lt HOB2_26.out hg)
      have HOX3_27 : Hid ((w27).ownsRow w.heap.size 9 1 (.slice oX3 oc.length pX3) oc.length (oc.map Value.string)) := owns_below HOX3_26.out bw (fun g hg => owns_lt HOX3_26.out hg)
      have HOY3_27 : Hid ((w27).ownsRow w.heap.size 67 2 (.slice oY3 ow.length pY3) ow.length (flatWrite ow)) := owns_below HOY3_26.out bw (fun g hg => owns_lt HOY3_26.out hg)
      have HOC4_27 : Hid ((w27).ownsRow w.heap.size 9 1 (.slice oC4 n1 pC4) n1 ((mkT 1 cs n1).map Value.string)) := owns_below HOC4_26.out bw (fun g hg => owns_lt HOC4_26.out hg)
      have HOP4_27 : Hid ((w27).ownsRow w.heap.size 67 2 (.slice oP4 n2 pP4) n2 (flatWrite (mkWrite (1 + n1) ws n2))) := owns_below HOP4_26.out bw (fun g hg => owns_lt HOP4_26.out hg)
      have HOB5_27 : Hid ((w27).ownsRow w.heap.size 4 1 (.slice oB5 nK pB5) nK (ms.map Value.bool)) := owns_below HOB5_26.out bw (fun g hg => owns_lt HOB5_26.out hg)
      have HOX6_27 : Hid ((w27).ownsRow w.heap.size 9 1 (.slice oX6 oc.length pX6) oc.length ((mkT 1 oc oc.length).map Value.string)) := owns_below HOX6_26.out bw (fun g hg => owns_lt HOX6_26.out hg)
      have HOY6_27 : Hid ((w27).ownsRow w.heap.size 67 2 (.slice oY6 ow.length pY6) ow.length (flatWrite (mkWrite (1 + oc.length) ow ow.length))) := owns_below HOY6_26.out bw (fun g hg => owns_lt HOY6_26.out hg)
      have HOC7_27 : Hid ((w27).ownsRow w.heap.size 9 1 (.slice oC7 n1 pC7) n1 (cs.map Value.string)) := owns_below HOC7_26.out bw (fun g hg => owns_lt HOC7_26.out hg)
      have HOP7_27 : Hid ((w27).ownsRow w.heap.size 67 2 (.slice oP7 n2 pP7) n2 (flatWrite ws)) := owns_below HOP7_26.out bw (fun g hg => owns_lt HOP7_26.out hg)
      have HOB8_27 : Hid ((w27).ownsRow w.heap.size 4 1 (.slice oB8 nK pB8) nK (ks.map Value.bool)) := owns_below HOB8_26.out bw (fun g hg => owns_lt HOB8_26.out hg)
      have HOC13_27 : Hid ((w27).ownsRow w.heap.size 9 1 (.slice oC13 n1 pC13) n1 (cs.map Value.string)) := owns_below HOC13_26.out bw (fun g hg => owns_lt HOC13_26.out hg)
      have HOP13_27 : Hid ((w27).ownsRow w.heap.size 67 2 (.slice oP13 n2 pP13) n2 (flatWrite ws)) := owns_below HOP13_26.out bw (fun g hg => owns_lt HOP13_26.out hg)
      have HOB14_27 : Hid ((w27).ownsRow w.heap.size 4 1 (.slice oB14 nK pB14) nK (ks.map Value.bool)) := owns_below HOB14_26.out bw (fun g hg => owns_lt HOB14_26.out hg)
      have HOX15_27 : Hid ((w27).ownsRow w.heap.size 9 1 (.slice oX15 oc.length pX15) oc.length (oc.map Value.string)) := owns_below HOX15_26.out bw (fun g hg => owns_lt HOX15_26.out hg)
      have HOY15_27 : Hid ((w27).ownsRow w.heap.size 67 2 (.slice oY15 ow.length pY15) ow.length (flatWrite ow)) := owns_below HOY15_26.out bw (fun g hg => owns_lt HOY15_26.out hg)
      have HBv1_27 : Hid ((w27).heap[qv1]? = some (.cells #[.slice a1 n1 c1, .slice a2 n2 c2] 46)) := blk_below HBv1_26.out bw
      have HBv2_27 : Hid ((w27).heap[qv2]? = some (.cells #[.slice oX3 oc.length pX3, .slice oY3 ow.length pY3] 27)) := blk_below HBv2_26.out bw
      have HBv3_27 : Hid ((w27).heap[qv3]? = some (.cells #[.slice oC4 n1 pC4, .slice oP4 n2 pP4] 27)) := blk_below HBv3_26.out bw
      have HBv4_27 : Hid ((w27).heap[qv4]? = some (.cells #[.slice oX6 oc.length pX6, .slice oY6 ow.length pY6] 27)) := blk_below HBv4_26.out bw
      have HBv5_27 : Hid ((w27).heap[qv5]? = some (.cells #[.slice oX15 oc.length pX15, .slice oY15 ow.length pY15] 27)) := blk_below HBv5_26.out bw
      clear hb26 HOC1_26 HOP1_26 HOB2_26 HOX3_26 HOY3_26 HOC4_26 HOP4_26 HOB5_26 HOX6_26 HOY6_26 HOC7_26 HOP7_26 HOB8_26 HOC13_26 HOP13_26 HOB14_26 HOX15_26 HOY15_26 HBv1_26 HBv2_26 HBv3_26 HBv4_26 HBv5_26 bw
      clear cv2_0 cv2_1 cv5_0 cv5_1
      have cv4_0 : (w27).cell? ⟨qv4, 0, none⟩ = some (.slice oX6 oc.length pX6) := (cell_of HBv4_27.out 0).trans rfl
      have cv4_1 : (w27).cell? ⟨qv4, 1, none⟩ = some (.slice oY6 ow.length pY6) := (cell_of HBv4_27.out 1).trans rfl
      go_wp2_with fail
      refine (heldDisk_any oc.length (mkT 1 oc oc.length) ow.length (mkWrite (1 + oc.length) ow ow.length) _ _ _ _ ⟨HOX6_27.out, HOY6_27.out⟩ 1 (by omega) (by have := HLV.out; omega) (fun j hj => mkT_at 1 oc j hj _ hj) (fun j hj => by have e := mkWrite_at (1 + oc.length) ow j ow.length (Nat.le_refl _) hj; rw [e]; exact ⟨rfl, rfl⟩)).mono ?_
      rintro e w28 ⟨rfl, bw⟩
      have hb28 : Below w.heap.size w (w28) := hb27.trans (bw.mono hb27.size)
      have HM28 : Hid ((w27).heap.size ≤ (w28).heap.size) := bw.size
      have HOC1_28 : Hid ((w28).ownsRow w.heap.size 9 1 (.slice oC1 n1 pC1) n1 (cs.map Value.string)) := owns_below HOC1_27.out bw (fun g hg => owns_lt HOC1_27.out hg)
      have HOP1_28 : Hid ((w28).ownsRow w.heap.size 67 2 (.slice oP1 n2 pP1) n2 (flatWrite ws)) := owns_below HOP1_27.out bw (fun g hg => owns_lt HOP1_27.out hg)
      have HOB2_28 : Hid ((w28).ownsRow w.heap.size 4 1 (.slice oB2 nK pB2) nK (ks.map Value.bool)) := owns_below HOB2_27.out bw (fun g hg => owns_lt HOB2_27.out hg)
      have HOX3_28 : Hid ((w28).ownsRow w.heap.size 9 1 (.slice oX3 oc.length pX3) oc.length (oc.map Value.string)) := owns_below HOX3_27.out bw (fun g hg => owns_lt HOX3_27.out hg)
      have HOY3_28 : Hid ((w28).ownsRow w.heap.size 67 2 (.slice oY3 ow.length pY3) ow.length (flatWrite ow)) := owns_below HOY3_27.out bw (fun g hg => owns_lt HOY3_27.out hg)
      have HOC4_28 : Hid ((w28).ownsRow w.heap.size 9 1 (.slice oC4 n1 pC4) n1 ((mkT 1 cs n1).map Value.string)) := owns_below HOC4_27.out bw (fun g hg => owns_lt HOC4_27.out hg)
      have HOP4_28 : Hid ((w28).ownsRow w.heap.size 67 2 (.slice oP4 n2 pP4) n2 (flatWrite (mkWrite (1 + n1) ws n2))) := owns_below HOP4_27.out bw (fun g hg => owns_lt HOP4_27.out hg)
      have HOB5_28 : Hid ((w28).ownsRow w.heap.size 4 1 (.slice oB5 nK pB5) nK (ms.map Value.bool)) := owns_below HOB5_27.out bw (fun g hg => owns_lt HOB5_27.out hg)
      have HOX6_28 : Hid ((w28).ownsRow w.heap.size 9 1 (.slice oX6 oc.length pX6) oc.length ((mkT 1 oc oc.length).map Value.string)) := owns_below HOX6_27.out bw (fun g hg => owns_lt HOX6_27.out hg)
      have HOY6_28 : Hid ((w28).ownsRow w.heap.size 67 2 (.slice oY6 ow.length pY6) ow.length (flatWrite (mkWrite (1 + oc.length) ow ow.length))) := owns_below HOY6_27.out bw (fun g hg => owns_lt HOY6_27.out hg)
      have HOC7_28 : Hid ((w28).ownsRow w.heap.size 9 1 (.slice oC7 n1 pC7) n1 (cs.map Value.string)) := owns_below HOC7_27.out bw (fun g hg => owns_lt HOC7_27.out hg)
      have HOP7_28 : Hid ((w28).ownsRow w.heap.size 67 2 (.slice oP7 n2 pP7) n2 (flatWrite ws)) := owns_below HOP7_27.out bw (fun g hg => owns_lt HOP7_27.out hg)
      have HOB8_28 : Hid ((w28).ownsRow w.heap.size 4 1 (.slice oB8 nK pB8) nK (ks.map Value.bool)) := owns_below HOB8_27.out bw (fun g hg => owns_lt HOB8_27.out hg)
      have HOC13_28 : Hid ((w28).ownsRow w.heap.size 9 1 (.slice oC13 n1 pC13) n1 (cs.map Value.string)) := owns_below HOC13_27.out bw (fun g hg => owns_lt HOC13_27.out hg)
      have HOP13_28 : Hid ((w28).ownsRow w.heap.size 67 2 (.slice oP13 n2 pP13) n2 (flatWrite ws)) := owns_below HOP13_27.out bw (fun g hg => owns_lt HOP13_27.out hg)
      have HOB14_28 : Hid ((w28).ownsRow w.heap.size 4 1 (.slice oB14 nK pB14) nK (ks.map Value.bool)) := owns_below HOB14_27.out bw (fun g hg => owns_lt HOB14_27.out hg)
      have HOX15_28 : Hid ((w28).ownsRow w.heap.size 9 1 (.slice oX15 oc.length pX15) oc.length (oc.map Value.string)) := owns_below HOX15_27.out bw (fun g hg => owns_lt HOX15_27.out hg)
      have HOY15_28 : Hid ((w28).ownsRow w.heap.size 67 2 (.slice oY15 ow.length pY15) ow.length (flatWrite ow)) := owns_below HOY15_27.out bw (fun g hg => owns_lt HOY15_27.out hg)
      have HBv1_28 : Hid ((w28).heap[qv1]? = some (.cells #[.slice a1 n1 c1, .slice a2 n2 c2] 46)) := blk_below HBv1_27.out bw
      have HBv2_28 : Hid ((w28).heap[qv2]? = some (.cells #[.slice oX3 oc.length pX3, .slice oY3 ow.length pY3] 27)) := blk_below HBv2_27.out bw
      have HBv3_28 : Hid ((w28).heap[qv3]? = some (.cells #[.slice oC4 n1 pC4, .slice oP4 n2 pP4] 27)) := blk_below HBv3_27.out bw
      have HBv4_28 : Hid ((w28).heap[qv4]? = some (.cells #[.slice oX6 oc.length pX6, .slice oY6 ow.length pY6] 27)) := blk_below HBv4_27.out bw
      have HBv5_28 : Hid ((w28).heap[qv5]? = some (.cells #[.slice oX15 oc.length pX15, .slice oY15 ow.length pY15] 27)) := blk_below HBv5_27.out bw
      clear hb27 HOC1_27 HOP1_27 HOB2_27 HOX3_27 HOY3_27 HOC4_27 HOP4_27 HOB5_27 HOX6_27 HOY6_27 HOC7_27 HOP7_27 HOB8_27 HOC13_27 HOP13_27 HOB14_27 HOX15_27 HOY15_27 HBv1_27 HBv2_27 HBv3_27 HBv4_27 HBv5_27 bw
      have hkh16 : ¬ (((1 + oc.length + 2 * ow.length : Nat) : Int) < 0) := by omega
      clear cv4_0 cv4_1
      go_wp2_with fail
      go_ret
      exact ⟨rfl, hb28⟩


set_option maxRecDepth 100000 in
theorem lifted (os : Os) (started : os.Started) (H : Type) (enc : TypeId × Value → H) :
    ReturnsInHanded {} Try.checked os 10 .any (Rows.fnExactCrashSpec.pre6 enc Try.prog Try.f10 Rows.fnExactCrashRow.domain false) (Rows.fnExactCrashSpec.post enc Try.prog Try.f10 false true false false) := by
  refine returnsInHanded_of_change (C := Try.checked) own started (by kernel_rfl) Try.func10
    (ChangeSpec.witness6 (enc := enc) (C := Try.checked) false ⟨#[], #[.agg #[.slice none 0 0, .slice none 0 0], .slice none 0 0], []⟩ 8 (by kernel_rfl) (by kernel_rfl) (by kernel_rfl) (by kernel_rfl)) ?_
  intro W base args ds gs before hval0 hW _ _
  have hval : ∀ (j : Nat) t v, Try.f10.params[j]? = some t → args[j]? = some v → Value.okWide Try.prog W .any base t v := hval0
  have hW' := hW
  obtain ⟨p, q, hA0, hV, rfl, hfz, hnd⟩ := hW
  have hA : DataW.TrodAll enc Try.prog W 0 (fun _ => true) true Try.f10.params.toList args.toList ds p := hA0
  rw [Try.params10] at hA hval
  obtain ⟨v0, vs0, d0, ds0, p0, q0, hargs, rfl, rfl, h0, r0⟩ := trodAll_cons hA
  obtain ⟨v1, vs1, d1, ds1, p1, q1, hargs1, rfl, rfl, h1, r1⟩ := trodAll_cons r0
  obtain ⟨rfl, rfl, rfl⟩ := trodAll_nil r1
  obtain rfl : args = #[v0, v1] := by cases args; simp_all
  obtain ⟨rfl, rfl⟩ := trodVars_none hV
  have k0 := h0
  have lt0 : ∀ x ∈ p0, x.block < W.heap.size := by obtain ⟨m, hm⟩ := k0; exact DataW.trod_lt m _ _ _ hm
  obtain ⟨da0, dn0, dc0, dcs0, db0, dm0, dd0, dws0, rfl, ga0, gb0, gc0, gd0, ge0, gf0⟩ := openDisk (hval 0 46 v0 rfl rfl) h0
  obtain ⟨a1, len1, cap1, rfl⟩ := okWide_slice Try.underlying28 (hval 1 28 v1 rfl rfl)
  have k1 := h1
  have lt1 : ∀ x ∈ p1, x.block < W.heap.size := by obtain ⟨m, hm⟩ := k1; exact DataW.trod_lt m _ _ _ hm
  obtain ⟨f1, g1, m1⟩ : ∃ ks, ArgBool W W.heap.size a1 len1 ks ∧ len1 ≤ maxLen := (by obtain ⟨fuel, hf⟩ := h1; exact openBoolS (by simpa [Value.cells] using hf))
  clear hA0 hval0
  refine (walk1 W da0 dn0 dc0 dcs0 db0 dm0 dd0 dws0 ga0 gb0 gc0 gd0 ge0 gf0 a1 len1 cap1 f1 g1 m1).mono fun e W' ⟨he, bel⟩ => ?_
  subst he
  exact ⟨_, rfl, _, _, _, [], _, [], hW', trodAll_mk1 (shut_bool Try.underlying4 _), (trodAll_cons_mk (Below.trod laidOut (by kernel_rfl) (of_decide_eq_true (by kernel_rfl)) k0 bel lt0) (trodAll_cons_mk (Below.trod laidOut (by kernel_rfl) (of_decide_eq_true (by kernel_rfl)) k1 bel lt1) trodAll_mk0)), rfl, bel.frame _, fun h => by cases h⟩

theorem over : Rows.fnExactCrashRow.holds Try.pinned (OpenSpec.ofChange Rows.fnExactCrashSpec) :=
  OpenClaim.holds_of_wide 10 Try.f10 rfl rfl rfl rfl rfl rfl rfl ⟨rfl, rfl, rfl, rfl, rfl⟩ rfl rfl rfl rfl rfl (by kernel_rfl) Try.func10 (by kernel_rfl)
    (of_decide_eq_true (by kernel_rfl)) (by unfold Func.isWrapper; first | (rw [if_pos (by decide +kernel)]; kernel_rfl) | (rw [if_neg (by decide +kernel)]; exact ⟨rfl, rfl⟩))
    (fun os started H enc _ => lifted os started H enc)
end fnExactCrash

theorem fnExactCrash_holds : Rows.FnExactCrashSaid := fnExactCrash.over
#print axioms fnExactCrash_holds
end Go.Proofs.Ytckjbgpdbehmaaa
