/- HitsAny: at every argument the program answers as the specification (the law answers true), and it writes into no argument: no condition. -/
import Derived.Test.YtlmenolcgaakeaaFnExactHitsAnyE
import Derived.Test.YtlmenolcgaakeaaRows
import Derived.WalkKit
import Derived.ProofKit
import Derived.OpenShut
import Derived.ShutString
import Derived.ChangeOld
import Derived.Below
import Derived.Deep.RegionHeld3
import Derived.Deep.DrawnRows
import Derived.Deep.CutRange
import Derived.Deep.DeepCutAuto
namespace Go.Proofs.Ytlmenolcgaakeaa
namespace fnExactHitsAny
open Go.ChangeShapes Go.WideShapes Go.ChangeAt Go.RowKit
open Go.ChangeMaps (open_string shut_string)
attribute [local go_sem ↓] Go.wp_at_zero Go.wp_at_succ

theorem own : ownKnob Try.prog.godebug = none := by kernel_rfl
theorem laidOut : laidOutB Try.prog = true := by kernel_rfl
open Classical in
theorem bool_is {P : Prop} {prog : Program} {f : FuncId} {args : Array Value} {w : World} (h : Calls prog f args w fun e w' => BoolIs P w e w') : Calls prog f args w fun e w' => e = .returned (.bool (decide P)) ∧ Below w.heap.size w w' :=
  h.mono fun e w' ⟨t, h1, h2, h3⟩ => ⟨by rw [h1, (show t = decide P by rw [Bool.eq_iff_iff, h2, decide_eq_true_iff])], h3⟩

open Go.Lib hiding intOf
set_option maxHeartbeats 16000000 in
set_option maxRecDepth 100000 in
theorem walk1 (w : World) (a4 : Option Addr) (n4 c4 : Nat) (l : List (Int × ByteArray × ByteArray × Int)) (h4 : ArgBan w w.heap.size a4 n4 l) (hn4 : n4 ≤ maxLen) (hz4 : ∀ x ∈ l, (x.2.1).size ≤ maxLen ∧ (x.2.2.1).size ≤ maxLen) (p : ByteArray) (a1 : Option Addr) (n1 c1 : Nat) (xs : List ByteArray) (a2 : Option Addr) (n2 c2 : Nat) (ys : List ByteArray) (st : Int) (a3 : Option Addr) (n3 c3 : Nat) (fs : List (ByteArray × ByteArray)) (d : ByteArray) (u : Int) (h1 : ArgT w w.heap.size a1 n1 xs) (h2 : ArgT w w.heap.size a2 n2 ys) (h3 : ArgF w w.heap.size a3 n3 fs) (hn1 : n1 ≤ maxLen) (hn2 : n2 ≤ maxLen) (hn3 : n3 ≤ maxLen) (hs1 : ∀ i, i < n1 → (textAt xs i).size ≤ maxLen) (hs2 : ∀ i, i < n2 → (textAt ys i).size ≤ maxLen) (hs3 : WalkF n3 fs) (hp : p.size ≤ maxLen) (hx : d.size ≤ maxLen) :
    Calls Try.prog 5 #[.slice a4 n4 c4, .agg #[.string p, .slice a1 n1 c1, .slice a2 n2 c2, .int .i64 st, .slice a3 n3 c3, .string d, .int .i64 u]] w fun e w' => e = .returned (.bool true) ∧ Below w.heap.size w w' := by
  classical
  have HA4 : Hid (∀ W, Below w.heap.size w W → ArgBan W w.heap.size a4 n4 l) := fun W h => h4.below h
  have HN4 : Hid (n4 ≤ maxLen) := hn4
  have HZ4 : Hid (∀ x ∈ l, (x.2.1).size ≤ maxLen ∧ (x.2.2.1).size ≤ maxLen) := hz4
  clear h4 hn4 hz4
  have HA1 : Hid (∀ W, Below w.heap.size w W → ArgT W w.heap.size a1 n1 xs) := fun W h => h1.below h
  have HA2 : Hid (∀ W, Below w.heap.size w W → ArgT W w.heap.size a2 n2 ys) := fun W h => h2.below h
  have HA3 : Hid (∀ W, Below w.heap.size w W → ArgF W w.heap.size a3 n3 fs) := fun W h => h3.below h
  have HL3 : Hid (fs.length = n3) := h3.len
  have HN1 : Hid (n1 ≤ maxLen) := hn1
  have HN2 : Hid (n2 ≤ maxLen) := hn2
  have HN3 : Hid (n3 ≤ maxLen) := hn3
  have HS1 : Hid (∀ i, i < n1 → (textAt xs i).size ≤ maxLen) := hs1
  have HS2 : Hid (∀ i, i < n2 → (textAt ys i).size ≤ maxLen) := hs2
  have HS3 : Hid (WalkF n3 fs) := hs3
  have HPM : Hid (p.size ≤ maxLen) := hp
  have HX : Hid (d.size ≤ maxLen) := hx
  clear h1 h2 h3 hn1 hn2 hn3 hs1 hs2 hs3 hp hx
  have hb0 : Below w.heap.size w w := Below.refl _ _
  go_enter Try.func5, Try.ntmps5
  go_upto_region 1 with fail
  obtain ⟨qv1, hqv1⟩ : ∃ q, q = (w).heap.size := ⟨_, rfl⟩
  obtain ⟨w1, hW1⟩ : ∃ W, W = (w).alloc (.cells #[.string p, .slice a1 n1 c1, .slice a2 n2 c2, .int .i64 st, .slice a3 n3 c3, .string d, .int .i64 u] 34) := ⟨_, rfl⟩
  have hz1 : (w).heap.size = qv1 := hqv1.symm
  first | rw [← hW1, ← hqv1] | rw [← hW1]
  have hs1 : w1.heap.size = qv1 + 1 := by rw [hW1, ← hz1]; simp
  have bw : Below (w).heap.size (w) w1 := by rw [hW1]; exact (Below.refl _ _).alloc (Nat.le_refl _) _
  have hb1 : Below w.heap.size w (w1) := hb0.trans (bw.mono hb0.size)
  have HM1 : Hid ((w).heap.size ≤ (w1).heap.size) := bw.size
  have HBv1_1 : Hid ((w1).heap[qv1]? = some (.cells #[.string p, .slice a1 n1 c1, .slice a2 n2 c2, .int .i64 st, .slice a3 n3 c3, .string d, .int .i64 u] 34)) := by show _ = _; rw [hW1, ← hz1]; exact heap_alloc_new _ _
  have HGv1 : Hid (w.heap.size ≤ qv1) := by show _ ≤ _; rw [← hz1]; exact hb0.size
  clear hb0 bw hW1 hz1
  clear hs1 hqv1
  go_wp2_with fail
  refine (szBanS_any 1048576 (by omega) (by omega) w.heap.size a4 n4 c4 l _ (HA4.out _ hb1) hb1.size HN4.out HZ4.out).mono ?_
  rintro e w2 ⟨r1, rfl, hl1, hr1, bw⟩
  have hb2 : Below w.heap.size w (w2) := hb1.trans (bw.mono hb1.size)
  have HM2 : Hid ((w1).heap.size ≤ (w2).heap.size) := bw.size
  have HBv1_2 : Hid ((w2).heap[qv1]? = some (.cells #[.string p, .slice a1 n1 c1, .slice a2 n2 c2, .int .i64 st, .slice a3 n3 c3, .string d, .int .i64 u] 34)) := blk_below HBv1_1.out bw
  clear hb1 HBv1_1 bw
  by_cases hc1 : r1 < 0
  · clear hr1
    go_wp2_with fail
    go_ret
    exact ⟨rfl, hb2⟩
  · have hm4 := (hr1 (by omega)).1
    clear hr1
    have cv1_0 : (w2).cell? ⟨qv1, 0, none⟩ = some (.string p) := (cell_of HBv1_2.out 0).trans rfl
    have cv1_1 : (w2).cell? ⟨qv1, 1, none⟩ = some (.slice a1 n1 c1) := (cell_of HBv1_2.out 1).trans rfl
    have cv1_2 : (w2).cell? ⟨qv1, 2, none⟩ = some (.slice a2 n2 c2) := (cell_of HBv1_2.out 2).trans rfl
    have cv1_3 : (w2).cell? ⟨qv1, 3, none⟩ = some (.int .i64 st) := (cell_of HBv1_2.out 3).trans rfl
    have cv1_4 : (w2).cell? ⟨qv1, 4, none⟩ = some (.slice a3 n3 c3) := (cell_of HBv1_2.out 4).trans rfl
    have cv1_5 : (w2).cell? ⟨qv1, 5, none⟩ = some (.string d) := (cell_of HBv1_2.out 5).trans rfl
    have cv1_6 : (w2).cell? ⟨qv1, 6, none⟩ = some (.int .i64 u) := (cell_of HBv1_2.out 6).trans rfl
    go_wp2_with fail
    refine (szObj_any r1 (by omega) (by omega) p a1 n1 c1 xs a2 n2 c2 ys st a3 n3 c3 fs d u w.heap.size _ (HA1.out _ hb2) (HA2.out _ hb2) (HA3.out _ hb2) hb2.size HN1.out HN2.out HN3.out HS1.out HS2.out HS3.out HPM.out HX.out).mono ?_
    rintro e w3 ⟨r2, rfl, hl2, hr2, bw⟩
    have hb3 : Below w.heap.size w (w3) := hb2.trans (bw.mono hb2.size)
    have HM3 : Hid ((w2).heap.size ≤ (w3).heap.size) := bw.size
    have HBv1_3 : Hid ((w3).heap[qv1]? = some (.cells #[.string p, .slice a1 n1 c1, .slice a2 n2 c2, .int .i64 st, .slice a3 n3 c3, .string d, .int .i64 u] 34)) := blk_below HBv1_2.out bw
    clear hb2 HBv1_2 bw
    clear cv1_0 cv1_1 cv1_2 cv1_3 cv1_4 cv1_5 cv1_6
    by_cases hc2 : r2 < 0
    · clear hr2
      go_wp2_with fail
      go_ret
      exact ⟨rfl, hb3⟩
    · obtain ⟨hrm, ⟨hpp1, hxx1⟩, ⟨hm1, hz1⟩, ⟨hm2, hz2⟩, hm3, hz3⟩ := hr2 (by omega)
      have HG : Hid (∀ x, (getV fs x).size ≤ 1048576) := fun x => by
        unfold getV
        split
        · rename_i h
          have := szTo_get fs n3 (atF fs x) (by rw [← HL3.out]; exact h)
          omega
        · decide
      have HC : Hid (CopyF fs) := fun i hi => by
        have := szTo_get fs n3 i (by rw [← HL3.out]; exact hi)
        omega
      obtain ⟨P, hP⟩ : ∃ P, P = decide (AnyP l p xs ys st fs d u) := ⟨_, rfl⟩
      have HSP : Hid (∀ (oL : Option Addr) (pL B0 : Nat) (u1 u2 u3 : Value) (B : Nat) (W : World), W.ownsRow B0 26 4 (.slice oL n4 pL) n4 (flatBan l) → ObjO W B u1 n1 xs u2 n2 ys u3 n3 fs → Calls Try.prog 16 #[.slice oL n4 pL, .agg #[.string p, u1, u2, .int .i64 st, u3, .string d, .int .i64 u]] W fun e w' => e = .returned (.bool P) ∧ Below W.heap.size W w') := by
        intro oL pL B0 u1 u2 u3 B W hL ho
        obtain ⟨oa, ca, rfl⟩ := slice_of_owns ho.names
        obtain ⟨ob, cb, rfl⟩ := slice_of_owns ho.vals
        rw [hP]
        exact bool_is (specHitsAny_any oL n4 pL l p _ n1 _ xs _ n2 _ ys st u3 n3 B fs d u W (ban_view hL) (by omega) HZ4.out (texts_view ho.names) (texts_view ho.vals) (FieldsV.of_owns ho.flds) (by omega) (by omega) (by omega) HS1.out HS2.out HS3.out HPM.out HX.out (HG.out _))
      have HIM : Hid (∀ (oL : Option Addr) (pL B0 : Nat) (u1 u2 u3 : Value) (B : Nat) (W : World), W.ownsRow B0 26 4 (.slice oL n4 pL) n4 (flatBan l) → ObjO W B u1 n1 xs u2 n2 ys u3 n3 fs → Calls Try.prog 18 #[.slice oL n4 pL, .agg #[.string p, u1, u2, .int .i64 st, u3, .string d, .int .i64 u]] W fun e w' => e = .returned (.bool P) ∧ Below W.heap.size W w') := by
        intro oL pL B0 u1 u2 u3 B W hL ho
        obtain ⟨oa, ca, rfl⟩ := slice_of_owns ho.names
        obtain ⟨ob, cb, rfl⟩ := slice_of_owns ho.vals
        rw [hP]
        exact bool_is (implHitsAny_any oL n4 pL l p _ n1 _ xs _ n2 _ ys st u3 n3 B fs d u W (ban_view hL) (by omega) HZ4.out (texts_view ho.names) (texts_view ho.vals) (FieldsV.of_owns ho.flds) (by omega) (by omega) (by omega) HS1.out HS2.out HS3.out HC.out HPM.out HX.out (HG.out _))
      clear hP hr2 hz1 hz2 hz3 hrm
      have hPP : (P != P) = false := by simp
      go_upto_region 8 with fail
      refine wp_region_held_drew (S := fun W => W.heap[qv1]? = some (.cells #[.string p, .slice a1 n1 c1, .slice a2 n2 c2, .int .i64 st, .slice a3 n3 c3, .string d, .int .i64 u] 34)) (by kernel_rfl) HBv1_3.out (fun _ => ?_)
      obtain ⟨w4, hX⟩ : ∃ X, X = w3.drew := ⟨_, rfl⟩
      have bw : Below w3.heap.size w3 w4 := by rw [hX]; exact (Below.refl _ _).drew
      rw [← hX]
      have hb4 : Below w.heap.size w (w4) := hb3.trans (bw.mono hb3.size)
      have HM4 : Hid ((w3).heap.size ≤ (w4).heap.size) := bw.size
      have HBv1_4 : Hid ((w4).heap[qv1]? = some (.cells #[.string p, .slice a1 n1 c1, .slice a2 n2 c2, .int .i64 st, .slice a3 n3 c3, .string d, .int .i64 u] 34)) := blk_below HBv1_3.out bw
      have hS4 : w4.heap[qv1]? = some (.cells #[.string p, .slice a1 n1 c1, .slice a2 n2 c2, .int .i64 st, .slice a3 n3 c3, .string d, .int .i64 u] 34) := HBv1_4.out
      clear hb3 HBv1_3 bw hX
      refine wpAnyH_takeD (i := 0) (v := .slice a4 n4 c4) (some 20) rfl rfl (by kernel_rfl) (by kernel_rfl) (by kernel_rfl) (fun _ _ _ h => h) (Or.inl ⟨by rfl, by intro W _; go_simp⟩) hS4 ?_
      simp only [Act.put, List.setIfInBounds_toArray, List.set_cons_zero, List.set_cons_succ]
      refine wpAnyH_takeD (i := 2) (v := .agg #[.string p, .slice a1 n1 c1, .slice a2 n2 c2, .int .i64 st, .slice a3 n3 c3, .string d, .int .i64 u]) (some 22) rfl rfl (by kernel_rfl) (by kernel_rfl) (by kernel_rfl) (fun _ _ _ h => h) (Or.inl ⟨by rfl, by intro W hW; have hhv1 := hW; have y0 := (cell_of hhv1 0).trans rfl; have y1 := (cell_of hhv1 1).trans rfl; have y2 := (cell_of hhv1 2).trans rfl; have y3 := (cell_of hhv1 3).trans rfl; have y4 := (cell_of hhv1 4).trans rfl; have y5 := (cell_of hhv1 5).trans rfl; have y6 := (cell_of hhv1 6).trans rfl; go_simp⟩) hS4 ?_
      simp only [Act.put, List.setIfInBounds_toArray, List.set_cons_zero, List.set_cons_succ]
      refine wpAnyH_ready (rs := [1]) (by kernel_rfl) (by simp) ?_
      refine AllReadyH.cons rfl (fun K hK => ?_) AllReadyH.nil
      go_simp
      refine (toBanS_any w.heap.size a4 n4 c4 l _ (HA4.out _ hb4) hb4.size hm4).mono ?_
      rintro e w5 ⟨vv, rfl, ownL1, bw⟩
      obtain ⟨oL1, pL1, rfl⟩ := slice_of_owns ownL1
      have hb5 : Below w.heap.size w (w5) := hb4.trans (bw.mono hb4.size)
      have HM5 : Hid ((w4).heap.size ≤ (w5).heap.size) := bw.size
      have HBv1_5 : Hid ((w5).heap[qv1]? = some (.cells #[.string p, .slice a1 n1 c1, .slice a2 n2 c2, .int .i64 st, .slice a3 n3 c3, .string d, .int .i64 u] 34)) := blk_below HBv1_4.out bw
      have HOL1_5 : Hid ((w5).ownsRow w.heap.size 26 4 (.slice oL1 n4 pL1) n4 (flatBan l)) := owns_wide ownL1 hb4.size
      have LOL1 : Hid (∀ g, (Value.ownBlock (.slice oL1 n4 pL1)) = some g → (w4).heap.size ≤ g) := fun g hg => owns_ge ownL1 hg
      have HIL1 : Hid (∀ g, (Value.ownBlock (.slice oL1 n4 pL1)) = some g → g < (w5).heap.size) := fun g hg => owns_lt ownL1 hg
      clear ownL1
      clear hb4 HBv1_4 bw
      have hS5 : w5.heap[qv1]? = some (.cells #[.string p, .slice a1 n1 c1, .slice a2 n2 c2, .int .i64 st, .slice a3 n3 c3, .string d, .int .i64 u] 34) := HBv1_5.out
      refine hK.out _ _ hS5 (fun _ => ?_)
      clear hK K hS4
      refine wpAnyH_ready (rs := [3]) (by kernel_rfl) (by simp) ?_
      refine AllReadyH.cons rfl (fun K hK => ?_) AllReadyH.nil
      go_simp
      refine (toObj_any p a1 n1 c1 xs a2 n2 c2 ys st a3 n3 c3 fs d u w.heap.size _ (HA1.out _ hb5) (HA2.out _ hb5) (HA3.out _ hb5) hb5.size hm1 hm2 hm3).mono ?_
      rintro e w6 ⟨vv1, vv2, vv3, rfl, ⟨ownN2, ownV2, ownF2, ne2⟩, bw⟩
      obtain ⟨oN2, pN2, rfl⟩ := slice_of_owns ownN2
      obtain ⟨oV2, pV2, rfl⟩ := slice_of_owns ownV2
      obtain ⟨oF2, pF2, rfl⟩ := slice_of_owns ownF2
      have AP2 : Hid (∀ j, (Value.slice oN2 n1 pN2).ownBlock = some j → (Value.slice oV2 n2 pV2).ownBlock ≠ some j) := ne2
      clear ne2
      have hb6 : Below w.heap.size w (w6) := hb5.trans (bw.mono hb5.size)
      have HM6 : Hid ((w5).heap.size ≤ (w6).heap.size) := bw.size
      have HOL1_6 : Hid ((w6).ownsRow w.heap.size 26 4 (.slice oL1 n4 pL1) n4 (flatBan l)) := owns_below HOL1_5.out bw (fun g hg => owns_lt HOL1_5.out hg)
      have HBv1_6 : Hid ((w6).heap[qv1]? = some (.cells #[.string p, .slice a1 n1 c1, .slice a2 n2 c2, .int .i64 st, .slice a3 n3 c3, .string d, .int .i64 u] 34)) := blk_below HBv1_5.out bw
      have HON2_6 : Hid ((w6).ownsRow w.heap.size 9 1 (.slice oN2 n1 pN2) n1 (xs.map Value.string)) := owns_wide ownN2 hb5.size
      have LON2 : Hid (∀ g, (Value.ownBlock (.slice oN2 n1 pN2)) = some g → (w5).heap.size ≤ g) := fun g hg => owns_ge ownN2 hg
      have HIN2 : Hid (∀ g, (Value.ownBlock (.slice oN2 n1 pN2)) = some g → g < (w6).heap.size) := fun g hg => owns_lt ownN2 hg
      clear ownN2
      have HOV2_6 : Hid ((w6).ownsRow w.heap.size 9 1 (.slice oV2 n2 pV2) n2 (ys.map Value.string)) := owns_wide ownV2 hb5.size
      have LOV2 : Hid (∀ g, (Value.ownBlock (.slice oV2 n2 pV2)) = some g → (w5).heap.size ≤ g) := fun g hg => owns_ge ownV2 hg
      have HIV2 : Hid (∀ g, (Value.ownBlock (.slice oV2 n2 pV2)) = some g → g < (w6).heap.size) := fun g hg => owns_lt ownV2 hg
      clear ownV2
      have HOF2_6 : Hid ((w6).ownsRow w.heap.size 83 2 (.slice oF2 n3 pF2) n3 (flatF fs)) := owns_wide ownF2 hb5.size
      have LOF2 : Hid (∀ g, (Value.ownBlock (.slice oF2 n3 pF2)) = some g → (w5).heap.size ≤ g) := fun g hg => owns_ge ownF2 hg
      have HIF2 : Hid (∀ g, (Value.ownBlock (.slice oF2 n3 pF2)) = some g → g < (w6).heap.size) := fun g hg => owns_lt ownF2 hg
      clear ownF2
      clear hb5 HOL1_5 HBv1_5 bw
      have hS6 : w6.heap[qv1]? = some (.cells #[.string p, .slice a1 n1 c1, .slice a2 n2 c2, .int .i64 st, .slice a3 n3 c3, .string d, .int .i64 u] 34) := HBv1_6.out
      refine hK.out _ _ hS6 (fun _ => ?_)
      clear hK K hS5
      refine wpAnyH_ready (rs := [4]) (by kernel_rfl) (by simp) ?_
      refine AllReadyH.cons rfl (fun K hK => ?_) AllReadyH.nil
      go_simp
      refine (HSP.out _ _ _ _ _ _ _ _ HOL1_6.out ⟨HON2_6.out, HOV2_6.out, HOF2_6.out, AP2.out⟩).mono ?_
      rintro e w7 ⟨rfl, bw⟩
      have hb7 : Below w.heap.size w (w7) := hb6.trans (bw.mono hb6.size)
      have HM7 : Hid ((w6).heap.size ≤ (w7).heap.size) := bw.size
      have HOL1_7 : Hid ((w7).ownsRow w.heap.size 26 4 (.slice oL1 n4 pL1) n4 (flatBan l)) := owns_below HOL1_6.out bw (fun g hg => owns_lt HOL1_6.out hg)
      have HON2_7 : Hid ((w7).ownsRow w.heap.size 9 1 (.slice oN2 n1 pN2) n1 (xs.map Value.string)) := owns_below HON2_6.out bw (fun g hg => owns_lt HON2_6.out hg)
      have HOV2_7 : Hid ((w7).ownsRow w.heap.size 9 1 (.slice oV2 n2 pV2) n2 (ys.map Value.string)) := owns_below HOV2_6.out bw (fun g hg => owns_lt HOV2_6.out hg)
      have HOF2_7 : Hid ((w7).ownsRow w.heap.size 83 2 (.slice oF2 n3 pF2) n3 (flatF fs)) := owns_below HOF2_6.out bw (fun g hg => owns_lt HOF2_6.out hg)
      have HBv1_7 : Hid ((w7).heap[qv1]? = some (.cells #[.string p, .slice a1 n1 c1, .slice a2 n2 c2, .int .i64 st, .slice a3 n3 c3, .string d, .int .i64 u] 34)) := blk_below HBv1_6.out bw
      clear hb6 HOL1_6 HON2_6 HOV2_6 HOF2_6 HBv1_6 bw
      have hS7 : w7.heap[qv1]? = some (.cells #[.string p, .slice a1 n1 c1, .slice a2 n2 c2, .int .i64 st, .slice a3 n3 c3, .string d, .int .i64 u] 34) := HBv1_7.out
      refine hK.out _ _ hS7 (fun _ => ?_)
      clear hK K hS6
      refine wpAnyH_takeD (i := 5) (v := .bool P) (some 6) rfl rfl (by kernel_rfl) (by kernel_rfl) (by kernel_rfl) (fun _ _ _ h => h) (Or.inl ⟨by rfl, by intro W _; go_simp⟩) hS7 ?_
      simp only [Act.put, List.setIfInBounds_toArray, List.set_cons_zero, List.set_cons_succ]
      clear hS7
      refine wpAnyH_done (by kernel_rfl) ?_ _
      go_wp2_with fail
      refine (toBanS_any w.heap.size a4 n4 c4 l _ (HA4.out _ hb7) hb7.size hm4).mono ?_
      rintro e w8 ⟨vv, rfl, ownL3, bw⟩
      obtain ⟨oL3, pL3, rfl⟩ := slice_of_owns ownL3
      have hb8 : Below w.heap.size w (w8) := hb7.trans (bw.mono hb7.size)
      have HM8 : Hid ((w7).heap.size ≤ (w8).heap.size) := bw.size
      have HOL1_8 : Hid ((w8).ownsRow w.heap.size 26 4 (.slice oL1 n4 pL1) n4 (flatBan l)) := owns_below HOL1_7.out bw (fun g hg => owns_lt HOL1_7.out hg)
      have HON2_8 : Hid ((w8).ownsRow w.heap.size 9 1 (.slice oN2 n1 pN2) n1 (xs.map Value.string)) := owns_below HON2_7.out bw (fun g hg => owns_lt HON2_7.out hg)
      have HOV2_8 : Hid ((w8).ownsRow w.heap.size 9 1 (.slice oV2 n2 pV2) n2 (ys.map Value.string)) := owns_below HOV2_7.out bw (fun g hg => owns_lt HOV2_7.out hg)
      have HOF2_8 : Hid ((w8).ownsRow w.heap.size 83 2 (.slice oF2 n3 pF2) n3 (flatF fs)) := owns_below HOF2_7.out bw (fun g hg => owns_lt HOF2_7.out hg)
      have HBv1_8 : Hid ((w8).heap[qv1]? = some (.cells #[.string p, .slice a1 n1 c1, .slice a2 n2 c2, .int .i64 st, .slice a3 n3 c3, .string d, .int .i64 u] 34)) := blk_below HBv1_7.out bw
      have HOL3_8 : Hid ((w8).ownsRow w.heap.size 26 4 (.slice oL3 n4 pL3) n4 (flatBan l)) := owns_wide ownL3 hb7.size
      have LOL3 : Hid (∀ g, (Value.ownBlock (.slice oL3 n4 pL3)) = some g → (w7).heap.size ≤ g) := fun g hg => owns_ge ownL3 hg
      have HIL3 : Hid (∀ g, (Value.ownBlock (.slice oL3 n4 pL3)) = some g → g < (w8).heap.size) := fun g hg => owns_lt ownL3 hg
      clear ownL3
      clear hb7 HOL1_7 HON2_7 HOV2_7 HOF2_7 HBv1_7 bw
      have cv1_0 : (w8).cell? ⟨qv1, 0, none⟩ = some (.string p) := (cell_of HBv1_8.out 0).trans rfl
      have cv1_1 : (w8).cell? ⟨qv1, 1, none⟩ = some (.slice a1 n1 c1) := (cell_of HBv1_8.out 1).trans rfl
      have cv1_2 : (w8).cell? ⟨qv1, 2, none⟩ = some (.slice a2 n2 c2) := (cell_of HBv1_8.out 2).trans rfl
      have cv1_3 : (w8).cell? ⟨qv1, 3, none⟩ = some (.int .i64 st) := (cell_of HBv1_8.out 3).trans rfl
      have cv1_4 : (w8).cell? ⟨qv1, 4, none⟩ = some (.slice a3 n3 c3) := (cell_of HBv1_8.out 4).trans rfl
      have cv1_5 : (w8).cell? ⟨qv1, 5, none⟩ = some (.string d) := (cell_of HBv1_8.out 5).trans rfl
      have cv1_6 : (w8).cell? ⟨qv1, 6, none⟩ = some (.int .i64 u) := (cell_of HBv1_8.out 6).trans rfl
      go_wp2_with fail
      refine (toObj_any p a1 n1 c1 xs a2 n2 c2 ys st a3 n3 c3 fs d u w.heap.size _ (HA1.out _ hb8) (HA2.out _ hb8) (HA3.out _ hb8) hb8.size hm1 hm2 hm3).mono ?_
      rintro e w9 ⟨vv1, vv2, vv3, rfl, ⟨ownN4, ownV4, ownF4, ne4⟩, bw⟩
      obtain ⟨oN4, pN4, rfl⟩ := slice_of_owns ownN4
      obtain ⟨oV4, pV4, rfl⟩ := slice_of_owns ownV4
      obtain ⟨oF4, pF4, rfl⟩ := slice_of_owns ownF4
      have AP4 : Hid (∀ j, (Value.slice oN4 n1 pN4).ownBlock = some j → (Value.slice oV4 n2 pV4).ownBlock ≠ some j) := ne4
      clear ne4
      have hb9 : Below w.heap.size w (w9) := hb8.trans (bw.mono hb8.size)
      have HM9 : Hid ((w8).heap.size ≤ (w9).heap.size) := bw.size
      have HOL1_9 : Hid ((w9).ownsRow w.heap.size 26 4 (.slice oL1 n4 pL1) n4 (flatBan l)) := owns_below HOL1_8.out bw (fun g hg => owns_lt HOL1_8.out hg)
      have HON2_9 : Hid ((w9).ownsRow w.heap.size 9 1 (.slice oN2 n1 pN2) n1 (xs.map Value.string)) := owns_below HON2_8.out bw (fun g hg => owns_lt HON2_8.out hg)
      have HOV2_9 : Hid ((w9).ownsRow w.heap.size 9 1 (.slice oV2 n2 pV2) n2 (ys.map Value.string)) := owns_below HOV2_8.out bw (fun g hg => owns_lt HOV2_8.out hg)
      have HOF2_9 : Hid ((w9).ownsRow w.heap.size 83 2 (.slice oF2 n3 pF2) n3 (flatF fs)) := owns_below HOF2_8.out bw (fun g hg => owns_lt HOF2_8.out hg)
      have HOL3_9 : Hid ((w9).ownsRow w.heap.size 26 4 (.slice oL3 n4 pL3) n4 (flatBan l)) := owns_below HOL3_8.out bw (fun g hg => owns_lt HOL3_8.out hg)
      have HBv1_9 : Hid ((w9).heap[qv1]? = some (.cells #[.string p, .slice a1 n1 c1, .slice a2 n2 c2, .int .i64 st, .slice a3 n3 c3, .string d, .int .i64 u] 34)) := blk_below HBv1_8.out bw
      have HON4_9 : Hid ((w9).ownsRow w.heap.size 9 1 (.slice oN4 n1 pN4) n1 (xs.map Value.string)) := owns_wide ownN4 hb8.size
      have LON4 : Hid (∀ g, (Value.ownBlock (.slice oN4 n1 pN4)) = some g → (w8).heap.size ≤ g) := fun g hg => owns_ge ownN4 hg
      have HIN4 : Hid (∀ g, (Value.ownBlock (.slice oN4 n1 pN4)) = some g → g < (w9).heap.size) := fun g hg => owns_lt ownN4 hg
      clear ownN4
      have HOV4_9 : Hid ((w9).ownsRow w.heap.size 9 1 (.slice oV4 n2 pV4) n2 (ys.map Value.string)) := owns_wide ownV4 hb8.size
      have LOV4 : Hid (∀ g, (Value.ownBlock (.slice oV4 n2 pV4)) = some g → (w8).heap.size ≤ g) := fun g hg => owns_ge ownV4 hg
      have HIV4 : Hid (∀ g, (Value.ownBlock (.slice oV4 n2 pV4)) = some g → g < (w9).heap.size) := fun g hg => owns_lt ownV4 hg
      clear ownV4
      have HOF4_9 : Hid ((w9).ownsRow w.heap.size 83 2 (.slice oF4 n3 pF4) n3 (flatF fs)) := owns_wide ownF4 hb8.size
      have LOF4 : Hid (∀ g, (Value.ownBlock (.slice oF4 n3 pF4)) = some g → (w8).heap.size ≤ g) := fun g hg => owns_ge ownF4 hg
      have HIF4 : Hid (∀ g, (Value.ownBlock (.slice oF4 n3 pF4)) = some g → g < (w9).heap.size) := fun g hg => owns_lt ownF4 hg
      clear ownF4
      clear hb8 HOL1_8 HON2_8 HOV2_8 HOF2_8 HOL3_8 HBv1_8 bw
      clear cv1_0 cv1_1 cv1_2 cv1_3 cv1_4 cv1_5 cv1_6
      go_upto_region 11 with fail
      obtain ⟨qv2, hqv2⟩ : ∃ q, q = (w9).heap.size := ⟨_, rfl⟩
      obtain ⟨w10, hW10⟩ : ∃ W, W = (w9).alloc (.cells #[.string p, .slice oN4 n1 pN4, .slice oV4 n2 pV4, .int .i64 st, .slice oF4 n3 pF4, .string d, .int .i64 u] 41) := ⟨_, rfl⟩
      have hz10 : (w9).heap.size = qv2 := hqv2.symm
      first | rw [← hW10, ← hqv2] | rw [← hW10]
      have hs10 : w10.heap.size = qv2 + 1 := by rw [hW10, ← hz10]; simp
      have bw : Below (w9).heap.size (w9) w10 := by rw [hW10]; exact (Below.refl _ _).alloc (Nat.le_refl _) _
      have hb10 : Below w.heap.size w (w10) := hb9.trans (bw.mono hb9.size)
      have HM10 : Hid ((w9).heap.size ≤ (w10).heap.size) := bw.size
      have HOL1_10 : Hid ((w10).ownsRow w.heap.size 26 4 (.slice oL1 n4 pL1) n4 (flatBan l)) := owns_below HOL1_9.out bw (fun g hg => owns_lt HOL1_9.out hg)
      have HON2_10 : Hid ((w10).ownsRow w.heap.size 9 1 (.slice oN2 n1 pN2) n1 (xs.map Value.string)) := owns_below HON2_9.out bw (fun g hg => owns_lt HON2_9.out hg)
      have HOV2_10 : Hid ((w10).ownsRow w.heap.size 9 1 (.slice oV2 n2 pV2) n2 (ys.map Value.string)) := owns_below HOV2_9.out bw (fun g hg => owns_lt HOV2_9.out hg)
      have HOF2_10 : Hid ((w10).ownsRow w.heap.size 83 2 (.slice oF2 n3 pF2) n3 (flatF fs)) := owns_below HOF2_9.out bw (fun g hg => owns_lt HOF2_9.out hg)
      have HOL3_10 : Hid ((w10).ownsRow w.heap.size 26 4 (.slice oL3 n4 pL3) n4 (flatBan l)) := owns_below HOL3_9.out bw (fun g hg => owns_lt HOL3_9.out hg)
      have HON4_10 : Hid ((w10).ownsRow w.heap.size 9 1 (.slice oN4 n1 pN4) n1 (xs.map Value.string)) := owns_below HON4_9.out bw (fun g hg => owns_lt HON4_9.out hg)
      have HOV4_10 : Hid ((w10).ownsRow w.heap.size 9 1 (.slice oV4 n2 pV4) n2 (ys.map Value.string)) := owns_below HOV4_9.out bw (fun g hg => owns_lt HOV4_9.out hg)
      have HOF4_10 : Hid ((w10).ownsRow w.heap.size 83 2 (.slice oF4 n3 pF4) n3 (flatF fs)) := owns_below HOF4_9.out bw (fun g hg => owns_lt HOF4_9.out hg)
      have HBv1_10 : Hid ((w10).heap[qv1]? = some (.cells #[.string p, .slice a1 n1 c1, .slice a2 n2 c2, .int .i64 st, .slice a3 n3 c3, .string d, .int .i64 u] 34)) := blk_below HBv1_9.out bw
      have HNv1v2 : Hid (qv1 ≠ qv2) := fun e => by have h1 := (Array.getElem?_eq_some_iff.1 HBv1_9.out).1; omega
      have HBv2_10 : Hid ((w10).heap[qv2]? = some (.cells #[.string p, .slice oN4 n1 pN4, .slice oV4 n2 pV4, .int .i64 st, .slice oF4 n3 pF4, .string d, .int .i64 u] 41)) := by show _ = _; rw [hW10, ← hz10]; exact heap_alloc_new _ _
      have HGv2 : Hid (w.heap.size ≤ qv2) := by show _ ≤ _; rw [← hz10]; exact hb9.size
      clear hb9 HOL1_9 HON2_9 HOV2_9 HOF2_9 HOL3_9 HON4_9 HOV4_9 HOF4_9 HBv1_9 bw hW10 hz10
      clear hs10 hqv2
      have cv2_0 : (w10).cell? ⟨qv2, 0, none⟩ = some (.string p) := (cell_of HBv2_10.out 0).trans rfl
      have cv2_1 : (w10).cell? ⟨qv2, 1, none⟩ = some (.slice oN4 n1 pN4) := (cell_of HBv2_10.out 1).trans rfl
      have cv2_2 : (w10).cell? ⟨qv2, 2, none⟩ = some (.slice oV4 n2 pV4) := (cell_of HBv2_10.out 2).trans rfl
      have cv2_3 : (w10).cell? ⟨qv2, 3, none⟩ = some (.int .i64 st) := (cell_of HBv2_10.out 3).trans rfl
      have cv2_4 : (w10).cell? ⟨qv2, 4, none⟩ = some (.slice oF4 n3 pF4) := (cell_of HBv2_10.out 4).trans rfl
      have cv2_5 : (w10).cell? ⟨qv2, 5, none⟩ = some (.string d) := (cell_of HBv2_10.out 5).trans rfl
      have cv2_6 : (w10).cell? ⟨qv2, 6, none⟩ = some (.int .i64 u) := (cell_of HBv2_10.out 6).trans rfl
      go_wp2_with fail
      refine (HIM.out _ _ _ _ _ _ _ _ HOL3_10.out ⟨HON4_10.out, HOV4_10.out, HOF4_10.out, AP4.out⟩).mono ?_
      rintro e w11 ⟨rfl, bw⟩
      have hb11 : Below w.heap.size w (w11) := hb10.trans (bw.mono hb10.size)
      have HM11 : Hid ((w10).heap.size ≤ (w11).heap.size) := bw.size
      have HOL1_11 : Hid ((w11).ownsRow w.heap.size 26 4 (.slice oL1 n4 pL1) n4 (flatBan l)) := owns_below HOL1_10.out bw (fun g hg => owns_lt HOL1_10.out hg)
      have HON2_11 : Hid ((w11).ownsRow w.heap.size 9 1 (.slice oN2 n1 pN2) n1 (xs.map Value.string)) := owns_below HON2_10.out bw (fun g hg => owns_lt HON2_10.out hg)
      have HOV2_11 : Hid ((w11).ownsRow w.heap.size 9 1 (.slice oV2 n2 pV2) n2 (ys.map Value.string)) := owns_below HOV2_10.out bw (fun g hg => owns_lt HOV2_10.out hg)
      have HOF2_11 : Hid ((w11).ownsRow w.heap.size 83 2 (.slice oF2 n3 pF2) n3 (flatF fs)) := owns_below HOF2_10.out bw (fun g hg => owns_lt HOF2_10.out hg)
      have HOL3_11 : Hid ((w11).ownsRow w.heap.size 26 4 (.slice oL3 n4 pL3) n4 (flatBan l)) := owns_below HOL3_10.out bw (fun g hg => owns_lt HOL3_10.out hg)
      have HON4_11 : Hid ((w11).ownsRow w.heap.size 9 1 (.slice oN4 n1 pN4) n1 (xs.map Value.string)) := owns_below HON4_10.out bw (fun g hg => owns_lt HON4_10.out hg)
      have HOV4_11 : Hid ((w11).ownsRow w.heap.size 9 1 (.slice oV4 n2 pV4) n2 (ys.map Value.string)) := owns_below HOV4_10.out bw (fun g hg => owns_lt HOV4_10.out hg)
      have HOF4_11 : Hid ((w11).ownsRow w.heap.size 83 2 (.slice oF4 n3 pF4) n3 (flatF fs)) := owns_below HOF4_10.out bw (fun g hg => owns_lt HOF4_10.out hg)
      have HBv1_11 : Hid ((w11).heap[qv1]? = some (.cells #[.string p, .slice a1 n1 c1, .slice a2 n2 c2, .int .i64 st, .slice a3 n3 c3, .string d, .int .i64 u] 34)) := blk_below HBv1_10.out bw
      have HBv2_11 : Hid ((w11).heap[qv2]? = some (.cells #[.string p, .slice oN4 n1 pN4, .slice oV4 n2 pV4, .int .i64 st, .slice oF4 n3 pF4, .string d, .int .i64 u] 41)) := blk_below HBv2_10.out bw
      clear hb10 HOL1_10 HON2_10 HOV2_10 HOF2_10 HOL3_10 HON4_10 HOV4_10 HOF4_10 HBv1_10 HBv2_10 bw
      clear cv2_0 cv2_1 cv2_2 cv2_3 cv2_4 cv2_5 cv2_6
      go_wp2_with fail
      refine (toBanS_any w.heap.size a4 n4 c4 l _ (HA4.out _ hb11) hb11.size hm4).mono ?_
      rintro e w12 ⟨vv, rfl, ownL5, bw⟩
      obtain ⟨oL5, pL5, rfl⟩ := slice_of_owns ownL5
      have hb12 : Below w.heap.size w (w12) := hb11.trans (bw.mono hb11.size)
      have HM12 : Hid ((w11).heap.size ≤ (w12).heap.size) := bw.size
      have HOL1_12 : Hid ((w12).ownsRow w.heap.size 26 4 (.slice oL1 n4 pL1) n4 (flatBan l)) := owns_below HOL1_11.out bw (fun g hg => owns_lt HOL1_11.out hg)
      have HON2_12 : Hid ((w12).ownsRow w.heap.size 9 1 (.slice oN2 n1 pN2) n1 (xs.map Value.string)) := owns_below HON2_11.out bw (fun g hg => owns_lt HON2_11.out hg)
      have HOV2_12 : Hid ((w12).ownsRow w.heap.size 9 1 (.slice oV2 n2 pV2) n2 (ys.map Value.string)) := owns_below HOV2_11.out bw (fun g hg => owns_lt HOV2_11.out hg)
      have HOF2_12 : Hid ((w12).ownsRow w.heap.size 83 2 (.slice oF2 n3 pF2) n3 (flatF fs)) := owns_below HOF2_11.out bw (fun g hg => owns_lt HOF2_11.out hg)
      have HOL3_12 : Hid ((w12).ownsRow w.heap.size 26 4 (.slice oL3 n4 pL3) n4 (flatBan l)) := owns_below HOL3_11.out bw (fun g hg => owns_lt HOL3_11.out hg)
      have HON4_12 : Hid ((w12).ownsRow w.heap.size 9 1 (.slice oN4 n1 pN4) n1 (xs.map Value.string)) := owns_below HON4_11.out bw (fun g hg => owns_lt HON4_11.out hg)
      have HOV4_12 : Hid ((w12).ownsRow w.heap.size 9 1 (.slice oV4 n2 pV4) n2 (ys.map Value.string)) := owns_below HOV4_11.out bw (fun g hg => owns_lt HOV4_11.out hg)
      have HOF4_12 : Hid ((w12).ownsRow w.heap.size 83 2 (.slice oF4 n3 pF4) n3 (flatF fs)) := owns_below HOF4_11.out bw (fun g hg => owns_lt HOF4_11.out hg)
      have HBv1_12 : Hid ((w12).heap[qv1]? = some (.cells #[.string p, .slice a1 n1 c1, .slice a2 n2 c2, .int .i64 st, .slice a3 n3 c3, .string d, .int .i64 u] 34)) := blk_below HBv1_11.out bw
      have HBv2_12 : Hid ((w12).heap[qv2]? = some (.cells #[.string p, .slice oN4 n1 pN4, .slice oV4 n2 pV4, .int .i64 st, .slice oF4 n3 pF4, .string d, .int .i64 u] 41)) := blk_below HBv2_11.out bw
      have HOL5_12 : Hid ((w12).ownsRow w.heap.size 26 4 (.slice oL5 n4 pL5) n4 (flatBan l)) := owns_wide ownL5 hb11.size
      have LOL5 : Hid (∀ g, (Value.ownBlock (.slice oL5 n4 pL5)) = some g → (w11).heap.size ≤ g) := fun g hg => owns_ge ownL5 hg
      have HIL5 : Hid (∀ g, (Value.ownBlock (.slice oL5 n4 pL5)) = some g → g < (w12).heap.size) := fun g hg => owns_lt ownL5 hg
      clear ownL5
      clear hb11 HOL1_11 HON2_11 HOV2_11 HOF2_11 HOL3_11 HON4_11 HOV4_11 HOF4_11 HBv1_11 HBv2_11 bw
      go_wp2_with fail
      refine (eqBanS_any _ _ n4 _ _ l _ (ban_view HOL3_12.out) (ban_view HOL5_12.out) (by omega)).mono ?_
      rintro e w13 ⟨rfl, bw⟩
      have hb13 : Below w.heap.size w (w13) := hb12.trans (bw.mono hb12.size)
      have HM13 : Hid ((w12).heap.size ≤ (w13).heap.size) := bw.size
      have HOL1_13 : Hid ((w13).ownsRow w.heap.size 26 4 (.slice oL1 n4 pL1) n4 (flatBan l)) := owns_below HOL1_12.out bw (fun g hg => owns_lt HOL1_12.out hg)
      have HON2_13 : Hid ((w13).ownsRow w.heap.size 9 1 (.slice oN2 n1 pN2) n1 (xs.map Value.string)) := owns_below HON2_12.out bw (fun g hg => owns_lt HON2_12.out hg)
      have HOV2_13 : Hid ((w13).ownsRow w.heap.size 9 1 (.slice oV2 n2 pV2) n2 (ys.map Value.string)) := owns_below HOV2_12.out bw (fun g hg => owns_lt HOV2_12.out hg)
      have HOF2_13 : Hid ((w13).ownsRow w.heap.size 83 2 (.slice oF2 n3 pF2) n3 (flatF fs)) := owns_below HOF2_12.out bw (fun g hg => owns_lt HOF2_12.out hg)
      have HOL3_13 : Hid ((w13).ownsRow w.heap.size 26 4 (.slice oL3 n4 pL3) n4 (flatBan l)) := owns_below HOL3_12.out bw (fun g hg => owns_lt HOL3_12.out hg)
      have HON4_13 : Hid ((w13).ownsRow w.heap.size 9 1 (.slice oN4 n1 pN4) n1 (xs.map Value.string)) := owns_below HON4_12.out bw (fun g hg => owns_lt HON4_12.out hg)
      have HOV4_13 : Hid ((w13).ownsRow w.heap.size 9 1 (.slice oV4 n2 pV4) n2 (ys.map Value.string)) := owns_below HOV4_12.out bw (fun g hg => owns_lt HOV4_12.out hg)
      have HOF4_13 : Hid ((w13).ownsRow w.heap.size 83 2 (.slice oF4 n3 pF4) n3 (flatF fs)) := owns_below HOF4_12.out bw (fun g hg => owns_lt HOF4_12.out hg)
      have HOL5_13 : Hid ((w13).ownsRow w.heap.size 26 4 (.slice oL5 n4 pL5) n4 (flatBan l)) := owns_below HOL5_12.out bw (fun g hg => owns_lt HOL5_12.out hg)
      have HBv1_13 : Hid ((w13).heap[qv1]? = some (.cells #[.string p, .slice a1 n1 c1, .slice a2 n2 c2, .int .i64 st, .slice a3 n3 c3, .string d, .int .i64 u] 34)) := blk_below HBv1_12.out bw
      have HBv2_13 : Hid ((w13).heap[qv2]? = some (.cells #[.string p, .slice oN4 n1 pN4, .slice oV4 n2 pV4, .int .i64 st, .slice oF4 n3 pF4, .string d, .int .i64 u] 41)) := blk_below HBv2_12.out bw
      clear hb12 HOL1_12 HON2_12 HOV2_12 HOF2_12 HOL3_12 HON4_12 HOV4_12 HOF4_12 HOL5_12 HBv1_12 HBv2_12 bw
      go_upto_region 16 with fail
      refine wp_region_held_drew (S := fun W => W.heap[qv2]? = some (.cells #[.string p, .slice oN4 n1 pN4, .slice oV4 n2 pV4, .int .i64 st, .slice oF4 n3 pF4, .string d, .int .i64 u] 41) ∧ W.heap[qv1]? = some (.cells #[.string p, .slice a1 n1 c1, .slice a2 n2 c2, .int .i64 st, .slice a3 n3 c3, .string d, .int .i64 u] 34)) (by kernel_rfl) ⟨HBv2_13.out, HBv1_13.out⟩ (fun _ => ?_)
      obtain ⟨w14, hX⟩ : ∃ X, X = w13.drew := ⟨_, rfl⟩
      have bw : Below w13.heap.size w13 w14 := by rw [hX]; exact (Below.refl _ _).drew
      rw [← hX]
      have hb14 : Below w.heap.size w (w14) := hb13.trans (bw.mono hb13.size)
      have HM14 : Hid ((w13).heap.size ≤ (w14).heap.size) := bw.size
      have HOL1_14 : Hid ((w14).ownsRow w.heap.size 26 4 (.slice oL1 n4 pL1) n4 (flatBan l)) := owns_below HOL1_13.out bw (fun g hg => owns_lt HOL1_13.out hg)
      have HON2_14 : Hid ((w14).ownsRow w.heap.size 9 1 (.slice oN2 n1 pN2) n1 (xs.map Value.string)) := owns_below HON2_13.out bw (fun g hg => owns_lt HON2_13.out hg)
      have HOV2_14 : Hid ((w14).ownsRow w.heap.size 9 1 (.slice oV2 n2 pV2) n2 (ys.map Value.string)) := owns_below HOV2_13.out bw (fun g hg => owns_lt HOV2_13.out hg)
      have HOF2_14 : Hid ((w14).ownsRow w.heap.size 83 2 (.slice oF2 n3 pF2) n3 (flatF fs)) := owns_below HOF2_13.out bw (fun g hg => owns_lt HOF2_13.out hg)
      have HOL3_14 : Hid ((w14).ownsRow w.heap.size 26 4 (.slice oL3 n4 pL3) n4 (flatBan l)) := owns_below HOL3_13.out bw (fun g hg => owns_lt HOL3_13.out hg)
      have HON4_14 : Hid ((w14).ownsRow w.heap.size 9 1 (.slice oN4 n1 pN4) n1 (xs.map Value.string)) := owns_below HON4_13.out bw (fun g hg => owns_lt HON4_13.out hg)
      have HOV4_14 : Hid ((w14).ownsRow w.heap.size 9 1 (.slice oV4 n2 pV4) n2 (ys.map Value.string)) := owns_below HOV4_13.out bw (fun g hg => owns_lt HOV4_13.out hg)
      have HOF4_14 : Hid ((w14).ownsRow w.heap.size 83 2 (.slice oF4 n3 pF4) n3 (flatF fs)) := owns_below HOF4_13.out bw (fun g hg => owns_lt HOF4_13.out hg)
      have HOL5_14 : Hid ((w14).ownsRow w.heap.size 26 4 (.slice oL5 n4 pL5) n4 (flatBan l)) := owns_below HOL5_13.out bw (fun g hg => owns_lt HOL5_13.out hg)
      have HBv1_14 : Hid ((w14).heap[qv1]? = some (.cells #[.string p, .slice a1 n1 c1, .slice a2 n2 c2, .int .i64 st, .slice a3 n3 c3, .string d, .int .i64 u] 34)) := blk_below HBv1_13.out bw
      have HBv2_14 : Hid ((w14).heap[qv2]? = some (.cells #[.string p, .slice oN4 n1 pN4, .slice oV4 n2 pV4, .int .i64 st, .slice oF4 n3 pF4, .string d, .int .i64 u] 41)) := blk_below HBv2_13.out bw
      have hS14 : w14.heap[qv2]? = some (.cells #[.string p, .slice oN4 n1 pN4, .slice oV4 n2 pV4, .int .i64 st, .slice oF4 n3 pF4, .string d, .int .i64 u] 41) ∧ w14.heap[qv1]? = some (.cells #[.string p, .slice a1 n1 c1, .slice a2 n2 c2, .int .i64 st, .slice a3 n3 c3, .string d, .int .i64 u] 34) := ⟨HBv2_14.out, HBv1_14.out⟩
      clear hb13 HOL1_13 HON2_13 HOV2_13 HOF2_13 HOL3_13 HON4_13 HOV4_13 HOF4_13 HOL5_13 HBv1_13 HBv2_13 bw hX
      refine wpAnyH_takeD (i := 0) (v := .agg #[.string p, .slice oN4 n1 pN4, .slice oV4 n2 pV4, .int .i64 st, .slice oF4 n3 pF4, .string d, .int .i64 u]) (some 40) rfl rfl (by kernel_rfl) (by kernel_rfl) (by kernel_rfl) (fun _ _ _ h => h) (Or.inl ⟨by rfl, by intro W hW; obtain ⟨hhv2, hhv1⟩ := hW; have y0 := (cell_of hhv2 0).trans rfl; have y1 := (cell_of hhv2 1).trans rfl; have y2 := (cell_of hhv2 2).trans rfl; have y3 := (cell_of hhv2 3).trans rfl; have y4 := (cell_of hhv2 4).trans rfl; have y5 := (cell_of hhv2 5).trans rfl; have y6 := (cell_of hhv2 6).trans rfl; go_simp⟩) hS14 ?_
      simp only [Act.put, List.setIfInBounds_toArray, List.set_cons_zero, List.set_cons_succ]
      refine wpAnyH_takeD (i := 1) (v := .agg #[.string p, .slice a1 n1 c1, .slice a2 n2 c2, .int .i64 st, .slice a3 n3 c3, .string d, .int .i64 u]) (some 41) rfl rfl (by kernel_rfl) (by kernel_rfl) (by kernel_rfl) (fun _ _ _ h => h) (Or.inl ⟨by rfl, by intro W hW; obtain ⟨hhv2, hhv1⟩ := hW; have y0 := (cell_of hhv1 0).trans rfl; have y1 := (cell_of hhv1 1).trans rfl; have y2 := (cell_of hhv1 2).trans rfl; have y3 := (cell_of hhv1 3).trans rfl; have y4 := (cell_of hhv1 4).trans rfl; have y5 := (cell_of hhv1 5).trans rfl; have y6 := (cell_of hhv1 6).trans rfl; go_simp⟩) hS14 ?_
      simp only [Act.put, List.setIfInBounds_toArray, List.set_cons_zero, List.set_cons_succ]
      refine wpAnyH_ready (rs := [2]) (by kernel_rfl) (by simp) ?_
      refine AllReadyH.cons rfl (fun K hK => ?_) AllReadyH.nil
      go_simp
      refine (toObj_any p a1 n1 c1 xs a2 n2 c2 ys st a3 n3 c3 fs d u w.heap.size _ (HA1.out _ hb14) (HA2.out _ hb14) (HA3.out _ hb14) hb14.size hm1 hm2 hm3).mono ?_
      rintro e w15 ⟨vv1, vv2, vv3, rfl, ⟨ownN6, ownV6, ownF6, ne6⟩, bw⟩
      obtain ⟨oN6, pN6, rfl⟩ := slice_of_owns ownN6
      obtain ⟨oV6, pV6, rfl⟩ := slice_of_owns ownV6
      obtain ⟨oF6, pF6, rfl⟩ := slice_of_owns ownF6
      have AP6 : Hid (∀ j, (Value.slice oN6 n1 pN6).ownBlock = some j → (Value.slice oV6 n2 pV6).ownBlock ≠ some j) := ne6
      clear ne6
      have hb15 : Below w.heap.size w (w15) := hb14.trans (bw.mono hb14.size)
      have HM15 : Hid ((w14).heap.size ≤ (w15).heap.size) := bw.size
      have HOL1_15 : Hid ((w15).ownsRow w.heap.size 26 4 (.slice oL1 n4 pL1) n4 (flatBan l)) := owns_below HOL1_14.out bw (fun g hg => owns_lt HOL1_14.out hg)
      have HON2_15 : Hid ((w15).ownsRow w.heap.size 9 1 (.slice oN2 n1 pN2) n1 (xs.map Value.string)) := owns_below HON2_14.out bw (fun g hg => owns_lt HON2_14.out hg)
      have HOV2_15 : Hid ((w15).ownsRow w.heap.size 9 1 (.slice oV2 n2 pV2) n2 (ys.map Value.string)) := owns_below HOV2_14.out bw (fun g hg => owns_lt HOV2_14.out hg)
      have HOF2_15 : Hid ((w15).ownsRow w.heap.size 83 2 (.slice oF2 n3 pF2) n3 (flatF fs)) := owns_below HOF2_14.out bw (fun g hg => owns_lt HOF2_14.out hg)
      have HOL3_15 : Hid ((w15).ownsRow w.heap.size 26 4 (.slice oL3 n4 pL3) n4 (flatBan l)) := owns_below HOL3_14.out bw (fun g hg => owns_lt HOL3_14.out hg)
      have HON4_15 : Hid ((w15).ownsRow w.heap.size 9 1 (.slice oN4 n1 pN4) n1 (xs.map Value.string)) := owns_below HON4_14.out bw (fun g hg => owns_lt HON4_14.out hg)
      have HOV4_15 : Hid ((w15).ownsRow w.heap.size 9 1 (.slice oV4 n2 pV4) n2 (ys.map Value.string)) := owns_below HOV4_14.out bw (fun g hg => owns_lt HOV4_14.out hg)
      have HOF4_15 : Hid ((w15).ownsRow w.heap.size 83 2 (.slice oF4 n3 pF4) n3 (flatF fs)) := owns_below HOF4_14.out bw (fun g hg => owns_lt HOF4_14.out hg)
      have HOL5_15 : Hid ((w15).ownsRow w.heap.size 26 4 (.slice oL5 n4 pL5) n4 (flatBan l)) := owns_below HOL5_14.out bw (fun g hg => owns_lt HOL5_14.out hg)
      have HBv1_15 : Hid ((w15).heap[qv1]? = some (.cells #[.string p, .slice a1 n1 c1, .slice a2 n2 c2, .int .i64 st, .slice a3 n3 c3, .string d, .int .i64 u] 34)) := blk_below HBv1_14.out bw
      have HBv2_15 : Hid ((w15).heap[qv2]? = some (.cells #[.string p, .slice oN4 n1 pN4, .slice oV4 n2 pV4, .int .i64 st, .slice oF4 n3 pF4, .string d, .int .i64 u] 41)) := blk_below HBv2_14.out bw
      have HON6_15 : Hid ((w15).ownsRow w.heap.size 9 1 (.slice oN6 n1 pN6) n1 (xs.map Value.string)) := owns_wide ownN6 hb14.size
      have LON6 : Hid (∀ g, (Value.ownBlock (.slice oN6 n1 pN6)) = some g → (w14).heap.size ≤ g) := fun g hg => owns_ge ownN6 hg
      have HIN6 : Hid (∀ g, (Value.ownBlock (.slice oN6 n1 pN6)) = some g → g < (w15).heap.size) := fun g hg => owns_lt ownN6 hg
      clear ownN6
      have HOV6_15 : Hid ((w15).ownsRow w.heap.size 9 1 (.slice oV6 n2 pV6) n2 (ys.map Value.string)) := owns_wide ownV6 hb14.size
      have LOV6 : Hid (∀ g, (Value.ownBlock (.slice oV6 n2 pV6)) = some g → (w14).heap.size ≤ g) := fun g hg => owns_ge ownV6 hg
      have HIV6 : Hid (∀ g, (Value.ownBlock (.slice oV6 n2 pV6)) = some g → g < (w15).heap.size) := fun g hg => owns_lt ownV6 hg
      clear ownV6
      have HOF6_15 : Hid ((w15).ownsRow w.heap.size 83 2 (.slice oF6 n3 pF6) n3 (flatF fs)) := owns_wide ownF6 hb14.size
      have LOF6 : Hid (∀ g, (Value.ownBlock (.slice oF6 n3 pF6)) = some g → (w14).heap.size ≤ g) := fun g hg => owns_ge ownF6 hg
      have HIF6 : Hid (∀ g, (Value.ownBlock (.slice oF6 n3 pF6)) = some g → g < (w15).heap.size) := fun g hg => owns_lt ownF6 hg
      clear ownF6
      clear hb14 HOL1_14 HON2_14 HOV2_14 HOF2_14 HOL3_14 HON4_14 HOV4_14 HOF4_14 HOL5_14 HBv1_14 HBv2_14 bw
      have hS15 : w15.heap[qv2]? = some (.cells #[.string p, .slice oN4 n1 pN4, .slice oV4 n2 pV4, .int .i64 st, .slice oF4 n3 pF4, .string d, .int .i64 u] 41) ∧ w15.heap[qv1]? = some (.cells #[.string p, .slice a1 n1 c1, .slice a2 n2 c2, .int .i64 st, .slice a3 n3 c3, .string d, .int .i64 u] 34) := ⟨HBv2_15.out, HBv1_15.out⟩
      refine hK.out _ _ hS15 (fun _ => ?_)
      clear hK K hS14
      refine wpAnyH_ready (rs := [3]) (by kernel_rfl) (by simp) ?_
      refine AllReadyH.cons rfl (fun K hK => ?_) AllReadyH.nil
      go_simp
      refine (eqObj_any p n1 xs n2 ys st n3 fs d u _ _ _ _ _ _ _ _ _ ⟨HON4_15.out, HOV4_15.out, HOF4_15.out, AP4.out⟩ ⟨HON6_15.out, HOV6_15.out, HOF6_15.out, AP6.out⟩ (by omega) (by omega) (by omega)).mono ?_
      rintro e w16 ⟨rfl, bw⟩
      have hb16 : Below w.heap.size w (w16) := hb15.trans (bw.mono hb15.size)
      have HM16 : Hid ((w15).heap.size ≤ (w16).heap.size) := bw.size
      have HOL1_16 : Hid ((w16).ownsRow w.heap.size 26 4 (.slice oL1 n4 pL1) n4 (flatBan l)) := owns_below HOL1_15.out bw (fun g hg => owns_lt HOL1_15.out hg)
      have HON2_16 : Hid ((w16).ownsRow w.heap.size 9 1 (.slice oN2 n1 pN2) n1 (xs.map Value.string)) := owns_below HON2_15.out bw (fun g hg => owns_lt HON2_15.out hg)
      have HOV2_16 : Hid ((w16).ownsRow w.heap.size 9 1 (.slice oV2 n2 pV2) n2 (ys.map Value.string)) := owns_below HOV2_15.out bw (fun g hg => owns_lt HOV2_15.out hg)
      have HOF2_16 : Hid ((w16).ownsRow w.heap.size 83 2 (.slice oF2 n3 pF2) n3 (flatF fs)) := owns_below HOF2_15.out bw (fun g hg => owns_lt HOF2_15.out hg)
      have HOL3_16 : Hid ((w16).ownsRow w.heap.size 26 4 (.slice oL3 n4 pL3) n4 (flatBan l)) := owns_below HOL3_15.out bw (fun g hg => owns_lt HOL3_15.out hg)
      have HON4_16 : Hid ((w16).ownsRow w.heap.size 9 1 (.slice oN4 n1 pN4) n1 (xs.map Value.string)) := owns_below HON4_15.out bw (fun g hg => owns_lt HON4_15.out hg)
      have HOV4_16 : Hid ((w16).ownsRow w.heap.size 9 1 (.slice oV4 n2 pV4) n2 (ys.map Value.string)) := owns_below HOV4_15.out bw (fun g hg => owns_lt HOV4_15.out hg)
      have HOF4_16 : Hid ((w16).ownsRow w.heap.size 83 2 (.slice oF4 n3 pF4) n3 (flatF fs)) := owns_below HOF4_15.out bw (fun g hg => owns_lt HOF4_15.out hg)
      have HOL5_16 : Hid ((w16).ownsRow w.heap.size 26 4 (.slice oL5 n4 pL5) n4 (flatBan l)) := owns_below HOL5_15.out bw (fun g hg => owns_lt HOL5_15.out hg)
      have HON6_16 : Hid ((w16).ownsRow w.heap.size 9 1 (.slice oN6 n1 pN6) n1 (xs.map Value.string)) := owns_below HON6_15.out bw (fun g hg => owns_lt HON6_15.out hg)
      have HOV6_16 : Hid ((w16).ownsRow w.heap.size 9 1 (.slice oV6 n2 pV6) n2 (ys.map Value.string)) := owns_below HOV6_15.out bw (fun g hg => owns_lt HOV6_15.out hg)
      have HOF6_16 : Hid ((w16).ownsRow w.heap.size 83 2 (.slice oF6 n3 pF6) n3 (flatF fs)) := owns_below HOF6_15.out bw (fun g hg => owns_lt HOF6_15.out hg)
      have HBv1_16 : Hid ((w16).heap[qv1]? = some (.cells #[.string p, .slice a1 n1 c1, .slice a2 n2 c2, .int .i64 st, .slice a3 n3 c3, .string d, .int .i64 u] 34)) := blk_below HBv1_15.out bw
      have HBv2_16 : Hid ((w16).heap[qv2]? = some (.cells #[.string p, .slice oN4 n1 pN4, .slice oV4 n2 pV4, .int .i64 st, .slice oF4 n3 pF4, .string d, .int .i64 u] 41)) := blk_below HBv2_15.out bw
      clear hb15 HOL1_15 HON2_15 HOV2_15 HOF2_15 HOL3_15 HON4_15 HOV4_15 HOF4_15 HOL5_15 HON6_15 HOV6_15 HOF6_15 HBv1_15 HBv2_15 bw
      have hS16 : w16.heap[qv2]? = some (.cells #[.string p, .slice oN4 n1 pN4, .slice oV4 n2 pV4, .int .i64 st, .slice oF4 n3 pF4, .string d, .int .i64 u] 41) ∧ w16.heap[qv1]? = some (.cells #[.string p, .slice a1 n1 c1, .slice a2 n2 c2, .int .i64 st, .slice a3 n3 c3, .string d, .int .i64 u] 34) := ⟨HBv2_16.out, HBv1_16.out⟩
      refine hK.out _ _ hS16 (fun _ => ?_)
      clear hK K hS15
      refine wpAnyH_takeD (i := 4) (v := .bool false) (some 44) rfl rfl (by kernel_rfl) (by kernel_rfl) (by kernel_rfl) (fun _ _ _ h => h) (Or.inl ⟨by rfl, by intro W _; go_simp⟩) hS16 ?_
      simp only [Act.put, List.setIfInBounds_toArray, List.set_cons_zero, List.set_cons_succ]
      clear hS16
      refine wpAnyH_done (by kernel_rfl) ?_ _
      go_wp2_with fail
      go_ret
      exact ⟨rfl, hb16⟩


set_option maxRecDepth 100000 in
theorem lifted (os : Os) (started : os.Started) (H : Type) (enc : TypeId × Value → H) :
    ReturnsInHanded {} Try.checked os 5 .any (Rows.fnExactHitsAnySpec.pre6 enc Try.prog Try.f5 Rows.fnExactHitsAnyRow.domain false) (Rows.fnExactHitsAnySpec.post enc Try.prog Try.f5 false true false false) := by
  refine returnsInHanded_of_change (C := Try.checked) own started (by kernel_rfl) Try.func5
    (ChangeSpec.witness6 (enc := enc) (C := Try.checked) false ⟨#[], #[.slice none 0 0, .agg #[.string ByteArray.empty, .slice none 0 0, .slice none 0 0, .int .i64 0, .slice none 0 0, .string ByteArray.empty, .int .i64 0]], []⟩ 8 (by kernel_rfl) (by kernel_rfl) (by kernel_rfl) (by kernel_rfl)) ?_
  intro W base args ds gs before hval0 hW _ _
  have hval : ∀ (j : Nat) t v, Try.f5.params[j]? = some t → args[j]? = some v → Value.okWide Try.prog W .any base t v := hval0
  have hW' := hW
  obtain ⟨p, q, hA0, hV, rfl, hfz, hnd⟩ := hW
  have hA : DataW.TrodAll enc Try.prog W 0 (fun _ => true) true Try.f5.params.toList args.toList ds p := hA0
  rw [Try.params5] at hA hval
  obtain ⟨v0, vs0, d0, ds0, p0, q0, hargs, rfl, rfl, h0, r0⟩ := trodAll_cons hA
  obtain ⟨v1, vs1, d1, ds1, p1, q1, hargs1, rfl, rfl, h1, r1⟩ := trodAll_cons r0
  obtain ⟨rfl, rfl, rfl⟩ := trodAll_nil r1
  obtain rfl : args = #[v0, v1] := by cases args; simp_all
  obtain ⟨rfl, rfl⟩ := trodVars_none hV
  obtain ⟨a0, len0, cap0, rfl⟩ := okWide_slice Try.underlying45 (hval 0 45 v0 rfl rfl)
  have k0 := h0
  have lt0 : ∀ x ∈ p0, x.block < W.heap.size := by obtain ⟨m, hm⟩ := k0; exact DataW.trod_lt m _ _ _ hm
  obtain ⟨f0, g0, m0, s0⟩ : ∃ l, ArgBan W W.heap.size a0 len0 l ∧ len0 ≤ maxLen ∧ ∀ x ∈ l, (x.2.1).size ≤ maxLen ∧ (x.2.2.1).size ≤ maxLen := (by obtain ⟨fuel, hf⟩ := h0; exact openBanS (by simpa [Value.cells] using hf))
  have k1 := h1
  have lt1 : ∀ x ∈ p1, x.block < W.heap.size := by obtain ⟨m, hm⟩ := k1; exact DataW.trod_lt m _ _ _ hm
  obtain ⟨op1, a1, n1, cap1, xs1, b1, m1, capb1, ys1, st1, e1, l1, cape1, fs1, ob1, ot1, rfl, ga1, gb1, gc1, gd1, ge1, gf1, gg1, gh1, gi1, gj1, gk1⟩ := openObj (hval 1 34 v1 rfl rfl) h1
  clear hA0 hval0
  refine (walk1 W a0 len0 cap0 f0 g0 m0 s0 op1 a1 n1 cap1 xs1 b1 m1 capb1 ys1 st1 e1 l1 cape1 fs1 ob1 ot1 ga1 gb1 gc1 gd1 ge1 gf1 gg1 gh1 gi1 gj1 gk1).mono fun e W' ⟨he, bel⟩ => ?_
  subst he
  exact ⟨_, rfl, _, _, _, [], _, [], hW', trodAll_mk1 (shut_bool Try.underlying4 _), (trodAll_cons_mk (Below.trod laidOut (by kernel_rfl) (of_decide_eq_true (by kernel_rfl)) k0 bel lt0) (trodAll_cons_mk (Below.trod laidOut (by kernel_rfl) (of_decide_eq_true (by kernel_rfl)) k1 bel lt1) trodAll_mk0)), rfl, bel.frame _, fun h => by cases h⟩

theorem over : Rows.fnExactHitsAnyRow.holds Try.pinned (OpenSpec.ofChange Rows.fnExactHitsAnySpec) :=
  OpenClaim.holds_of_wide 5 Try.f5 rfl rfl rfl rfl rfl rfl rfl ⟨rfl, rfl, rfl, rfl, rfl⟩ rfl rfl rfl rfl rfl (by kernel_rfl) Try.func5 (by kernel_rfl)
    (of_decide_eq_true (by kernel_rfl)) (by unfold Func.isWrapper; first | (rw [if_pos (by decide +kernel)]; kernel_rfl) | (rw [if_neg (by decide +kernel)]; exact ⟨rfl, rfl⟩))
    (fun os started H enc _ => lifted os started H enc)
end fnExactHitsAny

theorem fnExactHitsAny_holds : Rows.FnExactHitsAnySaid := fnExactHitsAny.over
#print axioms fnExactHitsAny_holds
end Go.Proofs.Ytlmenolcgaakeaa
