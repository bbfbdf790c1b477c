/- Hits: at every argument the program answers as the specification (the law answers true), and it writes into no argument: no condition. -/
import Derived.Test.YtlmenolcgaakeaaFnExactHitsE
import Derived.Test.YtlmenolcgaakeaaRows
import Derived.WalkKit
import Derived.ProofKit
import Derived.OpenShut
import Derived.ShutString
import Derived.ChangeOld
import Derived.Below
import Derived.Deep.RegionHeld3
import Derived.Deep.DrawnRows
import Derived.Deep.CutRange
import Derived.Deep.DeepCutAuto
namespace Go.Proofs.Ytlmenolcgaakeaa
namespace fnExactHits
open Go.ChangeShapes Go.WideShapes Go.ChangeAt Go.RowKit
open Go.ChangeMaps (open_string shut_string)
attribute [local go_sem ↓] Go.wp_at_zero Go.wp_at_succ

theorem own : ownKnob Try.prog.godebug = none := by kernel_rfl
theorem laidOut : laidOutB Try.prog = true := by kernel_rfl
open Classical in
theorem bool_is {P : Prop} {prog : Program} {f : FuncId} {args : Array Value} {w : World} (h : Calls prog f args w fun e w' => BoolIs P w e w') : Calls prog f args w fun e w' => e = .returned (.bool (decide P)) ∧ Below w.heap.size w w' :=
  h.mono fun e w' ⟨t, h1, h2, h3⟩ => ⟨by rw [h1, (show t = decide P by rw [Bool.eq_iff_iff, h2, decide_eq_true_iff])], h3⟩

open Go.Lib hiding intOf
set_option maxHeartbeats 16000000 in
set_option maxRecDepth 100000 in
theorem walk1 (w : World) (k : Int) (a b : ByteArray) (t : Int) (ha : a.size ≤ maxLen) (hb : b.size ≤ maxLen) (p : ByteArray) (a1 : Option Addr) (n1 c1 : Nat) (xs : List ByteArray) (a2 : Option Addr) (n2 c2 : Nat) (ys : List ByteArray) (st : Int) (a3 : Option Addr) (n3 c3 : Nat) (fs : List (ByteArray × ByteArray)) (d : ByteArray) (u : Int) (h1 : ArgT w w.heap.size a1 n1 xs) (h2 : ArgT w w.heap.size a2 n2 ys) (h3 : ArgF w w.heap.size a3 n3 fs) (hn1 : n1 ≤ maxLen) (hn2 : n2 ≤ maxLen) (hn3 : n3 ≤ maxLen) (hs1 : ∀ i, i < n1 → (textAt xs i).size ≤ maxLen) (hs2 : ∀ i, i < n2 → (textAt ys i).size ≤ maxLen) (hs3 : WalkF n3 fs) (hp : p.size ≤ maxLen) (hx : d.size ≤ maxLen) :
    Calls Try.prog 4 #[.agg #[.int .i64 k, .string a, .string b, .int .i64 t], .agg #[.string p, .slice a1 n1 c1, .slice a2 n2 c2, .int .i64 st, .slice a3 n3 c3, .string d, .int .i64 u]] w fun e w' => e = .returned (.bool true) ∧ Below w.heap.size w w' := by
  classical
  have HAM : Hid (a.size ≤ maxLen) := ha
  have HBM : Hid (b.size ≤ maxLen) := hb
  clear ha hb
  have HA1 : Hid (∀ W, Below w.heap.size w W → ArgT W w.heap.size a1 n1 xs) := fun W h => h1.below h
  have HA2 : Hid (∀ W, Below w.heap.size w W → ArgT W w.heap.size a2 n2 ys) := fun W h => h2.below h
  have HA3 : Hid (∀ W, Below w.heap.size w W → ArgF W w.heap.size a3 n3 fs) := fun W h => h3.below h
  have HL3 : Hid (fs.length = n3) := h3.len
  have HN1 : Hid (n1 ≤ maxLen) := hn1
  have HN2 : Hid (n2 ≤ maxLen) := hn2
  have HN3 : Hid (n3 ≤ maxLen) := hn3
  have HS1 : Hid (∀ i, i < n1 → (textAt xs i).size ≤ maxLen) := hs1
  have HS2 : Hid (∀ i, i < n2 → (textAt ys i).size ≤ maxLen) := hs2
  have HS3 : Hid (WalkF n3 fs) := hs3
  have HPM : Hid (p.size ≤ maxLen) := hp
  have HX : Hid (d.size ≤ maxLen) := hx
  clear h1 h2 h3 hn1 hn2 hn3 hs1 hs2 hs3 hp hx
  have hb0 : Below w.heap.size w w := Below.refl _ _
  go_enter Try.func4, Try.ntmps4
  go_upto_region 1 with fail
  obtain ⟨qv1, hqv1⟩ : ∃ q, q = (w).heap.size := ⟨_, rfl⟩
  obtain ⟨w1, hW1⟩ : ∃ W, W = (w).alloc (.cells #[.int .i64 k, .string a, .string b, .int .i64 t] 23) := ⟨_, rfl⟩
  have hz1 : (w).heap.size = qv1 := hqv1.symm
  first | rw [← hW1, ← hqv1] | rw [← hW1]
  have hs1 : w1.heap.size = qv1 + 1 := by rw [hW1, ← hz1]; simp
  have bw : Below (w).heap.size (w) w1 := by rw [hW1]; exact (Below.refl _ _).alloc (Nat.le_refl _) _
  have hb1 : Below w.heap.size w (w1) := hb0.trans (bw.mono hb0.size)
  have HM1 : Hid ((w).heap.size ≤ (w1).heap.size) := bw.size
  have HBv1_1 : Hid ((w1).heap[qv1]? = some (.cells #[.int .i64 k, .string a, .string b, .int .i64 t] 23)) := by show _ = _; rw [hW1, ← hz1]; exact heap_alloc_new _ _
  have HGv1 : Hid (w.heap.size ≤ qv1) := by show _ ≤ _; rw [← hz1]; exact hb0.size
  clear hb0 bw hW1 hz1
  obtain ⟨qv2, hqv2⟩ : ∃ q, q = qv1 + 1 := ⟨_, rfl⟩
  obtain ⟨w2, hW2⟩ : ∃ W, W = (w1).alloc (.cells #[.string p, .slice a1 n1 c1, .slice a2 n2 c2, .int .i64 st, .slice a3 n3 c3, .string d, .int .i64 u] 34) := ⟨_, rfl⟩
  have hz2 : (w1).heap.size = qv2 := by rw [hqv2]; exact hs1
  first | rw [← hW2, ← hqv2] | rw [← hW2]
  have hs2 : w2.heap.size = qv2 + 1 := by rw [hW2, ← hz2]; simp
  have bw : Below (w1).heap.size (w1) w2 := by rw [hW2]; exact (Below.refl _ _).alloc (Nat.le_refl _) _
  have hb2 : Below w.heap.size w (w2) := hb1.trans (bw.mono hb1.size)
  have HM2 : Hid ((w1).heap.size ≤ (w2).heap.size) := bw.size
  have HBv1_2 : Hid ((w2).heap[qv1]? = some (.cells #[.int .i64 k, .string a, .string b, .int .i64 t] 23)) := blk_below HBv1_1.out bw
  have HNv1v2 : Hid (qv1 ≠ qv2) := fun e => by have h1 := (Array.getElem?_eq_some_iff.1 HBv1_1.out).1; omega
  have HBv2_2 : Hid ((w2).heap[qv2]? = some (.cells #[.string p, .slice a1 n1 c1, .slice a2 n2 c2, .int .i64 st, .slice a3 n3 c3, .string d, .int .i64 u] 34)) := by show _ = _; rw [hW2, ← hz2]; exact heap_alloc_new _ _
  have HGv2 : Hid (w.heap.size ≤ qv2) := by show _ ≤ _; rw [← hz2]; exact hb1.size
  clear hb1 HBv1_1 bw hW2 hz2
  clear hs2 hqv2 hs1 hqv1
  have cv1_0 : (w2).cell? ⟨qv1, 0, none⟩ = some (.int .i64 k) := (cell_of HBv1_2.out 0).trans rfl
  have cv1_1 : (w2).cell? ⟨qv1, 1, none⟩ = some (.string a) := (cell_of HBv1_2.out 1).trans rfl
  have cv1_2 : (w2).cell? ⟨qv1, 2, none⟩ = some (.string b) := (cell_of HBv1_2.out 2).trans rfl
  have cv1_3 : (w2).cell? ⟨qv1, 3, none⟩ = some (.int .i64 t) := (cell_of HBv1_2.out 3).trans rfl
  go_wp2_with fail
  refine (szBan_any 1048576 (by omega) (by omega) k a b t _ HAM.out HBM.out).mono ?_
  rintro e w3 ⟨r1, rfl, hl1, hr1, bw⟩
  have hb3 : Below w.heap.size w (w3) := hb2.trans (bw.mono hb2.size)
  have HM3 : Hid ((w2).heap.size ≤ (w3).heap.size) := bw.size
  have HBv1_3 : Hid ((w3).heap[qv1]? = some (.cells #[.int .i64 k, .string a, .string b, .int .i64 t] 23)) := blk_below HBv1_2.out bw
  have HBv2_3 : Hid ((w3).heap[qv2]? = some (.cells #[.string p, .slice a1 n1 c1, .slice a2 n2 c2, .int .i64 st, .slice a3 n3 c3, .string d, .int .i64 u] 34)) := blk_below HBv2_2.out bw
  clear hb2 HBv1_2 HBv2_2 bw
  clear cv1_0 cv1_1 cv1_2 cv1_3
  by_cases hc1 : r1 < 0
  · clear hr1
    go_wp2_with fail
    go_ret
    exact ⟨rfl, hb3⟩
  · clear hr1
    have cv2_0 : (w3).cell? ⟨qv2, 0, none⟩ = some (.string p) := (cell_of HBv2_3.out 0).trans rfl
    have cv2_1 : (w3).cell? ⟨qv2, 1, none⟩ = some (.slice a1 n1 c1) := (cell_of HBv2_3.out 1).trans rfl
    have cv2_2 : (w3).cell? ⟨qv2, 2, none⟩ = some (.slice a2 n2 c2) := (cell_of HBv2_3.out 2).trans rfl
    have cv2_3 : (w3).cell? ⟨qv2, 3, none⟩ = some (.int .i64 st) := (cell_of HBv2_3.out 3).trans rfl
    have cv2_4 : (w3).cell? ⟨qv2, 4, none⟩ = some (.slice a3 n3 c3) := (cell_of HBv2_3.out 4).trans rfl
    have cv2_5 : (w3).cell? ⟨qv2, 5, none⟩ = some (.string d) := (cell_of HBv2_3.out 5).trans rfl
    have cv2_6 : (w3).cell? ⟨qv2, 6, none⟩ = some (.int .i64 u) := (cell_of HBv2_3.out 6).trans rfl
    go_wp2_with fail
    refine (szObj_any r1 (by omega) (by omega) p a1 n1 c1 xs a2 n2 c2 ys st a3 n3 c3 fs d u w.heap.size _ (HA1.out _ hb3) (HA2.out _ hb3) (HA3.out _ hb3) hb3.size HN1.out HN2.out HN3.out HS1.out HS2.out HS3.out HPM.out HX.out).mono ?_
    rintro e w4 ⟨r2, rfl, hl2, hr2, bw⟩
    have hb4 : Below w.heap.size w (w4) := hb3.trans (bw.mono hb3.size)
    have HM4 : Hid ((w3).heap.size ≤ (w4).heap.size) := bw.size
    have HBv1_4 : Hid ((w4).heap[qv1]? = some (.cells #[.int .i64 k, .string a, .string b, .int .i64 t] 23)) := blk_below HBv1_3.out bw
    have HBv2_4 : Hid ((w4).heap[qv2]? = some (.cells #[.string p, .slice a1 n1 c1, .slice a2 n2 c2, .int .i64 st, .slice a3 n3 c3, .string d, .int .i64 u] 34)) := blk_below HBv2_3.out bw
    clear hb3 HBv1_3 HBv2_3 bw
    clear cv2_0 cv2_1 cv2_2 cv2_3 cv2_4 cv2_5 cv2_6
    by_cases hc2 : r2 < 0
    · clear hr2
      go_wp2_with fail
      go_ret
      exact ⟨rfl, hb4⟩
    · obtain ⟨hrm, ⟨hpp1, hxx1⟩, ⟨hm1, hz1⟩, ⟨hm2, hz2⟩, hm3, hz3⟩ := hr2 (by omega)
      have HG : Hid (∀ x, (getV fs x).size ≤ 1048576) := fun x => by
        unfold getV
        split
        · rename_i h
          have := szTo_get fs n3 (atF fs x) (by rw [← HL3.out]; exact h)
          omega
        · decide
      have HC : Hid (CopyF fs) := fun i hi => by
        have := szTo_get fs n3 i (by rw [← HL3.out]; exact hi)
        omega
      obtain ⟨P, hP⟩ : ∃ P, P = decide (HitP k a b t p xs ys st fs d u) := ⟨_, rfl⟩
      have HSP : Hid (∀ (u1 u2 u3 : Value) (B : Nat) (W : World), ObjO W B u1 n1 xs u2 n2 ys u3 n3 fs → Calls Try.prog 11 #[.agg #[.int .i64 k, .string a, .string b, .int .i64 t], .agg #[.string p, u1, u2, .int .i64 st, u3, .string d, .int .i64 u]] W fun e w' => e = .returned (.bool P) ∧ Below W.heap.size W w') := by
        intro u1 u2 u3 B W ho
        obtain ⟨oa, ca, rfl⟩ := slice_of_owns ho.names
        obtain ⟨ob, cb, rfl⟩ := slice_of_owns ho.vals
        rw [hP]
        exact bool_is (specHits_any k a b t p _ n1 _ xs _ n2 _ ys st u3 n3 B fs d u W HAM.out HBM.out (texts_view ho.names) (texts_view ho.vals) (FieldsV.of_owns ho.flds) (by omega) (by omega) (by omega) HS1.out HS2.out HS3.out HPM.out HX.out (HG.out _))
      have HIM : Hid (∀ (u1 u2 u3 : Value) (B : Nat) (W : World), ObjO W B u1 n1 xs u2 n2 ys u3 n3 fs → Calls Try.prog 13 #[.agg #[.int .i64 k, .string a, .string b, .int .i64 t], .agg #[.string p, u1, u2, .int .i64 st, u3, .string d, .int .i64 u]] W fun e w' => e = .returned (.bool P) ∧ Below W.heap.size W w') := by
        intro u1 u2 u3 B W ho
        obtain ⟨oa, ca, rfl⟩ := slice_of_owns ho.names
        obtain ⟨ob, cb, rfl⟩ := slice_of_owns ho.vals
        rw [hP]
        exact bool_is (implHits_any k a b t p _ n1 _ xs _ n2 _ ys st u3 n3 B fs d u W HAM.out HBM.out (texts_view ho.names) (texts_view ho.vals) (FieldsV.of_owns ho.flds) (by omega) (by omega) (by omega) HS1.out HS2.out HS3.out HC.out HPM.out HX.out (HG.out _))
      clear hP hr2 hz1 hz2 hz3 hrm
      have hPP : (P != P) = false := by simp
      go_upto_region 8 with fail
      refine wp_region_held_drew (S := fun W => W.heap[qv1]? = some (.cells #[.int .i64 k, .string a, .string b, .int .i64 t] 23) ∧ W.heap[qv2]? = some (.cells #[.string p, .slice a1 n1 c1, .slice a2 n2 c2, .int .i64 st, .slice a3 n3 c3, .string d, .int .i64 u] 34)) (by kernel_rfl) ⟨HBv1_4.out, HBv2_4.out⟩ (fun _ => ?_)
      obtain ⟨w5, hX⟩ : ∃ X, X = w4.drew := ⟨_, rfl⟩
      have bw : Below w4.heap.size w4 w5 := by rw [hX]; exact (Below.refl _ _).drew
      rw [← hX]
      have hb5 : Below w.heap.size w (w5) := hb4.trans (bw.mono hb4.size)
      have HM5 : Hid ((w4).heap.size ≤ (w5).heap.size) := bw.size
      have HBv1_5 : Hid ((w5).heap[qv1]? = some (.cells #[.int .i64 k, .string a, .string b, .int .i64 t] 23)) := blk_below HBv1_4.out bw
      have HBv2_5 : Hid ((w5).heap[qv2]? = some (.cells #[.string p, .slice a1 n1 c1, .slice a2 n2 c2, .int .i64 st, .slice a3 n3 c3, .string d, .int .i64 u] 34)) := blk_below HBv2_4.out bw
      have hS5 : w5.heap[qv1]? = some (.cells #[.int .i64 k, .string a, .string b, .int .i64 t] 23) ∧ w5.heap[qv2]? = some (.cells #[.string p, .slice a1 n1 c1, .slice a2 n2 c2, .int .i64 st, .slice a3 n3 c3, .string d, .int .i64 u] 34) := ⟨HBv1_5.out, HBv2_5.out⟩
      clear hb4 HBv1_4 HBv2_4 bw hX
      refine wpAnyH_takeD (i := 0) (v := .agg #[.int .i64 k, .string a, .string b, .int .i64 t]) (some 19) rfl rfl (by kernel_rfl) (by kernel_rfl) (by kernel_rfl) (fun _ _ _ h => h) (Or.inl ⟨by rfl, by intro W hW; obtain ⟨hhv1, hhv2⟩ := hW; have y0 := (cell_of hhv1 0).trans rfl; have y1 := (cell_of hhv1 1).trans rfl; have y2 := (cell_of hhv1 2).trans rfl; have y3 := (cell_of hhv1 3).trans rfl; go_simp⟩) hS5 ?_
      simp only [Act.put, List.setIfInBounds_toArray, List.set_cons_zero, List.set_cons_succ]
      refine wpAnyH_takeD (i := 2) (v := .agg #[.string p, .slice a1 n1 c1, .slice a2 n2 c2, .int .i64 st, .slice a3 n3 c3, .string d, .int .i64 u]) (some 21) rfl rfl (by kernel_rfl) (by kernel_rfl) (by kernel_rfl) (fun _ _ _ h => h) (Or.inl ⟨by rfl, by intro W hW; obtain ⟨hhv1, hhv2⟩ := hW; have y0 := (cell_of hhv2 0).trans rfl; have y1 := (cell_of hhv2 1).trans rfl; have y2 := (cell_of hhv2 2).trans rfl; have y3 := (cell_of hhv2 3).trans rfl; have y4 := (cell_of hhv2 4).trans rfl; have y5 := (cell_of hhv2 5).trans rfl; have y6 := (cell_of hhv2 6).trans rfl; go_simp⟩) hS5 ?_
      simp only [Act.put, List.setIfInBounds_toArray, List.set_cons_zero, List.set_cons_succ]
      refine wpAnyH_ready (rs := [1]) (by kernel_rfl) (by simp) ?_
      refine AllReadyH.cons rfl (fun K hK => ?_) AllReadyH.nil
      go_simp
      refine (toBan_any k a b t _).mono ?_
      rintro e w6 ⟨rfl, bw⟩
      have hb6 : Below w.heap.size w (w6) := hb5.trans (bw.mono hb5.size)
      have HM6 : Hid ((w5).heap.size ≤ (w6).heap.size) := bw.size
      have HBv1_6 : Hid ((w6).heap[qv1]? = some (.cells #[.int .i64 k, .string a, .string b, .int .i64 t] 23)) := blk_below HBv1_5.out bw
      have HBv2_6 : Hid ((w6).heap[qv2]? = some (.cells #[.string p, .slice a1 n1 c1, .slice a2 n2 c2, .int .i64 st, .slice a3 n3 c3, .string d, .int .i64 u] 34)) := blk_below HBv2_5.out bw
      clear hb5 HBv1_5 HBv2_5 bw
      have hS6 : w6.heap[qv1]? = some (.cells #[.int .i64 k, .string a, .string b, .int .i64 t] 23) ∧ w6.heap[qv2]? = some (.cells #[.string p, .slice a1 n1 c1, .slice a2 n2 c2, .int .i64 st, .slice a3 n3 c3, .string d, .int .i64 u] 34) := ⟨HBv1_6.out, HBv2_6.out⟩
      refine hK.out _ _ hS6 (fun _ => ?_)
      clear hK K hS5
      refine wpAnyH_ready (rs := [3]) (by kernel_rfl) (by simp) ?_
      refine AllReadyH.cons rfl (fun K hK => ?_) AllReadyH.nil
      go_simp
      refine (toObj_any p a1 n1 c1 xs a2 n2 c2 ys st a3 n3 c3 fs d u w.heap.size _ (HA1.out _ hb6) (HA2.out _ hb6) (HA3.out _ hb6) hb6.size hm1 hm2 hm3).mono ?_
      rintro e w7 ⟨vv1, vv2, vv3, rfl, ⟨ownN1, ownV1, ownF1, ne1⟩, bw⟩
      obtain ⟨oN1, pN1, rfl⟩ := slice_of_owns ownN1
      obtain ⟨oV1, pV1, rfl⟩ := slice_of_owns ownV1
      obtain ⟨oF1, pF1, rfl⟩ := slice_of_owns ownF1
      have AP1 : Hid (∀ j, (Value.slice oN1 n1 pN1).ownBlock = some j → (Value.slice oV1 n2 pV1).ownBlock ≠ some j) := ne1
      clear ne1
      have hb7 : Below w.heap.size w (w7) := hb6.trans (bw.mono hb6.size)
      have HM7 : Hid ((w6).heap.size ≤ (w7).heap.size) := bw.size
      have HBv1_7 : Hid ((w7).heap[qv1]? = some (.cells #[.int .i64 k, .string a, .string b, .int .i64 t] 23)) := blk_below HBv1_6.out bw
      have HBv2_7 : Hid ((w7).heap[qv2]? = some (.cells #[.string p, .slice a1 n1 c1, .slice a2 n2 c2, .int .i64 st, .slice a3 n3 c3, .string d, .int .i64 u] 34)) := blk_below HBv2_6.out bw
      have HON1_7 : Hid ((w7).ownsRow w.heap.size 9 1 (.slice oN1 n1 pN1) n1 (xs.map Value.string)) := owns_wide ownN1 hb6.size
      have LON1 : Hid (∀ g, (Value.ownBlock (.slice oN1 n1 pN1)) = some g → (w6).heap.size ≤ g) := fun g hg => owns_ge ownN1 hg
      have HIN1 : Hid (∀ g, (Value.ownBlock (.slice oN1 n1 pN1)) = some g → g < (w7).heap.size) := fun g hg => owns_lt ownN1 hg
      clear ownN1
      have HOV1_7 : Hid ((w7).ownsRow w.heap.size 9 1 (.slice oV1 n2 pV1) n2 (ys.map Value.string)) := owns_wide ownV1 hb6.size
      have LOV1 : Hid (∀ g, (Value.ownBlock (.slice oV1 n2 pV1)) = some g → (w6).heap.size ≤ g) := fun g hg => owns_ge ownV1 hg
      have HIV1 : Hid (∀ g, (Value.ownBlock (.slice oV1 n2 pV1)) = some g → g < (w7).heap.size) := fun g hg => owns_lt ownV1 hg
      clear ownV1
      have HOF1_7 : Hid ((w7).ownsRow w.heap.size 83 2 (.slice oF1 n3 pF1) n3 (flatF fs)) := owns_wide ownF1 hb6.size
      have LOF1 : Hid (∀ g, (Value.ownBlock (.slice oF1 n3 pF1)) = some g → (w6).heap.size ≤ g) := fun g hg => owns_ge ownF1 hg
      have HIF1 : Hid (∀ g, (Value.ownBlock (.slice oF1 n3 pF1)) = some g → g < (w7).heap.size) := fun g hg => owns_lt ownF1 hg
      clear ownF1
      clear hb6 HBv1_6 HBv2_6 bw
      have hS7 : w7.heap[qv1]? = some (.cells #[.int .i64 k, .string a, .string b, .int .i64 t] 23) ∧ w7.heap[qv2]? = some (.cells #[.string p, .slice a1 n1 c1, .slice a2 n2 c2, .int .i64 st, .slice a3 n3 c3, .string d, .int .i64 u] 34) := ⟨HBv1_7.out, HBv2_7.out⟩
      refine hK.out _ _ hS7 (fun _ => ?_)
      clear hK K hS6
      refine wpAnyH_ready (rs := [4]) (by kernel_rfl) (by simp) ?_
      refine AllReadyH.cons rfl (fun K hK => ?_) AllReadyH.nil
      go_simp
      refine (HSP.out _ _ _ _ _ ⟨HON1_7.out, HOV1_7.out, HOF1_7.out, AP1.out⟩).mono ?_
      rintro e w8 ⟨rfl, bw⟩
      have hb8 : Below w.heap.size w (w8) := hb7.trans (bw.mono hb7.size)
      have HM8 : Hid ((w7).heap.size ≤ (w8).heap.size) := bw.size
      have HON1_8 : Hid ((w8).ownsRow w.heap.size 9 1 (.slice oN1 n1 pN1) n1 (xs.map Value.string)) := owns_below HON1_7.out bw (fun g hg => owns_lt HON1_7.out hg)
      have HOV1_8 : Hid ((w8).ownsRow w.heap.size 9 1 (.slice oV1 n2 pV1) n2 (ys.map Value.string)) := owns_below HOV1_7.out bw (fun g hg => owns_lt HOV1_7.out hg)
      have HOF1_8 : Hid ((w8).ownsRow w.heap.size 83 2 (.slice oF1 n3 pF1) n3 (flatF fs)) := owns_below HOF1_7.out bw (fun g hg => owns_lt HOF1_7.out hg)
      have HBv1_8 : Hid ((w8).heap[qv1]? = some (.cells #[.int .i64 k, .string a, .string b, .int .i64 t] 23)) := blk_below HBv1_7.out bw
      have HBv2_8 : Hid ((w8).heap[qv2]? = some (.cells #[.string p, .slice a1 n1 c1, .slice a2 n2 c2, .int .i64 st, .slice a3 n3 c3, .string d, .int .i64 u] 34)) := blk_below HBv2_7.out bw
      clear hb7 HON1_7 HOV1_7 HOF1_7 HBv1_7 HBv2_7 bw
      have hS8 : w8.heap[qv1]? = some (.cells #[.int .i64 k, .string a, .string b, .int .i64 t] 23) ∧ w8.heap[qv2]? = some (.cells #[.string p, .slice a1 n1 c1, .slice a2 n2 c2, .int .i64 st, .slice a3 n3 c3, .string d, .int .i64 u] 34) := ⟨HBv1_8.out, HBv2_8.out⟩
      refine hK.out _ _ hS8 (fun _ => ?_)
      clear hK K hS7
      refine wpAnyH_takeD (i := 5) (v := .bool P) (some 6) rfl rfl (by kernel_rfl) (by kernel_rfl) (by kernel_rfl) (fun _ _ _ h => h) (Or.inl ⟨by rfl, by intro W _; go_simp⟩) hS8 ?_
      simp only [Act.put, List.setIfInBounds_toArray, List.set_cons_zero, List.set_cons_succ]
      clear hS8
      refine wpAnyH_done (by kernel_rfl) ?_ _
      have cv2_0 : (w8).cell? ⟨qv2, 0, none⟩ = some (.string p) := (cell_of HBv2_8.out 0).trans rfl
      have cv2_1 : (w8).cell? ⟨qv2, 1, none⟩ = some (.slice a1 n1 c1) := (cell_of HBv2_8.out 1).trans rfl
      have cv2_2 : (w8).cell? ⟨qv2, 2, none⟩ = some (.slice a2 n2 c2) := (cell_of HBv2_8.out 2).trans rfl
      have cv2_3 : (w8).cell? ⟨qv2, 3, none⟩ = some (.int .i64 st) := (cell_of HBv2_8.out 3).trans rfl
      have cv2_4 : (w8).cell? ⟨qv2, 4, none⟩ = some (.slice a3 n3 c3) := (cell_of HBv2_8.out 4).trans rfl
      have cv2_5 : (w8).cell? ⟨qv2, 5, none⟩ = some (.string d) := (cell_of HBv2_8.out 5).trans rfl
      have cv2_6 : (w8).cell? ⟨qv2, 6, none⟩ = some (.int .i64 u) := (cell_of HBv2_8.out 6).trans rfl
      go_wp2_with fail
      refine (toObj_any p a1 n1 c1 xs a2 n2 c2 ys st a3 n3 c3 fs d u w.heap.size _ (HA1.out _ hb8) (HA2.out _ hb8) (HA3.out _ hb8) hb8.size hm1 hm2 hm3).mono ?_
      rintro e w9 ⟨vv1, vv2, vv3, rfl, ⟨ownN2, ownV2, ownF2, ne2⟩, bw⟩
      obtain ⟨oN2, pN2, rfl⟩ := slice_of_owns ownN2
      obtain ⟨oV2, pV2, rfl⟩ := slice_of_owns ownV2
      obtain ⟨oF2, pF2, rfl⟩ := slice_of_owns ownF2
      have AP2 : Hid (∀ j, (Value.slice oN2 n1 pN2).ownBlock = some j → (Value.slice oV2 n2 pV2).ownBlock ≠ some j) := ne2
      clear ne2
      have hb9 : Below w.heap.size w (w9) := hb8.trans (bw.mono hb8.size)
      have HM9 : Hid ((w8).heap.size ≤ (w9).heap.size) := bw.size
      have HON1_9 : Hid ((w9).ownsRow w.heap.size 9 1 (.slice oN1 n1 pN1) n1 (xs.map Value.string)) := owns_below HON1_8.out bw (fun g hg => owns_lt HON1_8.out hg)
      have HOV1_9 : Hid ((w9).ownsRow w.heap.size 9 1 (.slice oV1 n2 pV1) n2 (ys.map Value.string)) := owns_below HOV1_8.out bw (fun g hg => owns_lt HOV1_8.out hg)
      have HOF1_9 : Hid ((w9).ownsRow w.heap.size 83 2 (.slice oF1 n3 pF1) n3 (flatF fs)) := owns_below HOF1_8.out bw (fun g hg => owns_lt HOF1_8.out hg)
      have HBv1_9 : Hid ((w9).heap[qv1]? = some (.cells #[.int .i64 k, .string a, .string b, .int .i64 t] 23)) := blk_below HBv1_8.out bw
      have HBv2_9 : Hid ((w9).heap[qv2]? = some (.cells #[.string p, .slice a1 n1 c1, .slice a2 n2 c2, .int .i64 st, .slice a3 n3 c3, .string d, .int .i64 u] 34)) := blk_below HBv2_8.out bw
      have HON2_9 : Hid ((w9).ownsRow w.heap.size 9 1 (.slice oN2 n1 pN2) n1 (xs.map Value.string)) := owns_wide ownN2 hb8.size
      have LON2 : Hid (∀ g, (Value.ownBlock (.slice oN2 n1 pN2)) = some g → (w8).heap.size ≤ g) := fun g hg => owns_ge ownN2 hg
      have HIN2 : Hid (∀ g, (Value.ownBlock (.slice oN2 n1 pN2)) = some g → g < (w9).heap.size) := fun g hg => owns_lt ownN2 hg
      clear ownN2
      have HOV2_9 : Hid ((w9).ownsRow w.heap.size 9 1 (.slice oV2 n2 pV2) n2 (ys.map Value.string)) := owns_wide ownV2 hb8.size
      have LOV2 : Hid (∀ g, (Value.ownBlock (.slice oV2 n2 pV2)) = some g → (w8).heap.size ≤ g) := fun g hg => owns_ge ownV2 hg
      have HIV2 : Hid (∀ g, (Value.ownBlock (.slice oV2 n2 pV2)) = some g → g < (w9).heap.size) := fun g hg => owns_lt ownV2 hg
      clear ownV2
      have HOF2_9 : Hid ((w9).ownsRow w.heap.size 83 2 (.slice oF2 n3 pF2) n3 (flatF fs)) := owns_wide ownF2 hb8.size
      have LOF2 : Hid (∀ g, (Value.ownBlock (.slice oF2 n3 pF2)) = some g → (w8).heap.size ≤ g) := fun g hg => owns_ge ownF2 hg
      have HIF2 : Hid (∀ g, (Value.ownBlock (.slice oF2 n3 pF2)) = some g → g < (w9).heap.size) := fun g hg => owns_lt ownF2 hg
      clear ownF2
      clear hb8 HON1_8 HOV1_8 HOF1_8 HBv1_8 HBv2_8 bw
      clear cv2_0 cv2_1 cv2_2 cv2_3 cv2_4 cv2_5 cv2_6
      go_upto_region 10 with fail
      obtain ⟨qv3, hqv3⟩ : ∃ q, q = (w9).heap.size := ⟨_, rfl⟩
      obtain ⟨w10, hW10⟩ : ∃ W, W = (w9).alloc (.cells #[.string p, .slice oN2 n1 pN2, .slice oV2 n2 pV2, .int .i64 st, .slice oF2 n3 pF2, .string d, .int .i64 u] 41) := ⟨_, rfl⟩
      have hz10 : (w9).heap.size = qv3 := hqv3.symm
      first | rw [← hW10, ← hqv3] | rw [← hW10]
      have hs10 : w10.heap.size = qv3 + 1 := by rw [hW10, ← hz10]; simp
      have bw : Below (w9).heap.size (w9) w10 := by rw [hW10]; exact (Below.refl _ _).alloc (Nat.le_refl _) _
      have hb10 : Below w.heap.size w (w10) := hb9.trans (bw.mono hb9.size)
      have HM10 : Hid ((w9).heap.size ≤ (w10).heap.size) := bw.size
      have HON1_10 : Hid ((w10).ownsRow w.heap.size 9 1 (.slice oN1 n1 pN1) n1 (xs.map Value.string)) := owns_below HON1_9.out bw (fun g hg => owns_lt HON1_9.out hg)
      have HOV1_10 : Hid ((w10).ownsRow w.heap.size 9 1 (.slice oV1 n2 pV1) n2 (ys.map Value.string)) := owns_below HOV1_9.out bw (fun g hg => owns_lt HOV1_9.out hg)
      have HOF1_10 : Hid ((w10).ownsRow w.heap.size 83 2 (.slice oF1 n3 pF1) n3 (flatF fs)) := owns_below HOF1_9.out bw (fun g hg => owns_lt HOF1_9.out hg)
      have HON2_10 : Hid ((w10).ownsRow w.heap.size 9 1 (.slice oN2 n1 pN2) n1 (xs.map Value.string)) := owns_below HON2_9.out bw (fun g hg => owns_lt HON2_9.out hg)
      have HOV2_10 : Hid ((w10).ownsRow w.heap.size 9 1 (.slice oV2 n2 pV2) n2 (ys.map Value.string)) := owns_below HOV2_9.out bw (fun g hg => owns_lt HOV2_9.out hg)
      have HOF2_10 : Hid ((w10).ownsRow w.heap.size 83 2 (.slice oF2 n3 pF2) n3 (flatF fs)) := owns_below HOF2_9.out bw (fun g hg => owns_lt HOF2_9.out hg)
      have HBv1_10 : Hid ((w10).heap[qv1]? = some (.cells #[.int .i64 k, .string a, .string b, .int .i64 t] 23)) := blk_below HBv1_9.out bw
      have HBv2_10 : Hid ((w10).heap[qv2]? = some (.cells #[.string p, .slice a1 n1 c1, .slice a2 n2 c2, .int .i64 st, .slice a3 n3 c3, .string d, .int .i64 u] 34)) := blk_below HBv2_9.out bw
      have HNv1v3 : Hid (qv1 ≠ qv3) := fun e => by have h1 := (Array.getElem?_eq_some_iff.1 HBv1_9.out).1; omega
      have HNv2v3 : Hid (qv2 ≠ qv3) := fun e => by have h1 := (Array.getElem?_eq_some_iff.1 HBv2_9.out).1; omega
      have HBv3_10 : Hid ((w10).heap[qv3]? = some (.cells #[.string p, .slice oN2 n1 pN2, .slice oV2 n2 pV2, .int .i64 st, .slice oF2 n3 pF2, .string d, .int .i64 u] 41)) := by show _ = _; rw [hW10, ← hz10]; exact heap_alloc_new _ _
      have HGv3 : Hid (w.heap.size ≤ qv3) := by show _ ≤ _; rw [← hz10]; exact hb9.size
      clear hb9 HON1_9 HOV1_9 HOF1_9 HON2_9 HOV2_9 HOF2_9 HBv1_9 HBv2_9 bw hW10 hz10
      clear hs10 hqv3
      go_upto_region 10 with fail
      refine wp_region_held_drew (S := fun W => W.heap[qv1]? = some (.cells #[.int .i64 k, .string a, .string b, .int .i64 t] 23) ∧ W.heap[qv3]? = some (.cells #[.string p, .slice oN2 n1 pN2, .slice oV2 n2 pV2, .int .i64 st, .slice oF2 n3 pF2, .string d, .int .i64 u] 41)) (by kernel_rfl) ⟨HBv1_10.out, HBv3_10.out⟩ (fun _ => ?_)
      obtain ⟨w11, hX⟩ : ∃ X, X = w10.drew := ⟨_, rfl⟩
      have bw : Below w10.heap.size w10 w11 := by rw [hX]; exact (Below.refl _ _).drew
      rw [← hX]
      have hb11 : Below w.heap.size w (w11) := hb10.trans (bw.mono hb10.size)
      have HM11 : Hid ((w10).heap.size ≤ (w11).heap.size) := bw.size
      have HON1_11 : Hid ((w11).ownsRow w.heap.size 9 1 (.slice oN1 n1 pN1) n1 (xs.map Value.string)) := owns_below HON1_10.out bw (fun g hg => owns_lt HON1_10.out hg)
      have HOV1_11 : Hid ((w11).ownsRow w.heap.size 9 1 (.slice oV1 n2 pV1) n2 (ys.map Value.string)) := owns_below HOV1_10.out bw (fun g hg => owns_lt HOV1_10.out hg)
      have HOF1_11 : Hid ((w11).ownsRow w.heap.size 83 2 (.slice oF1 n3 pF1) n3 (flatF fs)) := owns_below HOF1_10.out bw (fun g hg => owns_lt HOF1_10.out hg)
      have HON2_11 : Hid ((w11).ownsRow w.heap.size 9 1 (.slice oN2 n1 pN2) n1 (xs.map Value.string)) := owns_below HON2_10.out bw (fun g hg => owns_lt HON2_10.out hg)
      have HOV2_11 : Hid ((w11).ownsRow w.heap.size 9 1 (.slice oV2 n2 pV2) n2 (ys.map Value.string)) := owns_below HOV2_10.out bw (fun g hg => owns_lt HOV2_10.out hg)
      have HOF2_11 : Hid ((w11).ownsRow w.heap.size 83 2 (.slice oF2 n3 pF2) n3 (flatF fs)) := owns_below HOF2_10.out bw (fun g hg => owns_lt HOF2_10.out hg)
      have HBv1_11 : Hid ((w11).heap[qv1]? = some (.cells #[.int .i64 k, .string a, .string b, .int .i64 t] 23)) := blk_below HBv1_10.out bw
      have HBv2_11 : Hid ((w11).heap[qv2]? = some (.cells #[.string p, .slice a1 n1 c1, .slice a2 n2 c2, .int .i64 st, .slice a3 n3 c3, .string d, .int .i64 u] 34)) := blk_below HBv2_10.out bw
      have HBv3_11 : Hid ((w11).heap[qv3]? = some (.cells #[.string p, .slice oN2 n1 pN2, .slice oV2 n2 pV2, .int .i64 st, .slice oF2 n3 pF2, .string d, .int .i64 u] 41)) := blk_below HBv3_10.out bw
      have hS11 : w11.heap[qv1]? = some (.cells #[.int .i64 k, .string a, .string b, .int .i64 t] 23) ∧ w11.heap[qv3]? = some (.cells #[.string p, .slice oN2 n1 pN2, .slice oV2 n2 pV2, .int .i64 st, .slice oF2 n3 pF2, .string d, .int .i64 u] 41) := ⟨HBv1_11.out, HBv3_11.out⟩
      clear hb10 HON1_10 HOV1_10 HOF1_10 HON2_10 HOV2_10 HOF2_10 HBv1_10 HBv2_10 HBv3_10 bw hX
      refine wpAnyH_takeD (i := 0) (v := .agg #[.int .i64 k, .string a, .string b, .int .i64 t]) (some 26) rfl rfl (by kernel_rfl) (by kernel_rfl) (by kernel_rfl) (fun _ _ _ h => h) (Or.inl ⟨by rfl, by intro W hW; obtain ⟨hhv1, hhv3⟩ := hW; have y0 := (cell_of hhv1 0).trans rfl; have y1 := (cell_of hhv1 1).trans rfl; have y2 := (cell_of hhv1 2).trans rfl; have y3 := (cell_of hhv1 3).trans rfl; go_simp⟩) hS11 ?_
      simp only [Act.put, List.setIfInBounds_toArray, List.set_cons_zero, List.set_cons_succ]
      refine wpAnyH_takeD (i := 2) (v := .agg #[.string p, .slice oN2 n1 pN2, .slice oV2 n2 pV2, .int .i64 st, .slice oF2 n3 pF2, .string d, .int .i64 u]) (some 28) rfl rfl (by kernel_rfl) (by kernel_rfl) (by kernel_rfl) (fun _ _ _ h => h) (Or.inl ⟨by rfl, by intro W hW; obtain ⟨hhv1, hhv3⟩ := hW; have y0 := (cell_of hhv3 0).trans rfl; have y1 := (cell_of hhv3 1).trans rfl; have y2 := (cell_of hhv3 2).trans rfl; have y3 := (cell_of hhv3 3).trans rfl; have y4 := (cell_of hhv3 4).trans rfl; have y5 := (cell_of hhv3 5).trans rfl; have y6 := (cell_of hhv3 6).trans rfl; go_simp⟩) hS11 ?_
      simp only [Act.put, List.setIfInBounds_toArray, List.set_cons_zero, List.set_cons_succ]
      refine wpAnyH_ready (rs := [1]) (by kernel_rfl) (by simp) ?_
      refine AllReadyH.cons rfl (fun K hK => ?_) AllReadyH.nil
      go_simp
      refine (toBan_any k a b t _).mono ?_
      rintro e w12 ⟨rfl, bw⟩
      have hb12 : Below w.heap.size w (w12) := hb11.trans (bw.mono hb11.size)
      have HM12 : Hid ((w11).heap.size ≤ (w12).heap.size) := bw.size
      have HON1_12 : Hid ((w12).ownsRow w.heap.size 9 1 (.slice oN1 n1 pN1) n1 (xs.map Value.string)) := owns_below HON1_11.out bw (fun g hg => owns_lt HON1_11.out hg)
      have HOV1_12 : Hid ((w12).ownsRow w.heap.size 9 1 (.slice oV1 n2 pV1) n2 (ys.map Value.string)) := owns_below HOV1_11.out bw (fun g hg => owns_lt HOV1_11.out hg)
      have HOF1_12 : Hid ((w12).ownsRow w.heap.size 83 2 (.slice oF1 n3 pF1) n3 (flatF fs)) := owns_below HOF1_11.out bw (fun g hg => owns_lt HOF1_11.out hg)
      have HON2_12 : Hid ((w12).ownsRow w.heap.size 9 1 (.slice oN2 n1 pN2) n1 (xs.map Value.string)) := owns_below HON2_11.out bw (fun g hg => owns_lt HON2_11.out hg)
      have HOV2_12 : Hid ((w12).ownsRow w.heap.size 9 1 (.slice oV2 n2 pV2) n2 (ys.map Value.string)) := owns_below HOV2_11.out bw (fun g hg => owns_lt HOV2_11.out hg)
      have HOF2_12 : Hid ((w12).ownsRow w.heap.size 83 2 (.slice oF2 n3 pF2) n3 (flatF fs)) := owns_below HOF2_11.out bw (fun g hg => owns_lt HOF2_11.out hg)
      have HBv1_12 : Hid ((w12).heap[qv1]? = some (.cells #[.int .i64 k, .string a, .string b, .int .i64 t] 23)) := blk_below HBv1_11.out bw
      have HBv2_12 : Hid ((w12).heap[qv2]? = some (.cells #[.string p, .slice a1 n1 c1, .slice a2 n2 c2, .int .i64 st, .slice a3 n3 c3, .string d, .int .i64 u] 34)) := blk_below HBv2_11.out bw
      have HBv3_12 : Hid ((w12).heap[qv3]? = some (.cells #[.string p, .slice oN2 n1 pN2, .slice oV2 n2 pV2, .int .i64 st, .slice oF2 n3 pF2, .string d, .int .i64 u] 41)) := blk_below HBv3_11.out bw
      clear hb11 HON1_11 HOV1_11 HOF1_11 HON2_11 HOV2_11 HOF2_11 HBv1_11 HBv2_11 HBv3_11 bw
      have hS12 : w12.heap[qv1]? = some (.cells #[.int .i64 k, .string a, .string b, .int .i64 t] 23) ∧ w12.heap[qv3]? = some (.cells #[.string p, .slice oN2 n1 pN2, .slice oV2 n2 pV2, .int .i64 st, .slice oF2 n3 pF2, .string d, .int .i64 u] 41) := ⟨HBv1_12.out, HBv3_12.out⟩
      refine hK.out _ _ hS12 (fun _ => ?_)
      clear hK K hS11
      refine wpAnyH_ready (rs := [3]) (by kernel_rfl) (by simp) ?_
      refine AllReadyH.cons rfl (fun K hK => ?_) AllReadyH.nil
      go_simp
      refine (HIM.out _ _ _ _ _ ⟨HON2_12.out, HOV2_12.out, HOF2_12.out, AP2.out⟩).mono ?_
      rintro e w13 ⟨rfl, bw⟩
      have hb13 : Below w.heap.size w (w13) := hb12.trans (bw.mono hb12.size)
      have HM13 : Hid ((w12).heap.size ≤ (w13).heap.size) := bw.size
      have HON1_13 : Hid ((w13).ownsRow w.heap.size 9 1 (.slice oN1 n1 pN1) n1 (xs.map Value.string)) := owns_below HON1_12.out bw (fun g hg => owns_lt HON1_12.out hg)
      have HOV1_13 : Hid ((w13).ownsRow w.heap.size 9 1 (.slice oV1 n2 pV1) n2 (ys.map Value.string)) := owns_below HOV1_12.out bw (fun g hg => owns_lt HOV1_12.out hg)
      have HOF1_13 : Hid ((w13).ownsRow w.heap.size 83 2 (.slice oF1 n3 pF1) n3 (flatF fs)) := owns_below HOF1_12.out bw (fun g hg => owns_lt HOF1_12.out hg)
      have HON2_13 : Hid ((w13).ownsRow w.heap.size 9 1 (.slice oN2 n1 pN2) n1 (xs.map Value.string)) := owns_below HON2_12.out bw (fun g hg => owns_lt HON2_12.out hg)
      have HOV2_13 : Hid ((w13).ownsRow w.heap.size 9 1 (.slice oV2 n2 pV2) n2 (ys.map Value.string)) := owns_below HOV2_12.out bw (fun g hg => owns_lt HOV2_12.out hg)
      have HOF2_13 : Hid ((w13).ownsRow w.heap.size 83 2 (.slice oF2 n3 pF2) n3 (flatF fs)) := owns_below HOF2_12.out bw (fun g hg => owns_lt HOF2_12.out hg)
      have HBv1_13 : Hid ((w13).heap[qv1]? = some (.cells #[.int .i64 k, .string a, .string b, .int .i64 t] 23)) := blk_below HBv1_12.out bw
      have HBv2_13 : Hid ((w13).heap[qv2]? = some (.cells #[.string p, .slice a1 n1 c1, .slice a2 n2 c2, .int .i64 st, .slice a3 n3 c3, .string d, .int .i64 u] 34)) := blk_below HBv2_12.out bw
      have HBv3_13 : Hid ((w13).heap[qv3]? = some (.cells #[.string p, .slice oN2 n1 pN2, .slice oV2 n2 pV2, .int .i64 st, .slice oF2 n3 pF2, .string d, .int .i64 u] 41)) := blk_below HBv3_12.out bw
      clear hb12 HON1_12 HOV1_12 HOF1_12 HON2_12 HOV2_12 HOF2_12 HBv1_12 HBv2_12 HBv3_12 bw
      have hS13 : w13.heap[qv1]? = some (.cells #[.int .i64 k, .string a, .string b, .int .i64 t] 23) ∧ w13.heap[qv3]? = some (.cells #[.string p, .slice oN2 n1 pN2, .slice oV2 n2 pV2, .int .i64 st, .slice oF2 n3 pF2, .string d, .int .i64 u] 41) := ⟨HBv1_13.out, HBv3_13.out⟩
      refine hK.out _ _ hS13 (fun _ => ?_)
      clear hK K hS12
      refine wpAnyH_takeD (i := 4) (v := .bool P) (some 8) rfl rfl (by kernel_rfl) (by kernel_rfl) (by kernel_rfl) (fun _ _ _ h => h) (Or.inl ⟨by rfl, by intro W _; go_simp⟩) hS13 ?_
      simp only [Act.put, List.setIfInBounds_toArray, List.set_cons_zero, List.set_cons_succ]
      clear hS13
      refine wpAnyH_done (by kernel_rfl) ?_ _
      go_upto_region 13 with fail
      refine wp_region_held_drew (S := fun W => W.heap[qv3]? = some (.cells #[.string p, .slice oN2 n1 pN2, .slice oV2 n2 pV2, .int .i64 st, .slice oF2 n3 pF2, .string d, .int .i64 u] 41) ∧ W.heap[qv2]? = some (.cells #[.string p, .slice a1 n1 c1, .slice a2 n2 c2, .int .i64 st, .slice a3 n3 c3, .string d, .int .i64 u] 34)) (by kernel_rfl) ⟨HBv3_13.out, HBv2_13.out⟩ (fun _ => ?_)
      obtain ⟨w14, hX⟩ : ∃ X, X = w13.drew := ⟨_, rfl⟩
      have bw : Below w13.heap.size w13 w14 := by rw [hX]; exact (Below.refl _ _).drew
      rw [← hX]
      have hb14 : Below w.heap.size w (w14) := hb13.trans (bw.mono hb13.size)
      have HM14 : Hid ((w13).heap.size ≤ (w14).heap.size) := bw.size
      have HON1_14 : Hid ((w14).ownsRow w.heap.size 9 1 (.slice oN1 n1 pN1) n1 (xs.map Value.string)) := owns_below HON1_13.out bw (fun g hg => owns_lt HON1_13.out hg)
      have HOV1_14 : Hid ((w14).ownsRow w.heap.size 9 1 (.slice oV1 n2 pV1) n2 (ys.map Value.string)) := owns_below HOV1_13.out bw (fun g hg => owns_lt HOV1_13.out hg)
      have HOF1_14 : Hid ((w14).ownsRow w.heap.size 83 2 (.slice oF1 n3 pF1) n3 (flatF fs)) := owns_below HOF1_13.out bw (fun g hg => owns_lt HOF1_13.out hg)
      have HON2_14 : Hid ((w14).ownsRow w.heap.size 9 1 (.slice oN2 n1 pN2) n1 (xs.map Value.string)) := owns_below HON2_13.out bw (fun g hg => owns_lt HON2_13.out hg)
      have HOV2_14 : Hid ((w14).ownsRow w.heap.size 9 1 (.slice oV2 n2 pV2) n2 (ys.map Value.string)) := owns_below HOV2_13.out bw (fun g hg => owns_lt HOV2_13.out hg)
      have HOF2_14 : Hid ((w14).ownsRow w.heap.size 83 2 (.slice oF2 n3 pF2) n3 (flatF fs)) := owns_below HOF2_13.out bw (fun g hg => owns_lt HOF2_13.out hg)
      have HBv1_14 : Hid ((w14).heap[qv1]? = some (.cells #[.int .i64 k, .string a, .string b, .int .i64 t] 23)) := blk_below HBv1_13.out bw
      have HBv2_14 : Hid ((w14).heap[qv2]? = some (.cells #[.string p, .slice a1 n1 c1, .slice a2 n2 c2, .int .i64 st, .slice a3 n3 c3, .string d, .int .i64 u] 34)) := blk_below HBv2_13.out bw
      have HBv3_14 : Hid ((w14).heap[qv3]? = some (.cells #[.string p, .slice oN2 n1 pN2, .slice oV2 n2 pV2, .int .i64 st, .slice oF2 n3 pF2, .string d, .int .i64 u] 41)) := blk_below HBv3_13.out bw
      have hS14 : w14.heap[qv3]? = some (.cells #[.string p, .slice oN2 n1 pN2, .slice oV2 n2 pV2, .int .i64 st, .slice oF2 n3 pF2, .string d, .int .i64 u] 41) ∧ w14.heap[qv2]? = some (.cells #[.string p, .slice a1 n1 c1, .slice a2 n2 c2, .int .i64 st, .slice a3 n3 c3, .string d, .int .i64 u] 34) := ⟨HBv3_14.out, HBv2_14.out⟩
      clear hb13 HON1_13 HOV1_13 HOF1_13 HON2_13 HOV2_13 HOF2_13 HBv1_13 HBv2_13 HBv3_13 bw hX
      refine wpAnyH_takeD (i := 0) (v := .agg #[.string p, .slice oN2 n1 pN2, .slice oV2 n2 pV2, .int .i64 st, .slice oF2 n3 pF2, .string d, .int .i64 u]) (some 33) rfl rfl (by kernel_rfl) (by kernel_rfl) (by kernel_rfl) (fun _ _ _ h => h) (Or.inl ⟨by rfl, by intro W hW; obtain ⟨hhv3, hhv2⟩ := hW; have y0 := (cell_of hhv3 0).trans rfl; have y1 := (cell_of hhv3 1).trans rfl; have y2 := (cell_of hhv3 2).trans rfl; have y3 := (cell_of hhv3 3).trans rfl; have y4 := (cell_of hhv3 4).trans rfl; have y5 := (cell_of hhv3 5).trans rfl; have y6 := (cell_of hhv3 6).trans rfl; go_simp⟩) hS14 ?_
      simp only [Act.put, List.setIfInBounds_toArray, List.set_cons_zero, List.set_cons_succ]
      refine wpAnyH_takeD (i := 1) (v := .agg #[.string p, .slice a1 n1 c1, .slice a2 n2 c2, .int .i64 st, .slice a3 n3 c3, .string d, .int .i64 u]) (some 34) rfl rfl (by kernel_rfl) (by kernel_rfl) (by kernel_rfl) (fun _ _ _ h => h) (Or.inl ⟨by rfl, by intro W hW; obtain ⟨hhv3, hhv2⟩ := hW; have y0 := (cell_of hhv2 0).trans rfl; have y1 := (cell_of hhv2 1).trans rfl; have y2 := (cell_of hhv2 2).trans rfl; have y3 := (cell_of hhv2 3).trans rfl; have y4 := (cell_of hhv2 4).trans rfl; have y5 := (cell_of hhv2 5).trans rfl; have y6 := (cell_of hhv2 6).trans rfl; go_simp⟩) hS14 ?_
      simp only [Act.put, List.setIfInBounds_toArray, List.set_cons_zero, List.set_cons_succ]
      refine wpAnyH_ready (rs := [2]) (by kernel_rfl) (by simp) ?_
      refine AllReadyH.cons rfl (fun K hK => ?_) AllReadyH.nil
      go_simp
      refine (toObj_any p a1 n1 c1 xs a2 n2 c2 ys st a3 n3 c3 fs d u w.heap.size _ (HA1.out _ hb14) (HA2.out _ hb14) (HA3.out _ hb14) hb14.size hm1 hm2 hm3).mono ?_
      rintro e w15 ⟨vv1, vv2, vv3, rfl, ⟨ownN3, ownV3, ownF3, ne3⟩, bw⟩
      obtain ⟨oN3, pN3, rfl⟩ := slice_of_owns ownN3
      obtain ⟨oV3, pV3, rfl⟩ := slice_of_owns ownV3
      obtain ⟨oF3, pF3, rfl⟩ := slice_of_owns ownF3
      have AP3 : Hid (∀ j, (Value.slice oN3 n1 pN3).ownBlock = some j → (Value.slice oV3 n2 pV3).ownBlock ≠ some j) := ne3
      clear ne3
      have hb15 : Below w.heap.size w (w15) := hb14.trans (bw.mono hb14.size)
      have HM15 : Hid ((w14).heap.size ≤ (w15).heap.size) := bw.size
      have HON1_15 : Hid ((w15).ownsRow w.heap.size 9 1 (.slice oN1 n1 pN1) n1 (xs.map Value.string)) := owns_below HON1_14.out bw (fun g hg => owns_lt HON1_14.out hg)
      have HOV1_15 : Hid ((w15).ownsRow w.heap.size 9 1 (.slice oV1 n2 pV1) n2 (ys.map Value.string)) := owns_below HOV1_14.out bw (fun g hg => owns_lt HOV1_14.out hg)
      have HOF1_15 : Hid ((w15).ownsRow w.heap.size 83 2 (.slice oF1 n3 pF1) n3 (flatF fs)) := owns_below HOF1_14.out bw (fun g hg => owns_lt HOF1_14.out hg)
      have HON2_15 : Hid ((w15).ownsRow w.heap.size 9 1 (.slice oN2 n1 pN2) n1 (xs.map Value.string)) := owns_below HON2_14.out bw (fun g hg => owns_lt HON2_14.out hg)
      have HOV2_15 : Hid ((w15).ownsRow w.heap.size 9 1 (.slice oV2 n2 pV2) n2 (ys.map Value.string)) := owns_below HOV2_14.out bw (fun g hg => owns_lt HOV2_14.out hg)
      have HOF2_15 : Hid ((w15).ownsRow w.heap.size 83 2 (.slice oF2 n3 pF2) n3 (flatF fs)) := owns_below HOF2_14.out bw (fun g hg => owns_lt HOF2_14.out hg)
      have HBv1_15 : Hid ((w15).heap[qv1]? = some (.cells #[.int .i64 k, .string a, .string b, .int .i64 t] 23)) := blk_below HBv1_14.out bw
      have HBv2_15 : Hid ((w15).heap[qv2]? = some (.cells #[.string p, .slice a1 n1 c1, .slice a2 n2 c2, .int .i64 st, .slice a3 n3 c3, .string d, .int .i64 u] 34)) := blk_below HBv2_14.out bw
      have HBv3_15 : Hid ((w15).heap[qv3]? = some (.cells #[.string p, .slice oN2 n1 pN2, .slice oV2 n2 pV2, .int .i64 st, .slice oF2 n3 pF2, .string d, .int .i64 u] 41)) := blk_below HBv3_14.out bw
      have HON3_15 : Hid ((w15).ownsRow w.heap.size 9 1 (.slice oN3 n1 pN3) n1 (xs.map Value.string)) := owns_wide ownN3 hb14.size
      have LON3 : Hid (∀ g, (Value.ownBlock (.slice oN3 n1 pN3)) = some g → (w14).heap.size ≤ g) := fun g hg => owns_ge ownN3 hg
      have HIN3 : Hid (∀ g, (Value.ownBlock (.slice oN3 n1 pN3)) = some g → g < (w15).heap.size) := fun g hg => owns_lt ownN3 hg
      clear ownN3
      have HOV3_15 : Hid ((w15).ownsRow w.heap.size 9 1 (.slice oV3 n2 pV3) n2 (ys.map Value.string)) := owns_wide ownV3 hb14.size
      have LOV3 : Hid (∀ g, (Value.ownBlock (.slice oV3 n2 pV3)) = some g → (w14).heap.size ≤ g) := fun g hg => owns_ge ownV3 hg
      have HIV3 : Hid (∀ g, (Value.ownBlock (.slice oV3 n2 pV3)) = some g → g < (w15).heap.size) := fun g hg => owns_lt ownV3 hg
      clear ownV3
      have HOF3_15 : Hid ((w15).ownsRow w.heap.size 83 2 (.slice oF3 n3 pF3) n3 (flatF fs)) := owns_wide ownF3 hb14.size
      have LOF3 : Hid (∀ g, (Value.ownBlock (.slice oF3 n3 pF3)) = some g → (w14).heap.size ≤ g) := fun g hg => owns_ge ownF3 hg
      have HIF3 : Hid (∀ g, (Value.ownBlock (.slice oF3 n3 pF3)) = some g → g < (w15).heap.size) := fun g hg => owns_lt ownF3 hg
      clear ownF3
      clear hb14 HON1_14 HOV1_14 HOF1_14 HON2_14 HOV2_14 HOF2_14 HBv1_14 HBv2_14 HBv3_14 bw
      have hS15 : w15.heap[qv3]? = some (.cells #[.string p, .slice oN2 n1 pN2, .slice oV2 n2 pV2, .int .i64 st, .slice oF2 n3 pF2, .string d, .int .i64 u] 41) ∧ w15.heap[qv2]? = some (.cells #[.string p, .slice a1 n1 c1, .slice a2 n2 c2, .int .i64 st, .slice a3 n3 c3, .string d, .int .i64 u] 34) := ⟨HBv3_15.out, HBv2_15.out⟩
      refine hK.out _ _ hS15 (fun _ => ?_)
      clear hK K hS14
      refine wpAnyH_ready (rs := [3]) (by kernel_rfl) (by simp) ?_
      refine AllReadyH.cons rfl (fun K hK => ?_) AllReadyH.nil
      go_simp
      refine (eqObj_any p n1 xs n2 ys st n3 fs d u _ _ _ _ _ _ _ _ _ ⟨HON2_15.out, HOV2_15.out, HOF2_15.out, AP2.out⟩ ⟨HON3_15.out, HOV3_15.out, HOF3_15.out, AP3.out⟩ (by omega) (by omega) (by omega)).mono ?_
      rintro e w16 ⟨rfl, bw⟩
      have hb16 : Below w.heap.size w (w16) := hb15.trans (bw.mono hb15.size)
      have HM16 : Hid ((w15).heap.size ≤ (w16).heap.size) := bw.size
      have HON1_16 : Hid ((w16).ownsRow w.heap.size 9 1 (.slice oN1 n1 pN1) n1 (xs.map Value.string)) := owns_below HON1_15.out bw (fun g hg => owns_lt HON1_15.out hg)
      have HOV1_16 : Hid ((w16).ownsRow w.heap.size 9 1 (.slice oV1 n2 pV1) n2 (ys.map Value.string)) := owns_below HOV1_15.out bw (fun g hg => owns_lt HOV1_15.out hg)
      have HOF1_16 : Hid ((w16).ownsRow w.heap.size 83 2 (.slice oF1 n3 pF1) n3 (flatF fs)) := owns_below HOF1_15.out bw (fun g hg => owns_lt HOF1_15.out hg)
      have HON2_16 : Hid ((w16).ownsRow w.heap.size 9 1 (.slice oN2 n1 pN2) n1 (xs.map Value.string)) := owns_below HON2_15.out bw (fun g hg => owns_lt HON2_15.out hg)
      have HOV2_16 : Hid ((w16).ownsRow w.heap.size 9 1 (.slice oV2 n2 pV2) n2 (ys.map Value.string)) := owns_below HOV2_15.out bw (fun g hg => owns_lt HOV2_15.out hg)
      have HOF2_16 : Hid ((w16).ownsRow w.heap.size 83 2 (.slice oF2 n3 pF2) n3 (flatF fs)) := owns_below HOF2_15.out bw (fun g hg => owns_lt HOF2_15.out hg)
      have HON3_16 : Hid ((w16).ownsRow w.heap.size 9 1 (.slice oN3 n1 pN3) n1 (xs.map Value.string)) := owns_below HON3_15.out bw (fun g hg => owns_lt HON3_15.out hg)
      have HOV3_16 : Hid ((w16).ownsRow w.heap.size 9 1 (.slice oV3 n2 pV3) n2 (ys.map Value.string)) := owns_below HOV3_15.out bw (fun g hg => owns_lt HOV3_15.out hg)
      have HOF3_16 : Hid ((w16).ownsRow w.heap.size 83 2 (.slice oF3 n3 pF3) n3 (flatF fs)) := owns_below HOF3_15.out bw (fun g hg => owns_lt HOF3_15.out hg)
      have HBv1_16 : Hid ((w16).heap[qv1]? = some (.cells #[.int .i64 k, .string a, .string b, .int .i64 t] 23)) := blk_below HBv1_15.out bw
      have HBv2_16 : Hid ((w16).heap[qv2]? = some (.cells #[.string p, .slice a1 n1 c1, .slice a2 n2 c2, .int .i64 st, .slice a3 n3 c3, .string d, .int .i64 u] 34)) := blk_below HBv2_15.out bw
      have HBv3_16 : Hid ((w16).heap[qv3]? = some (.cells #[.string p, .slice oN2 n1 pN2, .slice oV2 n2 pV2, .int .i64 st, .slice oF2 n3 pF2, .string d, .int .i64 u] 41)) := blk_below HBv3_15.out bw
      clear hb15 HON1_15 HOV1_15 HOF1_15 HON2_15 HOV2_15 HOF2_15 HON3_15 HOV3_15 HOF3_15 HBv1_15 HBv2_15 HBv3_15 bw
      have hS16 : w16.heap[qv3]? = some (.cells #[.string p, .slice oN2 n1 pN2, .slice oV2 n2 pV2, .int .i64 st, .slice oF2 n3 pF2, .string d, .int .i64 u] 41) ∧ w16.heap[qv2]? = some (.cells #[.string p, .slice a1 n1 c1, .slice a2 n2 c2, .int .i64 st, .slice a3 n3 c3, .string d, .int .i64 u] 34) := ⟨HBv3_16.out, HBv2_16.out⟩
      refine hK.out _ _ hS16 (fun _ => ?_)
      clear hK K hS15
      refine wpAnyH_takeD (i := 4) (v := .bool false) (some 37) rfl rfl (by kernel_rfl) (by kernel_rfl) (by kernel_rfl) (fun _ _ _ h => h) (Or.inl ⟨by rfl, by intro W _; go_simp⟩) hS16 ?_
      simp only [Act.put, List.setIfInBounds_toArray, List.set_cons_zero, List.set_cons_succ]
      clear hS16
      refine wpAnyH_done (by kernel_rfl) ?_ _
      go_wp2_with fail
      go_ret
      exact ⟨rfl, hb16⟩


set_option maxRecDepth 100000 in
theorem lifted (os : Os) (started : os.Started) (H : Type) (enc : TypeId × Value → H) :
    ReturnsInHanded {} Try.checked os 4 .any (Rows.fnExactHitsSpec.pre6 enc Try.prog Try.f4 Rows.fnExactHitsRow.domain false) (Rows.fnExactHitsSpec.post enc Try.prog Try.f4 false true false false) := by
  refine returnsInHanded_of_change (C := Try.checked) own started (by kernel_rfl) Try.func4
    (ChangeSpec.witness6 (enc := enc) (C := Try.checked) false ⟨#[], #[.agg #[.int .i64 0, .string ByteArray.empty, .string ByteArray.empty, .int .i64 0], .agg #[.string ByteArray.empty, .slice none 0 0, .slice none 0 0, .int .i64 0, .slice none 0 0, .string ByteArray.empty, .int .i64 0]], []⟩ 8 (by kernel_rfl) (by kernel_rfl) (by kernel_rfl) (by kernel_rfl)) ?_
  intro W base args ds gs before hval0 hW _ _
  have hval : ∀ (j : Nat) t v, Try.f4.params[j]? = some t → args[j]? = some v → Value.okWide Try.prog W .any base t v := hval0
  have hW' := hW
  obtain ⟨p, q, hA0, hV, rfl, hfz, hnd⟩ := hW
  have hA : DataW.TrodAll enc Try.prog W 0 (fun _ => true) true Try.f4.params.toList args.toList ds p := hA0
  rw [Try.params4] at hA hval
  obtain ⟨v0, vs0, d0, ds0, p0, q0, hargs, rfl, rfl, h0, r0⟩ := trodAll_cons hA
  obtain ⟨v1, vs1, d1, ds1, p1, q1, hargs1, rfl, rfl, h1, r1⟩ := trodAll_cons r0
  obtain ⟨rfl, rfl, rfl⟩ := trodAll_nil r1
  obtain rfl : args = #[v0, v1] := by cases args; simp_all
  obtain ⟨rfl, rfl⟩ := trodVars_none hV
  have k0 := h0
  have lt0 : ∀ x ∈ p0, x.block < W.heap.size := by obtain ⟨m, hm⟩ := k0; exact DataW.trod_lt m _ _ _ hm
  obtain ⟨bk0, ba0, bb0, bt0, rfl, ga0, gb0⟩ := openBan (hval 0 23 v0 rfl rfl) h0
  have k1 := h1
  have lt1 : ∀ x ∈ p1, x.block < W.heap.size := by obtain ⟨m, hm⟩ := k1; exact DataW.trod_lt m _ _ _ hm
  obtain ⟨op1, a1, n1, cap1, xs1, b1, m1, capb1, ys1, st1, e1, l1, cape1, fs1, ob1, ot1, rfl, ga1, gb1, gc1, gd1, ge1, gf1, gg1, gh1, gi1, gj1, gk1⟩ := openObj (hval 1 34 v1 rfl rfl) h1
  clear hA0 hval0
  refine (walk1 W bk0 ba0 bb0 bt0 ga0 gb0 op1 a1 n1 cap1 xs1 b1 m1 capb1 ys1 st1 e1 l1 cape1 fs1 ob1 ot1 ga1 gb1 gc1 gd1 ge1 gf1 gg1 gh1 gi1 gj1 gk1).mono fun e W' ⟨he, bel⟩ => ?_
  subst he
  exact ⟨_, rfl, _, _, _, [], _, [], hW', trodAll_mk1 (shut_bool Try.underlying4 _), (trodAll_cons_mk (Below.trod laidOut (by kernel_rfl) (of_decide_eq_true (by kernel_rfl)) k0 bel lt0) (trodAll_cons_mk (Below.trod laidOut (by kernel_rfl) (of_decide_eq_true (by kernel_rfl)) k1 bel lt1) trodAll_mk0)), rfl, bel.frame _, fun h => by cases h⟩

theorem over : Rows.fnExactHitsRow.holds Try.pinned (OpenSpec.ofChange Rows.fnExactHitsSpec) :=
  OpenClaim.holds_of_wide 4 Try.f4 rfl rfl rfl rfl rfl rfl rfl ⟨rfl, rfl, rfl, rfl, rfl⟩ rfl rfl rfl rfl rfl (by kernel_rfl) Try.func4 (by kernel_rfl)
    (of_decide_eq_true (by kernel_rfl)) (by unfold Func.isWrapper; first | (rw [if_pos (by decide +kernel)]; kernel_rfl) | (rw [if_neg (by decide +kernel)]; exact ⟨rfl, rfl⟩))
    (fun os started H enc _ => lifted os started H enc)
end fnExactHits

theorem fnExactHits_holds : Rows.FnExactHitsSaid := fnExactHits.over
#print axioms fnExactHits_holds
end Go.Proofs.Ytlmenolcgaakeaa
