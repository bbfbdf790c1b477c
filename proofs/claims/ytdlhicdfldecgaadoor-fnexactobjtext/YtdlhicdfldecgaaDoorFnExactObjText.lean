/- ObjText: at every argument the program answers as the specification (the law answers true), and it writes into no argument. The card lists the tables that strconv.Itoa's text names. -/
import Derived.Test.YtdlhicdfldecgaaDoorFnExactObjTextC
import Derived.Below
import Derived.ChangeOld
import Derived.ShutString
import Derived.Deep.RegionHeld3
import Derived.Deep.DrawnRows
import Derived.Deep.CutRange
import Derived.Deep.DeepCutAuto
namespace Go.Proofs.YtdlhicdfldecgaaDoor
namespace fnExactObjText
open Go.ChangeShapes Go.WideShapes Go.ChangeAt Go.RowKit
open Go.ChangeMaps (open_string shut_string)
attribute [local go_sem ↓] Go.wp_at_zero Go.wp_at_succ

theorem own : ownKnob Tryd.prog.godebug = none := by kernel_rfl
theorem laidOut : laidOutB Tryd.prog = true := by kernel_rfl
open Classical in
theorem text_is {P : Prop} {t : ByteArray} {prog : Program} {f : FuncId} {args : Array Value} {w : World} (h : Calls prog f args w fun e w' => TextOf P t w e w') : Calls prog f args w fun e w' => e = .returned (.string (if P then t else ⟨#[]⟩)) ∧ Below w.heap.size w w' :=
  h.mono fun e w' ⟨u, h1, h2, h3, h4⟩ => by
    refine ⟨?_, h4⟩
    by_cases hp : P
    · rw [if_pos hp, h1, h2 hp]
    · rw [if_neg hp, h1, h3 hp]

open Go.Lib hiding intOf
set_option maxHeartbeats 8000000 in
set_option maxRecDepth 100000 in
theorem walk1 (w : World) (p : ByteArray) (a1 : Option Addr) (n1 c1 : Nat) (xs : List ByteArray) (a2 : Option Addr) (n2 c2 : Nat) (ys : List ByteArray) (st : Int) (a3 : Option Addr) (n3 c3 : Nat) (fs : List (ByteArray × ByteArray)) (b : ByteArray) (t : Int) (h1 : ArgT w w.heap.size a1 n1 xs) (h2 : ArgT w w.heap.size a2 n2 ys) (h3 : ArgF w w.heap.size a3 n3 fs) (hn1 : n1 ≤ maxLen) (hn2 : n2 ≤ maxLen) (hn3 : n3 ≤ maxLen) (hs1 : ∀ i, i < n1 → (textAt xs i).size ≤ maxLen) (hs2 : ∀ i, i < n2 → (textAt ys i).size ≤ maxLen) (hs3 : WalkF n3 fs) (hp : p.size ≤ maxLen) (hx : b.size ≤ maxLen) (hT : TabOk w) :
    Calls Tryd.prog 3 #[.agg #[.string p, .slice a1 n1 c1, .slice a2 n2 c2, .int .i64 st, .slice a3 n3 c3, .string b, .int .i64 t]] w fun e w' => e = .returned (.bool true) ∧ Below w.heap.size w w' := by
  classical
  have HA1 : Hid (∀ W, Below w.heap.size w W → ArgT W w.heap.size a1 n1 xs) := fun W h => h1.below h
  have HA2 : Hid (∀ W, Below w.heap.size w W → ArgT W w.heap.size a2 n2 ys) := fun W h => h2.below h
  have HA3 : Hid (∀ W, Below w.heap.size w W → ArgF W w.heap.size a3 n3 fs) := fun W h => h3.below h
  have HL3 : Hid (fs.length = n3) := h3.len
  have HN1 : Hid (n1 ≤ maxLen) := hn1
  have HN2 : Hid (n2 ≤ maxLen) := hn2
  have HN3 : Hid (n3 ≤ maxLen) := hn3
  have HS1 : Hid (∀ i, i < n1 → (textAt xs i).size ≤ maxLen) := hs1
  have HS2 : Hid (∀ i, i < n2 → (textAt ys i).size ≤ maxLen) := hs2
  have HS3 : Hid (WalkF n3 fs) := hs3
  have HPM : Hid (p.size ≤ maxLen) := hp
  have HX : Hid (b.size ≤ maxLen) := hx
  have HTB : Hid (∀ W, Below w.heap.size w W → TabOk W) := fun W h => hT.below h
  clear hT h1 h2 h3 hn1 hn2 hn3 hs1 hs2 hs3 hp hx
  have hb0 : Below w.heap.size w w := Below.refl _ _
  go_enter Tryd.func3, Tryd.ntmps3
  go_upto_region 1 with fail
  obtain ⟨qv1, hqv1⟩ : ∃ q, q = (w).heap.size := ⟨_, rfl⟩
  obtain ⟨w1, hW1⟩ : ∃ W, W = (w).alloc (.cells #[.string p, .slice a1 n1 c1, .slice a2 n2 c2, .int .i64 st, .slice a3 n3 c3, .string b, .int .i64 t] 27) := ⟨_, rfl⟩
  have hz1 : (w).heap.size = qv1 := hqv1.symm
  first | rw [← hW1, ← hqv1] | rw [← hW1]
  have hs1 : w1.heap.size = qv1 + 1 := by rw [hW1, ← hz1]; simp
  have bw : Below (w).heap.size (w) w1 := by rw [hW1]; exact (Below.refl _ _).alloc (Nat.le_refl _) _
  have hb1 : Below w.heap.size w (w1) := hb0.trans (bw.mono hb0.size)
  have HM1 : Hid ((w).heap.size ≤ (w1).heap.size) := bw.size
  have HBv1_1 : Hid ((w1).heap[qv1]? = some (.cells #[.string p, .slice a1 n1 c1, .slice a2 n2 c2, .int .i64 st, .slice a3 n3 c3, .string b, .int .i64 t] 27)) := by show _ = _; rw [hW1, ← hz1]; exact heap_alloc_new _ _
  have HGv1 : Hid (w.heap.size ≤ qv1) := by show _ ≤ _; rw [← hz1]; exact hb0.size
  clear hb0 bw hW1 hz1
  clear hs1 hqv1
  have cv1_0 : (w1).cell? ⟨qv1, 0, none⟩ = some (.string p) := (cell_of HBv1_1.out 0).trans rfl
  have cv1_1 : (w1).cell? ⟨qv1, 1, none⟩ = some (.slice a1 n1 c1) := (cell_of HBv1_1.out 1).trans rfl
  have cv1_2 : (w1).cell? ⟨qv1, 2, none⟩ = some (.slice a2 n2 c2) := (cell_of HBv1_1.out 2).trans rfl
  have cv1_3 : (w1).cell? ⟨qv1, 3, none⟩ = some (.int .i64 st) := (cell_of HBv1_1.out 3).trans rfl
  have cv1_4 : (w1).cell? ⟨qv1, 4, none⟩ = some (.slice a3 n3 c3) := (cell_of HBv1_1.out 4).trans rfl
  have cv1_5 : (w1).cell? ⟨qv1, 5, none⟩ = some (.string b) := (cell_of HBv1_1.out 5).trans rfl
  have cv1_6 : (w1).cell? ⟨qv1, 6, none⟩ = some (.int .i64 t) := (cell_of HBv1_1.out 6).trans rfl
  go_wp2_with fail
  refine (szObj_any 1048576 (by omega) (by omega) p a1 n1 c1 xs a2 n2 c2 ys st a3 n3 c3 fs b t w.heap.size _ (HA1.out _ hb1) (HA2.out _ hb1) (HA3.out _ hb1) hb1.size HN1.out HN2.out HN3.out HS1.out HS2.out HS3.out HPM.out HX.out).mono ?_
  rintro e w2 ⟨r1, rfl, hl1, hr1, bw⟩
  have hb2 : Below w.heap.size w (w2) := hb1.trans (bw.mono hb1.size)
  have HM2 : Hid ((w1).heap.size ≤ (w2).heap.size) := bw.size
  have HBv1_2 : Hid ((w2).heap[qv1]? = some (.cells #[.string p, .slice a1 n1 c1, .slice a2 n2 c2, .int .i64 st, .slice a3 n3 c3, .string b, .int .i64 t] 27)) := blk_below HBv1_1.out bw
  clear hb1 HBv1_1 bw
  clear cv1_0 cv1_1 cv1_2 cv1_3 cv1_4 cv1_5 cv1_6
  by_cases hc1 : r1 < 0
  · clear hr1
    go_wp2_with fail
    go_ret
    exact ⟨rfl, hb2⟩
  · obtain ⟨hrm, ⟨hpp1, hxx1⟩, ⟨hm1, hz1⟩, ⟨hm2, hz2⟩, hm3, hz3⟩ := hr1 (by omega)
    have HZ1 : Hid (∀ i, i < n1 → (textAt xs i).size ≤ 1048576) := hz1
    have HZ2 : Hid (∀ i, i < n2 → (textAt ys i).size ≤ 1048576) := hz2
    have HG : Hid (∀ x, (getV fs x).size ≤ 1048576) := fun x => by
      unfold getV
      split
      · rename_i h
        have := szTo_get fs n3 (atF fs x) (by rw [← HL3.out]; exact h)
        omega
      · decide
    have HC : Hid (CopyF fs) := fun i hi => by
      have := szTo_get fs n3 i (by rw [← HL3.out]; exact hi)
      omega
    obtain ⟨P, hP⟩ : ∃ P : ByteArray, P = (if ObjP p xs ys st fs b t then objT p ys st fs b t else ⟨#[]⟩) := ⟨_, rfl⟩
    have HSP : Hid (∀ (u1 u2 u3 : Value) (B : Nat) (W : World), ObjO W B u1 n1 xs u2 n2 ys u3 n3 fs → Calls Tryd.prog 5 #[.agg #[.string p, u1, u2, .int .i64 st, u3, .string b, .int .i64 t]] W fun e w' => e = .returned (.string P) ∧ Below W.heap.size W w') := by
      intro u1 u2 u3 B W ho
      obtain ⟨oa, ca, rfl⟩ := slice_of_owns ho.names
      obtain ⟨ob, cb, rfl⟩ := slice_of_owns ho.vals
      rw [hP]
      exact text_is (specObjText_any p _ n1 _ xs _ n2 _ ys st u3 n3 B fs b t W (texts_view ho.names) (texts_view ho.vals) (FieldsV.of_owns ho.flds) (by omega) (by omega) (by omega) HS1.out HS2.out HS3.out HPM.out HX.out (HG.out _))
    have HIM : Hid (∀ (u1 u2 u3 : Value) (B : Nat) (W : World), ObjO W B u1 n1 xs u2 n2 ys u3 n3 fs → Below w.heap.size w W → Calls Tryd.prog 7 #[.agg #[.string p, u1, u2, .int .i64 st, u3, .string b, .int .i64 t]] W fun e w' => e = .returned (.string P) ∧ Below W.heap.size W w') := by
      intro u1 u2 u3 B W ho hbW
      obtain ⟨oa, ca, rfl⟩ := slice_of_owns ho.names
      obtain ⟨ob, cb, rfl⟩ := slice_of_owns ho.vals
      rw [hP]
      exact text_is (implObjText_any p _ n1 _ xs _ n2 _ ys st u3 n3 B fs b t W (texts_view ho.names) (texts_view ho.vals) (FieldsV.of_owns ho.flds) (by omega) (by omega) (by omega) HS1.out HS2.out HS3.out HPM.out HX.out (HG.out _) HC.out (HTB.out W hbW))
    clear hP hr1 hz1 hz2 hz3 hrm
    have hPP : (P.toList != P.toList) = false := by simp
    have cv1_0 : (w2).cell? ⟨qv1, 0, none⟩ = some (.string p) := (cell_of HBv1_2.out 0).trans rfl
    have cv1_1 : (w2).cell? ⟨qv1, 1, none⟩ = some (.slice a1 n1 c1) := (cell_of HBv1_2.out 1).trans rfl
    have cv1_2 : (w2).cell? ⟨qv1, 2, none⟩ = some (.slice a2 n2 c2) := (cell_of HBv1_2.out 2).trans rfl
    have cv1_3 : (w2).cell? ⟨qv1, 3, none⟩ = some (.int .i64 st) := (cell_of HBv1_2.out 3).trans rfl
    have cv1_4 : (w2).cell? ⟨qv1, 4, none⟩ = some (.slice a3 n3 c3) := (cell_of HBv1_2.out 4).trans rfl
    have cv1_5 : (w2).cell? ⟨qv1, 5, none⟩ = some (.string b) := (cell_of HBv1_2.out 5).trans rfl
    have cv1_6 : (w2).cell? ⟨qv1, 6, none⟩ = some (.int .i64 t) := (cell_of HBv1_2.out 6).trans rfl
    go_wp2_with fail
    refine (toObj_any p a1 n1 c1 xs a2 n2 c2 ys st a3 n3 c3 fs b t w.heap.size _ (HA1.out _ hb2) (HA2.out _ hb2) (HA3.out _ hb2) hb2.size hm1 hm2 hm3).mono ?_
    rintro e w3 ⟨vv1, vv2, vv3, rfl, ⟨ownN1, ownV1, ownF1, ne1⟩, bw⟩
    obtain ⟨oN1, pN1, rfl⟩ := slice_of_owns ownN1
    obtain ⟨oV1, pV1, rfl⟩ := slice_of_owns ownV1
    obtain ⟨oF1, pF1, rfl⟩ := slice_of_owns ownF1
    have AP1 : Hid (∀ j, (Value.slice oN1 n1 pN1).ownBlock = some j → (Value.slice oV1 n2 pV1).ownBlock ≠ some j) := ne1
    clear ne1
    have hb3 : Below w.heap.size w (w3) := hb2.trans (bw.mono hb2.size)
    have HM3 : Hid ((w2).heap.size ≤ (w3).heap.size) := bw.size
    have HBv1_3 : Hid ((w3).heap[qv1]? = some (.cells #[.string p, .slice a1 n1 c1, .slice a2 n2 c2, .int .i64 st, .slice a3 n3 c3, .string b, .int .i64 t] 27)) := blk_below HBv1_2.out bw
    have HON1_3 : Hid ((w3).ownsRow w.heap.size 9 1 (.slice oN1 n1 pN1) n1 (xs.map Value.string)) := owns_wide ownN1 hb2.size
    have LON1 : Hid (∀ g, (Value.ownBlock (.slice oN1 n1 pN1)) = some g → (w2).heap.size ≤ g) := fun g hg => owns_ge ownN1 hg
    have HIN1 : Hid (∀ g, (Value.ownBlock (.slice oN1 n1 pN1)) = some g → g < (w3).heap.size) := fun g hg => owns_lt ownN1 hg
    clear ownN1
    have HOV1_3 : Hid ((w3).ownsRow w.heap.size 9 1 (.slice oV1 n2 pV1) n2 (ys.map Value.string)) := owns_wide ownV1 hb2.size
    have LOV1 : Hid (∀ g, (Value.ownBlock (.slice oV1 n2 pV1)) = some g → (w2).heap.size ≤ g) := fun g hg => owns_ge ownV1 hg
    have HIV1 : Hid (∀ g, (Value.ownBlock (.slice oV1 n2 pV1)) = some g → g < (w3).heap.size) := fun g hg => owns_lt ownV1 hg
    clear ownV1
    have HOF1_3 : Hid ((w3).ownsRow w.heap.size 81 2 (.slice oF1 n3 pF1) n3 (flatF fs)) := owns_wide ownF1 hb2.size
    have LOF1 : Hid (∀ g, (Value.ownBlock (.slice oF1 n3 pF1)) = some g → (w2).heap.size ≤ g) := fun g hg => owns_ge ownF1 hg
    have HIF1 : Hid (∀ g, (Value.ownBlock (.slice oF1 n3 pF1)) = some g → g < (w3).heap.size) := fun g hg => owns_lt ownF1 hg
    clear ownF1
    clear hb2 HBv1_2 bw
    clear cv1_0 cv1_1 cv1_2 cv1_3 cv1_4 cv1_5 cv1_6
    go_wp2_with fail
    refine (HSP.out _ _ _ _ _ ⟨HON1_3.out, HOV1_3.out, HOF1_3.out, AP1.out⟩).mono ?_
    rintro e w4 ⟨rfl, bw⟩
    have hb4 : Below w.heap.size w (w4) := hb3.trans (bw.mono hb3.size)
    have HM4 : Hid ((w3).heap.size ≤ (w4).heap.size) := bw.size
    have HON1_4 : Hid ((w4).ownsRow w.heap.size 9 1 (.slice oN1 n1 pN1) n1 (xs.map Value.string)) := owns_below HON1_3.out bw (fun g hg => owns_lt HON1_3.out hg)
    have HOV1_4 : Hid ((w4).ownsRow w.heap.size 9 1 (.slice oV1 n2 pV1) n2 (ys.map Value.string)) := owns_below HOV1_3.out bw (fun g hg => owns_lt HOV1_3.out hg)
    have HOF1_4 : Hid ((w4).ownsRow w.heap.size 81 2 (.slice oF1 n3 pF1) n3 (flatF fs)) := owns_below HOF1_3.out bw (fun g hg => owns_lt HOF1_3.out hg)
    have HBv1_4 : Hid ((w4).heap[qv1]? = some (.cells #[.string p, .slice a1 n1 c1, .slice a2 n2 c2, .int .i64 st, .slice a3 n3 c3, .string b, .int .i64 t] 27)) := blk_below HBv1_3.out bw
    clear hb3 HON1_3 HOV1_3 HOF1_3 HBv1_3 bw
    have cv1_0 : (w4).cell? ⟨qv1, 0, none⟩ = some (.string p) := (cell_of HBv1_4.out 0).trans rfl
    have cv1_1 : (w4).cell? ⟨qv1, 1, none⟩ = some (.slice a1 n1 c1) := (cell_of HBv1_4.out 1).trans rfl
    have cv1_2 : (w4).cell? ⟨qv1, 2, none⟩ = some (.slice a2 n2 c2) := (cell_of HBv1_4.out 2).trans rfl
    have cv1_3 : (w4).cell? ⟨qv1, 3, none⟩ = some (.int .i64 st) := (cell_of HBv1_4.out 3).trans rfl
    have cv1_4 : (w4).cell? ⟨qv1, 4, none⟩ = some (.slice a3 n3 c3) := (cell_of HBv1_4.out 4).trans rfl
    have cv1_5 : (w4).cell? ⟨qv1, 5, none⟩ = some (.string b) := (cell_of HBv1_4.out 5).trans rfl
    have cv1_6 : (w4).cell? ⟨qv1, 6, none⟩ = some (.int .i64 t) := (cell_of HBv1_4.out 6).trans rfl
    go_wp2_with fail
    refine (toObj_any p a1 n1 c1 xs a2 n2 c2 ys st a3 n3 c3 fs b t w.heap.size _ (HA1.out _ hb4) (HA2.out _ hb4) (HA3.out _ hb4) hb4.size hm1 hm2 hm3).mono ?_
    rintro e w5 ⟨vv1, vv2, vv3, rfl, ⟨ownN2, ownV2, ownF2, ne2⟩, bw⟩
    obtain ⟨oN2, pN2, rfl⟩ := slice_of_owns ownN2
    obtain ⟨oV2, pV2, rfl⟩ := slice_of_owns ownV2
    obtain ⟨oF2, pF2, rfl⟩ := slice_of_owns ownF2
    have AP2 : Hid (∀ j, (Value.slice oN2 n1 pN2).ownBlock = some j → (Value.slice oV2 n2 pV2).ownBlock ≠ some j) := ne2
    clear ne2
    have hb5 : Below w.heap.size w (w5) := hb4.trans (bw.mono hb4.size)
    have HM5 : Hid ((w4).heap.size ≤ (w5).heap.size) := bw.size
    have HON1_5 : Hid ((w5).ownsRow w.heap.size 9 1 (.slice oN1 n1 pN1) n1 (xs.map Value.string)) := owns_below HON1_4.out bw (fun g hg => owns_lt HON1_4.out hg)
    have HOV1_5 : Hid ((w5).ownsRow w.heap.size 9 1 (.slice oV1 n2 pV1) n2 (ys.map Value.string)) := owns_below HOV1_4.out bw (fun g hg => owns_lt HOV1_4.out hg)
    have HOF1_5 : Hid ((w5).ownsRow w.heap.size 81 2 (.slice oF1 n3 pF1) n3 (flatF fs)) := owns_below HOF1_4.out bw (fun g hg => owns_lt HOF1_4.out hg)
    have HBv1_5 : Hid ((w5).heap[qv1]? = some (.cells #[.string p, .slice a1 n1 c1, .slice a2 n2 c2, .int .i64 st, .slice a3 n3 c3, .string b, .int .i64 t] 27)) := blk_below HBv1_4.out bw
    have HON2_5 : Hid ((w5).ownsRow w.heap.size 9 1 (.slice oN2 n1 pN2) n1 (xs.map Value.string)) := owns_wide ownN2 hb4.size
    have LON2 : Hid (∀ g, (Value.ownBlock (.slice oN2 n1 pN2)) = some g → (w4).heap.size ≤ g) := fun g hg => owns_ge ownN2 hg
    have HIN2 : Hid (∀ g, (Value.ownBlock (.slice oN2 n1 pN2)) = some g → g < (w5).heap.size) := fun g hg => owns_lt ownN2 hg
    clear ownN2
    have HOV2_5 : Hid ((w5).ownsRow w.heap.size 9 1 (.slice oV2 n2 pV2) n2 (ys.map Value.string)) := owns_wide ownV2 hb4.size
    have LOV2 : Hid (∀ g, (Value.ownBlock (.slice oV2 n2 pV2)) = some g → (w4).heap.size ≤ g) := fun g hg => owns_ge ownV2 hg
    have HIV2 : Hid (∀ g, (Value.ownBlock (.slice oV2 n2 pV2)) = some g → g < (w5).heap.size) := fun g hg => owns_lt ownV2 hg
    clear ownV2
    have HOF2_5 : Hid ((w5).ownsRow w.heap.size 81 2 (.slice oF2 n3 pF2) n3 (flatF fs)) := owns_wide ownF2 hb4.size
    have LOF2 : Hid (∀ g, (Value.ownBlock (.slice oF2 n3 pF2)) = some g → (w4).heap.size ≤ g) := fun g hg => owns_ge ownF2 hg
    have HIF2 : Hid (∀ g, (Value.ownBlock (.slice oF2 n3 pF2)) = some g → g < (w5).heap.size) := fun g hg => owns_lt ownF2 hg
    clear ownF2
    clear hb4 HON1_4 HOV1_4 HOF1_4 HBv1_4 bw
    clear cv1_0 cv1_1 cv1_2 cv1_3 cv1_4 cv1_5 cv1_6
    go_upto_region 7 with fail
    obtain ⟨qv2, hqv2⟩ : ∃ q, q = (w5).heap.size := ⟨_, rfl⟩
    obtain ⟨w6, hW6⟩ : ∃ W, W = (w5).alloc (.cells #[.string p, .slice oN2 n1 pN2, .slice oV2 n2 pV2, .int .i64 st, .slice oF2 n3 pF2, .string b, .int .i64 t] 34) := ⟨_, rfl⟩
    have hz6 : (w5).heap.size = qv2 := hqv2.symm
    first | rw [← hW6, ← hqv2] | rw [← hW6]
    have hs6 : w6.heap.size = qv2 + 1 := by rw [hW6, ← hz6]; simp
    have bw : Below (w5).heap.size (w5) w6 := by rw [hW6]; exact (Below.refl _ _).alloc (Nat.le_refl _) _
    have hb6 : Below w.heap.size w (w6) := hb5.trans (bw.mono hb5.size)
    have HM6 : Hid ((w5).heap.size ≤ (w6).heap.size) := bw.size
    have HON1_6 : Hid ((w6).ownsRow w.heap.size 9 1 (.slice oN1 n1 pN1) n1 (xs.map Value.string)) := owns_below HON1_5.out bw (fun g hg => owns_lt HON1_5.out hg)
    have HOV1_6 : Hid ((w6).ownsRow w.heap.size 9 1 (.slice oV1 n2 pV1) n2 (ys.map Value.string)) := owns_below HOV1_5.out bw (fun g hg => owns_lt HOV1_5.out hg)
    have HOF1_6 : Hid ((w6).ownsRow w.heap.size 81 2 (.slice oF1 n3 pF1) n3 (flatF fs)) := owns_below HOF1_5.out bw (fun g hg => owns_lt HOF1_5.out hg)
    have HON2_6 : Hid ((w6).ownsRow w.heap.size 9 1 (.slice oN2 n1 pN2) n1 (xs.map Value.string)) := owns_below HON2_5.out bw (fun g hg => owns_lt HON2_5.out hg)
    have HOV2_6 : Hid ((w6).ownsRow w.heap.size 9 1 (.slice oV2 n2 pV2) n2 (ys.map Value.string)) := owns_below HOV2_5.out bw (fun g hg => owns_lt HOV2_5.out hg)
    have HOF2_6 : Hid ((w6).ownsRow w.heap.size 81 2 (.slice oF2 n3 pF2) n3 (flatF fs)) := owns_below HOF2_5.out bw (fun g hg => owns_lt HOF2_5.out hg)
    have HBv1_6 : Hid ((w6).heap[qv1]? = some (.cells #[.string p, .slice a1 n1 c1, .slice a2 n2 c2, .int .i64 st, .slice a3 n3 c3, .string b, .int .i64 t] 27)) := blk_below HBv1_5.out bw
    have HNv1v2 : Hid (qv1 ≠ qv2) := fun e => by have h1 := (Array.getElem?_eq_some_iff.1 HBv1_5.out).1; omega
    have HBv2_6 : Hid ((w6).heap[qv2]? = some (.cells #[.string p, .slice oN2 n1 pN2, .slice oV2 n2 pV2, .int .i64 st, .slice oF2 n3 pF2, .string b, .int .i64 t] 34)) := by show _ = _; rw [hW6, ← hz6]; exact heap_alloc_new _ _
    have HGv2 : Hid (w.heap.size ≤ qv2) := by show _ ≤ _; rw [← hz6]; exact hb5.size
    clear hb5 HON1_5 HOV1_5 HOF1_5 HON2_5 HOV2_5 HOF2_5 HBv1_5 bw hW6 hz6
    clear hs6 hqv2
    have cv2_0 : (w6).cell? ⟨qv2, 0, none⟩ = some (.string p) := (cell_of HBv2_6.out 0).trans rfl
    have cv2_1 : (w6).cell? ⟨qv2, 1, none⟩ = some (.slice oN2 n1 pN2) := (cell_of HBv2_6.out 1).trans rfl
    have cv2_2 : (w6).cell? ⟨qv2, 2, none⟩ = some (.slice oV2 n2 pV2) := (cell_of HBv2_6.out 2).trans rfl
    have cv2_3 : (w6).cell? ⟨qv2, 3, none⟩ = some (.int .i64 st) := (cell_of HBv2_6.out 3).trans rfl
    have cv2_4 : (w6).cell? ⟨qv2, 4, none⟩ = some (.slice oF2 n3 pF2) := (cell_of HBv2_6.out 4).trans rfl
    have cv2_5 : (w6).cell? ⟨qv2, 5, none⟩ = some (.string b) := (cell_of HBv2_6.out 5).trans rfl
    have cv2_6 : (w6).cell? ⟨qv2, 6, none⟩ = some (.int .i64 t) := (cell_of HBv2_6.out 6).trans rfl
    go_wp2_with fail
    refine (HIM.out _ _ _ _ _ ⟨HON2_6.out, HOV2_6.out, HOF2_6.out, AP2.out⟩ hb6).mono ?_
    rintro e w7 ⟨rfl, bw⟩
    have hb7 : Below w.heap.size w (w7) := hb6.trans (bw.mono hb6.size)
    have HM7 : Hid ((w6).heap.size ≤ (w7).heap.size) := bw.size
    have HON1_7 : Hid ((w7).ownsRow w.heap.size 9 1 (.slice oN1 n1 pN1) n1 (xs.map Value.string)) := owns_below HON1_6.out bw (fun g hg => owns_lt HON1_6.out hg)
    have HOV1_7 : Hid ((w7).ownsRow w.heap.size 9 1 (.slice oV1 n2 pV1) n2 (ys.map Value.string)) := owns_below HOV1_6.out bw (fun g hg => owns_lt HOV1_6.out hg)
    have HOF1_7 : Hid ((w7).ownsRow w.heap.size 81 2 (.slice oF1 n3 pF1) n3 (flatF fs)) := owns_below HOF1_6.out bw (fun g hg => owns_lt HOF1_6.out hg)
    have HON2_7 : Hid ((w7).ownsRow w.heap.size 9 1 (.slice oN2 n1 pN2) n1 (xs.map Value.string)) := owns_below HON2_6.out bw (fun g hg => owns_lt HON2_6.out hg)
    have HOV2_7 : Hid ((w7).ownsRow w.heap.size 9 1 (.slice oV2 n2 pV2) n2 (ys.map Value.string)) := owns_below HOV2_6.out bw (fun g hg => owns_lt HOV2_6.out hg)
    have HOF2_7 : Hid ((w7).ownsRow w.heap.size 81 2 (.slice oF2 n3 pF2) n3 (flatF fs)) := owns_below HOF2_6.out bw (fun g hg => owns_lt HOF2_6.out hg)
    have HBv1_7 : Hid ((w7).heap[qv1]? = some (.cells #[.string p, .slice a1 n1 c1, .slice a2 n2 c2, .int .i64 st, .slice a3 n3 c3, .string b, .int .i64 t] 27)) := blk_below HBv1_6.out bw
    have HBv2_7 : Hid ((w7).heap[qv2]? = some (.cells #[.string p, .slice oN2 n1 pN2, .slice oV2 n2 pV2, .int .i64 st, .slice oF2 n3 pF2, .string b, .int .i64 t] 34)) := blk_below HBv2_6.out bw
    clear hb6 HON1_6 HOV1_6 HOF1_6 HON2_6 HOV2_6 HOF2_6 HBv1_6 HBv2_6 bw
    clear cv2_0 cv2_1 cv2_2 cv2_3 cv2_4 cv2_5 cv2_6
    go_upto_region 10 with fail
    refine wp_region_held_drew (S := fun W => W.heap[qv2]? = some (.cells #[.string p, .slice oN2 n1 pN2, .slice oV2 n2 pV2, .int .i64 st, .slice oF2 n3 pF2, .string b, .int .i64 t] 34) ∧ W.heap[qv1]? = some (.cells #[.string p, .slice a1 n1 c1, .slice a2 n2 c2, .int .i64 st, .slice a3 n3 c3, .string b, .int .i64 t] 27)) (by kernel_rfl) ⟨HBv2_7.out, HBv1_7.out⟩ (fun _ => ?_)
    obtain ⟨w8, hX⟩ : ∃ X, X = w7.drew := ⟨_, rfl⟩
    have bw : Below w7.heap.size w7 w8 := by rw [hX]; exact (Below.refl _ _).drew
    rw [← hX]
    have hb8 : Below w.heap.size w (w8) := hb7.trans (bw.mono hb7.size)
    have HM8 : Hid ((w7).heap.size ≤ (w8).heap.size) := bw.size
    have HON1_8 : Hid ((w8).ownsRow w.heap.size 9 1 (.slice oN1 n1 pN1) n1 (xs.map Value.string)) := owns_below HON1_7.out bw (fun g hg => owns_lt HON1_7.out hg)
    have HOV1_8 : Hid ((w8).ownsRow w.heap.size 9 1 (.slice oV1 n2 pV1) n2 (ys.map Value.string)) := owns_below HOV1_7.out bw (fun g hg => owns_lt HOV1_7.out hg)
    have HOF1_8 : Hid ((w8).ownsRow w.heap.size 81 2 (.slice oF1 n3 pF1) n3 (flatF fs)) := owns_below HOF1_7.out bw (fun g hg => owns_lt HOF1_7.out hg)
    have HON2_8 : Hid ((w8).ownsRow w.heap.size 9 1 (.slice oN2 n1 pN2) n1 (xs.map Value.string)) := owns_below HON2_7.out bw (fun g hg => owns_lt HON2_7.out hg)
    have HOV2_8 : Hid ((w8).ownsRow w.heap.size 9 1 (.slice oV2 n2 pV2) n2 (ys.map Value.string)) := owns_below HOV2_7.out bw (fun g hg => owns_lt HOV2_7.out hg)
    have HOF2_8 : Hid ((w8).ownsRow w.heap.size 81 2 (.slice oF2 n3 pF2) n3 (flatF fs)) := owns_below HOF2_7.out bw (fun g hg => owns_lt HOF2_7.out hg)
    have HBv1_8 : Hid ((w8).heap[qv1]? = some (.cells #[.string p, .slice a1 n1 c1, .slice a2 n2 c2, .int .i64 st, .slice a3 n3 c3, .string b, .int .i64 t] 27)) := blk_below HBv1_7.out bw
    have HBv2_8 : Hid ((w8).heap[qv2]? = some (.cells #[.string p, .slice oN2 n1 pN2, .slice oV2 n2 pV2, .int .i64 st, .slice oF2 n3 pF2, .string b, .int .i64 t] 34)) := blk_below HBv2_7.out bw
    have hS8 : w8.heap[qv2]? = some (.cells #[.string p, .slice oN2 n1 pN2, .slice oV2 n2 pV2, .int .i64 st, .slice oF2 n3 pF2, .string b, .int .i64 t] 34) ∧ w8.heap[qv1]? = some (.cells #[.string p, .slice a1 n1 c1, .slice a2 n2 c2, .int .i64 st, .slice a3 n3 c3, .string b, .int .i64 t] 27) := ⟨HBv2_8.out, HBv1_8.out⟩
    clear hb7 HON1_7 HOV1_7 HOF1_7 HON2_7 HOV2_7 HOF2_7 HBv1_7 HBv2_7 bw hX
    refine wpAnyH_takeD (i := 0) (v := .agg #[.string p, .slice oN2 n1 pN2, .slice oV2 n2 pV2, .int .i64 st, .slice oF2 n3 pF2, .string b, .int .i64 t]) (some 22) rfl rfl (by kernel_rfl) (by kernel_rfl) (by kernel_rfl) (fun _ _ _ h => h) (Or.inl ⟨by rfl, by intro W hW; obtain ⟨hhv2, hhv1⟩ := hW; have y0 := (cell_of hhv2 0).trans rfl; have y1 := (cell_of hhv2 1).trans rfl; have y2 := (cell_of hhv2 2).trans rfl; have y3 := (cell_of hhv2 3).trans rfl; have y4 := (cell_of hhv2 4).trans rfl; have y5 := (cell_of hhv2 5).trans rfl; have y6 := (cell_of hhv2 6).trans rfl; go_simp⟩) hS8 ?_
    simp only [Act.put, List.setIfInBounds_toArray, List.set_cons_zero, List.set_cons_succ]
    refine wpAnyH_takeD (i := 1) (v := .agg #[.string p, .slice a1 n1 c1, .slice a2 n2 c2, .int .i64 st, .slice a3 n3 c3, .string b, .int .i64 t]) (some 23) rfl rfl (by kernel_rfl) (by kernel_rfl) (by kernel_rfl) (fun _ _ _ h => h) (Or.inl ⟨by rfl, by intro W hW; obtain ⟨hhv2, hhv1⟩ := hW; have y0 := (cell_of hhv1 0).trans rfl; have y1 := (cell_of hhv1 1).trans rfl; have y2 := (cell_of hhv1 2).trans rfl; have y3 := (cell_of hhv1 3).trans rfl; have y4 := (cell_of hhv1 4).trans rfl; have y5 := (cell_of hhv1 5).trans rfl; have y6 := (cell_of hhv1 6).trans rfl; go_simp⟩) hS8 ?_
    simp only [Act.put, List.setIfInBounds_toArray, List.set_cons_zero, List.set_cons_succ]
    refine wpAnyH_ready (rs := [2]) (by kernel_rfl) (by simp) ?_
    refine AllReadyH.cons rfl (fun K hK => ?_) AllReadyH.nil
    go_simp
    refine (toObj_any p a1 n1 c1 xs a2 n2 c2 ys st a3 n3 c3 fs b t w.heap.size _ (HA1.out _ hb8) (HA2.out _ hb8) (HA3.out _ hb8) hb8.size hm1 hm2 hm3).mono ?_
    rintro e w9 ⟨vv1, vv2, vv3, rfl, ⟨ownN3, ownV3, ownF3, ne3⟩, bw⟩
    obtain ⟨oN3, pN3, rfl⟩ := slice_of_owns ownN3
    obtain ⟨oV3, pV3, rfl⟩ := slice_of_owns ownV3
    obtain ⟨oF3, pF3, rfl⟩ := slice_of_owns ownF3
    have AP3 : Hid (∀ j, (Value.slice oN3 n1 pN3).ownBlock = some j → (Value.slice oV3 n2 pV3).ownBlock ≠ some j) := ne3
    clear ne3
    have hb9 : Below w.heap.size w (w9) := hb8.trans (bw.mono hb8.size)
    have HM9 : Hid ((w8).heap.size ≤ (w9).heap.size) := bw.size
    have HON1_9 : Hid ((w9).ownsRow w.heap.size 9 1 (.slice oN1 n1 pN1) n1 (xs.map Value.string)) := owns_below HON1_8.out bw (fun g hg => owns_lt HON1_8.out hg)
    have HOV1_9 : Hid ((w9).ownsRow w.heap.size 9 1 (.slice oV1 n2 pV1) n2 (ys.map Value.string)) := owns_below HOV1_8.out bw (fun g hg => owns_lt HOV1_8.out hg)
    have HOF1_9 : Hid ((w9).ownsRow w.heap.size 81 2 (.slice oF1 n3 pF1) n3 (flatF fs)) := owns_below HOF1_8.out bw (fun g hg => owns_lt HOF1_8.out hg)
    have HON2_9 : Hid ((w9).ownsRow w.heap.size 9 1 (.slice oN2 n1 pN2) n1 (xs.map Value.string)) := owns_below HON2_8.out bw (fun g hg => owns_lt HON2_8.out hg)
    have HOV2_9 : Hid ((w9).ownsRow w.heap.size 9 1 (.slice oV2 n2 pV2) n2 (ys.map Value.string)) := owns_below HOV2_8.out bw (fun g hg => owns_lt HOV2_8.out hg)
    have HOF2_9 : Hid ((w9).ownsRow w.heap.size 81 2 (.slice oF2 n3 pF2) n3 (flatF fs)) := owns_below HOF2_8.out bw (fun g hg => owns_lt HOF2_8.out hg)
    have HBv1_9 : Hid ((w9).heap[qv1]? = some (.cells #[.string p, .slice a1 n1 c1, .slice a2 n2 c2, .int .i64 st, .slice a3 n3 c3, .string b, .int .i64 t] 27)) := blk_below HBv1_8.out bw
    have HBv2_9 : Hid ((w9).heap[qv2]? = some (.cells #[.string p, .slice oN2 n1 pN2, .slice oV2 n2 pV2, .int .i64 st, .slice oF2 n3 pF2, .string b, .int .i64 t] 34)) := blk_below HBv2_8.out bw
    have HON3_9 : Hid ((w9).ownsRow w.heap.size 9 1 (.slice oN3 n1 pN3) n1 (xs.map Value.string)) := owns_wide ownN3 hb8.size
    have LON3 : Hid (∀ g, (Value.ownBlock (.slice oN3 n1 pN3)) = some g → (w8).heap.size ≤ g) := fun g hg => owns_ge ownN3 hg
    have HIN3 : Hid (∀ g, (Value.ownBlock (.slice oN3 n1 pN3)) = some g → g < (w9).heap.size) := fun g hg => owns_lt ownN3 hg
    clear ownN3
    have HOV3_9 : Hid ((w9).ownsRow w.heap.size 9 1 (.slice oV3 n2 pV3) n2 (ys.map Value.string)) := owns_wide ownV3 hb8.size
    have LOV3 : Hid (∀ g, (Value.ownBlock (.slice oV3 n2 pV3)) = some g → (w8).heap.size ≤ g) := fun g hg => owns_ge ownV3 hg
    have HIV3 : Hid (∀ g, (Value.ownBlock (.slice oV3 n2 pV3)) = some g → g < (w9).heap.size) := fun g hg => owns_lt ownV3 hg
    clear ownV3
    have HOF3_9 : Hid ((w9).ownsRow w.heap.size 81 2 (.slice oF3 n3 pF3) n3 (flatF fs)) := owns_wide ownF3 hb8.size
    have LOF3 : Hid (∀ g, (Value.ownBlock (.slice oF3 n3 pF3)) = some g → (w8).heap.size ≤ g) := fun g hg => owns_ge ownF3 hg
    have HIF3 : Hid (∀ g, (Value.ownBlock (.slice oF3 n3 pF3)) = some g → g < (w9).heap.size) := fun g hg => owns_lt ownF3 hg
    clear ownF3
    clear hb8 HON1_8 HOV1_8 HOF1_8 HON2_8 HOV2_8 HOF2_8 HBv1_8 HBv2_8 bw
    have hS9 : w9.heap[qv2]? = some (.cells #[.string p, .slice oN2 n1 pN2, .slice oV2 n2 pV2, .int .i64 st, .slice oF2 n3 pF2, .string b, .int .i64 t] 34) ∧ w9.heap[qv1]? = some (.cells #[.string p, .slice a1 n1 c1, .slice a2 n2 c2, .int .i64 st, .slice a3 n3 c3, .string b, .int .i64 t] 27) := ⟨HBv2_9.out, HBv1_9.out⟩
    refine hK.out _ _ hS9 (fun _ => ?_)
    clear hK K hS8
    refine wpAnyH_ready (rs := [3]) (by kernel_rfl) (by simp) ?_
    refine AllReadyH.cons rfl (fun K hK => ?_) AllReadyH.nil
    go_simp
    refine (eqObj_any p n1 xs n2 ys st n3 fs b t _ _ _ _ _ _ _ _ _ ⟨HON2_9.out, HOV2_9.out, HOF2_9.out, AP2.out⟩ ⟨HON3_9.out, HOV3_9.out, HOF3_9.out, AP3.out⟩ (by omega) (by omega) (by omega)).mono ?_
    rintro e w10 ⟨rfl, bw⟩
    have hb10 : Below w.heap.size w (w10) := hb9.trans (bw.mono hb9.size)
    have HM10 : Hid ((w9).heap.size ≤ (w10).heap.size) := bw.size
    have HON1_10 : Hid ((w10).ownsRow w.heap.size 9 1 (.slice oN1 n1 pN1) n1 (xs.map Value.string)) := owns_below HON1_9.out bw (fun g hg => owns_lt HON1_9.out hg)
    have HOV1_10 : Hid ((w10).ownsRow w.heap.size 9 1 (.slice oV1 n2 pV1) n2 (ys.map Value.string)) := owns_below HOV1_9.out bw (fun g hg => owns_lt HOV1_9.out hg)
    have HOF1_10 : Hid ((w10).ownsRow w.heap.size 81 2 (.slice oF1 n3 pF1) n3 (flatF fs)) := owns_below HOF1_9.out bw (fun g hg => owns_lt HOF1_9.out hg)
    have HON2_10 : Hid ((w10).ownsRow w.heap.size 9 1 (.slice oN2 n1 pN2) n1 (xs.map Value.string)) := owns_below HON2_9.out bw (fun g hg => owns_lt HON2_9.out hg)
    have HOV2_10 : Hid ((w10).ownsRow w.heap.size 9 1 (.slice oV2 n2 pV2) n2 (ys.map Value.string)) := owns_below HOV2_9.out bw (fun g hg => owns_lt HOV2_9.out hg)
    have HOF2_10 : Hid ((w10).ownsRow w.heap.size 81 2 (.slice oF2 n3 pF2) n3 (flatF fs)) := owns_below HOF2_9.out bw (fun g hg => owns_lt HOF2_9.out hg)
    have HON3_10 : Hid ((w10).ownsRow w.heap.size 9 1 (.slice oN3 n1 pN3) n1 (xs.map Value.string)) := owns_below HON3_9.out bw (fun g hg => owns_lt HON3_9.out hg)
    have HOV3_10 : Hid ((w10).ownsRow w.heap.size 9 1 (.slice oV3 n2 pV3) n2 (ys.map Value.string)) := owns_below HOV3_9.out bw (fun g hg => owns_lt HOV3_9.out hg)
    have HOF3_10 : Hid ((w10).ownsRow w.heap.size 81 2 (.slice oF3 n3 pF3) n3 (flatF fs)) := owns_below HOF3_9.out bw (fun g hg => owns_lt HOF3_9.out hg)
    have HBv1_10 : Hid ((w10).heap[qv1]? = some (.cells #[.string p, .slice a1 n1 c1, .slice a2 n2 c2, .int .i64 st, .slice a3 n3 c3, .string b, .int .i64 t] 27)) := blk_below HBv1_9.out bw
    have HBv2_10 : Hid ((w10).heap[qv2]? = some (.cells #[.string p, .slice oN2 n1 pN2, .slice oV2 n2 pV2, .int .i64 st, .slice oF2 n3 pF2, .string b, .int .i64 t] 34)) := blk_below HBv2_9.out bw
    clear hb9 HON1_9 HOV1_9 HOF1_9 HON2_9 HOV2_9 HOF2_9 HON3_9 HOV3_9 HOF3_9 HBv1_9 HBv2_9 bw
    have hS10 : w10.heap[qv2]? = some (.cells #[.string p, .slice oN2 n1 pN2, .slice oV2 n2 pV2, .int .i64 st, .slice oF2 n3 pF2, .string b, .int .i64 t] 34) ∧ w10.heap[qv1]? = some (.cells #[.string p, .slice a1 n1 c1, .slice a2 n2 c2, .int .i64 st, .slice a3 n3 c3, .string b, .int .i64 t] 27) := ⟨HBv2_10.out, HBv1_10.out⟩
    refine hK.out _ _ hS10 (fun _ => ?_)
    clear hK K hS9
    refine wpAnyH_takeD (i := 4) (v := .bool false) (some 26) rfl rfl (by kernel_rfl) (by kernel_rfl) (by kernel_rfl) (fun _ _ _ h => h) (Or.inl ⟨by rfl, by intro W _; go_simp⟩) hS10 ?_
    simp only [Act.put, List.setIfInBounds_toArray, List.set_cons_zero, List.set_cons_succ]
    clear hS10
    refine wpAnyH_done (by kernel_rfl) ?_ _
    go_wp2_with fail
    go_ret
    exact ⟨rfl, hb10⟩


set_option maxRecDepth 100000 in
theorem contract (H : Type) (enc : TypeId × Value → H) (W : World) (base : Nat) (args : Array Value) (ds gs : List (DataW H)) (before : List MemPlace)
    (hval : ∀ (j : Nat) t v, Tryd.f3.params[j]? = some t → args[j]? = some v → Value.okWide Tryd.prog W .any base t v)
    (hW : DataW.Whole enc Tryd.prog Tryd.f3.params.toList Rows.fnExactObjTextSpec.vars false W args.toList ds gs before) (hL : laidMetH Tryd.prog Rows.fnExactObjTextRow.laid W) (_ : W.ShapedOpen Tryd.prog) :
    Calls Tryd.prog 3 args W fun e W' => ∃ v, e = .returned v ∧ Rows.fnExactObjTextSpec.post enc Tryd.prog Tryd.f3 false true false false W args v W' := by
  have hT : TabOk W := table hL
  have hW' := hW
  obtain ⟨p, q, hA0, hV, rfl, hfz, hnd⟩ := hW
  have hA : DataW.TrodAll enc Tryd.prog W 0 (fun _ => true) true Tryd.f3.params.toList args.toList ds p := hA0
  rw [Tryd.params3] at hA hval
  obtain ⟨v0, vs0, d0, ds0, p0, q0, hargs, rfl, rfl, h0, r0⟩ := trodAll_cons hA
  obtain ⟨rfl, rfl, rfl⟩ := trodAll_nil r0
  obtain rfl : args = #[v0] := by cases args; simp_all
  obtain ⟨rfl, rfl⟩ := trodVars_none hV
  have k0 := h0
  have lt0 : ∀ x ∈ p0, x.block < W.heap.size := by obtain ⟨m, hm⟩ := k0; exact DataW.trod_lt m _ _ _ hm
  obtain ⟨op0, a0, n0, cap0, xs0, b0, m0, capb0, ys0, st0, e0, l0, cape0, fs0, ob0, ot0, rfl, ga0, gb0, gc0, gd0, ge0, gf0, gg0, gh0, gi0, gj0, gk0⟩ := openObj (hval 0 27 v0 rfl rfl) h0
  clear hA0
  refine (walk1 W op0 a0 n0 cap0 xs0 b0 m0 capb0 ys0 st0 e0 l0 cape0 fs0 ob0 ot0 ga0 gb0 gc0 gd0 ge0 gf0 gg0 gh0 gi0 gj0 gk0 hT).mono fun e W' ⟨he, bel⟩ => ?_
  subst he
  exact ⟨_, rfl, _, _, _, [], _, [], hW', trodAll_mk1 (shut_bool Tryd.underlying4 _), (trodAll_cons_mk (Below.trod laidOut (by kernel_rfl) (of_decide_eq_true (by kernel_rfl)) k0 bel lt0) trodAll_mk0), rfl, bel.frame _, fun h => by cases h⟩

theorem laid_met (os : Os) : laidMet Tryd.prog Rows.fnExactObjTextRow.laid ((withTables (World.holding Tryd.prog os ⟨#[], #[], []⟩)).forCall (fun _ _ => 0) ⟨#[], #[.agg #[.string ByteArray.empty, .slice none 0 0, .slice none 0 0, .int .i64 0, .slice none 0 0, .string ByteArray.empty, .int .i64 0]], []⟩).memory :=
  laidMet_of_run' 80 (by kernel_rfl) (by kernel_rfl)
theorem reads (os : Os) {H : Type} (enc : TypeId × Value → H) : ∃ places, DataW.whole enc Tryd.prog ((withTables (World.holding Tryd.prog os ⟨#[], #[], []⟩)).forCall (fun _ _ => 0) ⟨#[], #[.agg #[.string ByteArray.empty, .slice none 0 0, .slice none 0 0, .int .i64 0, .slice none 0 0, .string ByteArray.empty, .int .i64 0]], []⟩).memory Tryd.f3.params.toList Rows.fnExactObjTextSpec.vars false #[(.agg #[.string ByteArray.empty, .slice none 0 0, .slice none 0 0, .int .i64 0, .slice none 0 0, .string ByteArray.empty, .int .i64 0] : Value)].toList 8 = some ([.agg [.lit (.string []), .nil, .nil, .agg [.lit (.int .i64 0), .nil, .lit (.string [])], .lit (.int .i64 0)]], [], places) :=
  ⟨[], by kernel_rfl⟩

set_option maxRecDepth 100000 in
theorem lifted (os : Os) (started : os.Started) (H : Type) (enc : TypeId × Value → H) (F : Stop.Interp) :
    ReturnsInHanded {} Tryd.checked os 3 .any ((OpenSpec.ofChange Rows.fnExactObjTextSpec).preRow enc Tryd.prog Tryd.f3 Rows.fnExactObjTextRow.domain false Rows.fnExactObjTextRow.laid) (((OpenSpec.ofChange Rows.fnExactObjTextSpec).at F).post enc Tryd.prog Tryd.f3 false true false false) := by
  obtain ⟨places, hx⟩ := reads os enc
  refine returnsInHanded_of_row (C := Tryd.checked) (s := OpenSpec.ofChange Rows.fnExactObjTextSpec) own started (by kernel_rfl) Tryd.func3
    (witness_row_at (enc := enc) (C := Tryd.checked) false (withTables (World.holding Tryd.prog os ⟨#[], #[], []⟩)) #[.agg #[.string ByteArray.empty, .slice none 0 0, .slice none 0 0, .int .i64 0, .slice none 0 0, .string ByteArray.empty, .int .i64 0]] rfl (by kernel_rfl) (by kernel_rfl) (by kernel_rfl)
      (OpenSpec.preRow_of_cond 8 hx (by kernel_rfl) (fun k hk => by cases hk) (by kernel_rfl) (laid_met os))) ?_
  intro W base args ds gs before hval hW _ _ _ hL hSh _
  exact contract H enc W base args ds gs before hval hW hL hSh

theorem said : Rows.FnExactObjTextSaid :=
  OpenClaim.holds_of_cond 3 Tryd.f3 rfl rfl rfl rfl rfl rfl rfl ⟨rfl, rfl, rfl, rfl, rfl⟩ rfl rfl rfl rfl rfl (by kernel_rfl) Tryd.func3 (by kernel_rfl)
    (of_decide_eq_true (by kernel_rfl)) (by unfold Func.isWrapper; first | (rw [if_pos (by decide +kernel)]; kernel_rfl) | (rw [if_neg (by decide +kernel)]; exact ⟨rfl, rfl⟩))
    (fun os started H enc _ F => by rw [OpenClaim.pre_eq_preRow]; exact lifted os started H enc F)

theorem plain (f : FuncId) (fn : Func) (hf : Tryd.pinned.checked.prog.funcNamed "loop.example/g00239/laws.FnExactObjText" = some f) (hfn : Tryd.pinned.checked.prog.funcs[f]? = some fn) :
    false = Tryd.pinned.checked.prog.looks [] ∧ ∀ (j : Nat) t, fn.params[j]? = some t → Tryd.pinned.checked.prog.wantsStandIn t = false := by
  obtain rfl : f = 3 := Option.some.inj ((show Tryd.prog.funcNamed "loop.example/g00239/laws.FnExactObjText" = some 3 by kernel_rfl).symm.trans hf) |>.symm
  obtain rfl : fn = Tryd.f3 := (Option.some.inj (Tryd.func3.symm.trans hfn)).symm
  refine ⟨by kernel_rfl, fun j t ht => ?_⟩
  rw [Tryd.params3] at ht
  obtain rfl : t = 27 := by simpa using Array.mem_of_getElem? ht
  exact (show Tryd.prog.wantsStandIn 27 = false by kernel_rfl)

theorem card : Rows.FnExactObjTextCardSaid :=
  Claim7.holds_tied_plain_at .later [] _ _ _ _ said (fun _ h => by cases h) (by kernel_rfl) (fun _ h => by cases h) fnExactObjText_row_tie rfl ⟨rfl, rfl⟩ (by kernel_rfl) rfl plain (by kernel_rfl)
end fnExactObjText

theorem fnExactObjText_holds : Rows.FnExactObjTextCardSaid := fnExactObjText.card
#print axioms fnExactObjText_holds
end Go.Proofs.YtdlhicdfldecgaaDoor
