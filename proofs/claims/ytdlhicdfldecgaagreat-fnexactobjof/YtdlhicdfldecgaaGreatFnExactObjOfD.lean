/- What the proof of FnExactObjOf leans on: contracts of the program's and the specification's functions, and plain facts (part 4 of 5). -/
import Derived.Test.YtdlhicdfldecgaaGreatFnExactObjOfC
namespace Go.Proofs.YtdlhicdfldecgaaGreat
open Go.RowKit
open Go.Lib hiding intOf

/-- What is kept: an object in memory of its own, or nothing. -/
def ObjOfIs (m : Int) (p : ByteArray) (fs : List (ByteArray × ByteArray)) (b : ByteArray) (st : Int) (gs : List (ByteArray × ByteArray)) (d : ByteArray) (t : Int) (vl yl : List ByteArray) (k : Nat) (w : World) (e : Ending) (w' : World) : Prop :=
  Below w.heap.size w w' ∧ (((MayP m p fs b st gs d ∧ ObjP p vl yl st gs d t) ∧ ∃ v1 v2 v3, e = .returned (.tuple #[.agg #[.string p, v1, v2, .int .i64 st, v3, .string d, .int .i64 t], .bool true]) ∧ ObjO w' w.heap.size v1 vl.length vl v2 yl.length yl v3 k gs) ∨ (¬ (MayP m p fs b st gs d ∧ ObjP p vl yl st gs d t) ∧ e = .returned (.tuple #[.agg #[.string ⟨#[]⟩, .slice none 0 0, .slice none 0 0, .int .i64 0, .slice none 0 0, .string ⟨#[]⟩, .int .i64 0], .bool false])))
theorem valOf_size {fs : List (ByteArray × ByteArray)} {n : Nat} (h : WalkF n fs) (hl : fs.length = n) (x : ByteArray) : (valOf fs x).size ≤ maxLen := by
  unfold valOf
  split
  · unfold getV
    split
    · rename_i hin; exact (h _ (by omega)).2
    · unfold maxLen; decide
  · unfold maxLen; decide

set_option maxHeartbeats 8000000 in
set_option maxRecDepth 100000 in
theorem specObjOf_any (m : Int) (p : ByteArray) (v : Value) (b : ByteArray) (n base : Nat) (fs : List (ByteArray × ByteArray)) (st : Int) (u : Value) (d : ByteArray) (k base2 : Nat) (gs : List (ByteArray × ByteArray)) (t : Int) (vl yl : List ByteArray) (w : World) (hv : FieldsV w base v n fs) (hn : n ≤ 1999999) (hs1 : WalkF n fs) (hlf : fs.length = n) (hp : p.size ≤ maxLen) (hb : b.size ≤ maxLen) (hu : FieldsV w base2 u k gs) (hk : k ≤ 1999999) (hs2 : WalkF k gs) (hd : d.size ≤ maxLen) (hg1 : (getV fs ccName).size ≤ 1048576) (hg2 : (getV gs ccName).size ≤ 1048576) (hg3 : (getV gs varyName).size ≤ 1048576) (hvl : vl = varyP gs) (hyl : yl = valsP vl fs) :
    Calls Tryz.prog 6 #[.agg #[.int .i64 m, .string p, v, .string b], .agg #[.int .i64 st, u, .string d], .int .i64 t] w fun e w' => ObjOfIs m p fs b st gs d t vl yl k w e w' := by
  obtain ⟨oa, cap, rfl, _⟩ := hv.slice
  obtain ⟨ob, cb, rfl, _⟩ := hu.slice
  have HV1 : Hid (∀ W, Below w.heap.size w W → FieldsV W base (.slice oa n cap) n fs) := fun W h => hv.below h
  have HV2 : Hid (∀ W, Below w.heap.size w W → FieldsV W base2 (.slice ob k cb) k gs) := fun W h => hu.below h
  have HLG : Hid (gs.length = k) := hu.len
  have HS1 : Hid (WalkF n fs) := hs1
  have HS2 : Hid (WalkF k gs) := hs2
  have HPM : Hid (p.size ≤ maxLen) := hp
  have HBM : Hid (b.size ≤ maxLen) := hb
  have HDM : Hid (d.size ≤ maxLen) := hd
  have HG1 : Hid ((getV fs ccName).size ≤ 1048576) := hg1
  have HG2 : Hid ((getV gs ccName).size ≤ 1048576) := hg2
  have HG3 : Hid ((getV gs varyName).size ≤ 1048576) := hg3
  have HVL : Hid (varyP gs = vl) := hvl.symm
  have HYL : Hid (valsP vl fs = yl) := hyl.symm
  have HVZ : Hid (vl.length ≤ 1048577 ∧ ∀ i, i < vl.length → (textAt vl i).size ≤ maxLen) := by
    show _ ∧ _
    rw [hvl]
    have hle := splitL_le (getV gs varyName)
    have hg := HG3.out
    unfold varyP
    refine ⟨by rw [List.length_map]; omega, fun i hi => ?_⟩
    rw [List.length_map] at hi
    unfold textAt
    rw [List.getD_eq_getElem?_getD, List.getElem?_map, List.getElem?_eq_getElem hi]
    have := hle.2 _ (List.getElem_mem hi)
    show (lowerOf _).size ≤ _
    rw [lower_size]
    unfold maxLen
    omega
  have HYZ : Hid (yl.length = vl.length ∧ ∀ i, i < yl.length → (textAt yl i).size ≤ maxLen) := by
    show _ ∧ _
    rw [hyl]
    refine ⟨valsP_len vl fs, fun i hi => ?_⟩
    rw [valsP_len] at hi
    unfold textAt valsP
    rw [List.getD_eq_getElem?_getD, List.getElem?_map, List.getElem?_eq_getElem hi]
    exact valOf_size hs1 hlf _
  clear hv hu hs1 hs2 hp hb hd hg1 hg2 hg3 hvl hyl hlf
  have hb0 : Below w.heap.size w w := Below.refl _ _
  go_enter Tryz.func6, Tryz.ntmps6
  go_upto_region 1 with fail
  obtain ⟨qv1, hqv1⟩ : ∃ q, q = (w).heap.size := ⟨_, rfl⟩
  obtain ⟨w1, hW1⟩ : ∃ W, W = (w).alloc (.cells #[.int .i64 m, .string p, .slice oa n cap, .string b] 38) := ⟨_, rfl⟩
  have hz1 : (w).heap.size = qv1 := hqv1.symm
  first | rw [← hW1, ← hqv1] | rw [← hW1]
  have hs1 : w1.heap.size = qv1 + 1 := by rw [hW1, ← hz1]; simp
  have bw : Below (w).heap.size (w) w1 := by rw [hW1]; exact (Below.refl _ _).alloc (Nat.le_refl _) _
  have hb1 : Below w.heap.size w (w1) := hb0.trans (bw.mono hb0.size)
  have HM1 : Hid ((w).heap.size ≤ (w1).heap.size) := bw.size
  have HBv1_1 : Hid ((w1).heap[qv1]? = some (.cells #[.int .i64 m, .string p, .slice oa n cap, .string b] 38)) := by show _ = _; rw [hW1, ← hz1]; exact heap_alloc_new _ _
  have HGv1 : Hid (w.heap.size ≤ qv1) := by show _ ≤ _; rw [← hz1]; exact hb0.size
  clear hb0 bw hW1 hz1
  obtain ⟨qv2, hqv2⟩ : ∃ q, q = qv1 + 1 := ⟨_, rfl⟩
  obtain ⟨w2, hW2⟩ : ∃ W, W = (w1).alloc (.cells #[.int .i64 st, .slice ob k cb, .string d] 32) := ⟨_, rfl⟩
  have hz2 : (w1).heap.size = qv2 := by rw [hqv2]; exact hs1
  first | rw [← hW2, ← hqv2] | rw [← hW2]
  have hs2 : w2.heap.size = qv2 + 1 := by rw [hW2, ← hz2]; simp
  have bw : Below (w1).heap.size (w1) w2 := by rw [hW2]; exact (Below.refl _ _).alloc (Nat.le_refl _) _
  have hb2 : Below w.heap.size w (w2) := hb1.trans (bw.mono hb1.size)
  have HM2 : Hid ((w1).heap.size ≤ (w2).heap.size) := bw.size
  have HBv1_2 : Hid ((w2).heap[qv1]? = some (.cells #[.int .i64 m, .string p, .slice oa n cap, .string b] 38)) := blk_below HBv1_1.out bw
  have HNv1v2 : Hid (qv1 ≠ qv2) := fun e => by have h1 := (Array.getElem?_eq_some_iff.1 HBv1_1.out).1; omega
  have HBv2_2 : Hid ((w2).heap[qv2]? = some (.cells #[.int .i64 st, .slice ob k cb, .string d] 32)) := by show _ = _; rw [hW2, ← hz2]; exact heap_alloc_new _ _
  have HGv2 : Hid (w.heap.size ≤ qv2) := by show _ ≤ _; rw [← hz2]; exact hb1.size
  clear hb1 HBv1_1 bw hW2 hz2
  obtain ⟨qv3, hqv3⟩ : ∃ q, q = qv2 + 1 := ⟨_, rfl⟩
  obtain ⟨w3, hW3⟩ : ∃ W, W = (w2).alloc (.cells #[.string ⟨#[]⟩, .slice none 0 0, .slice none 0 0, .int .i64 0, .slice none 0 0, .string ⟨#[]⟩, .int .i64 0] 34) := ⟨_, rfl⟩
  have hz3 : (w2).heap.size = qv3 := by rw [hqv3]; exact hs2
  first | rw [← hW3, ← hqv3] | rw [← hW3]
  have hs3 : w3.heap.size = qv3 + 1 := by rw [hW3, ← hz3]; simp
  have bw : Below (w2).heap.size (w2) w3 := by rw [hW3]; exact (Below.refl _ _).alloc (Nat.le_refl _) _
  have hb3 : Below w.heap.size w (w3) := hb2.trans (bw.mono hb2.size)
  have HM3 : Hid ((w2).heap.size ≤ (w3).heap.size) := bw.size
  have HBv1_3 : Hid ((w3).heap[qv1]? = some (.cells #[.int .i64 m, .string p, .slice oa n cap, .string b] 38)) := blk_below HBv1_2.out bw
  have HBv2_3 : Hid ((w3).heap[qv2]? = some (.cells #[.int .i64 st, .slice ob k cb, .string d] 32)) := blk_below HBv2_2.out bw
  have HNv1v3 : Hid (qv1 ≠ qv3) := fun e => by have h1 := (Array.getElem?_eq_some_iff.1 HBv1_2.out).1; omega
  have HNv2v3 : Hid (qv2 ≠ qv3) := fun e => by have h1 := (Array.getElem?_eq_some_iff.1 HBv2_2.out).1; omega
  have HBv3_3 : Hid ((w3).heap[qv3]? = some (.cells #[.string ⟨#[]⟩, .slice none 0 0, .slice none 0 0, .int .i64 0, .slice none 0 0, .string ⟨#[]⟩, .int .i64 0] 34)) := by show _ = _; rw [hW3, ← hz3]; exact heap_alloc_new _ _
  have HGv3 : Hid (w.heap.size ≤ qv3) := by show _ ≤ _; rw [← hz3]; exact hb2.size
  clear hb2 HBv1_2 HBv2_2 bw hW3 hz3
  clear hs3 hqv3 hs2 hqv2 hs1 hqv1
  have cv1_0 : (w3).cell? ⟨qv1, 0, none⟩ = some (.int .i64 m) := (cell_of HBv1_3.out 0).trans rfl
  have cv1_1 : (w3).cell? ⟨qv1, 1, none⟩ = some (.string p) := (cell_of HBv1_3.out 1).trans rfl
  have cv1_2 : (w3).cell? ⟨qv1, 2, none⟩ = some (.slice oa n cap) := (cell_of HBv1_3.out 2).trans rfl
  have cv1_3 : (w3).cell? ⟨qv1, 3, none⟩ = some (.string b) := (cell_of HBv1_3.out 3).trans rfl
  have cv2_0 : (w3).cell? ⟨qv2, 0, none⟩ = some (.int .i64 st) := (cell_of HBv2_3.out 0).trans rfl
  have cv2_1 : (w3).cell? ⟨qv2, 1, none⟩ = some (.slice ob k cb) := (cell_of HBv2_3.out 1).trans rfl
  have cv2_2 : (w3).cell? ⟨qv2, 2, none⟩ = some (.string d) := (cell_of HBv2_3.out 2).trans rfl
  go_wp2_with fail
  refine (specMayKeep_any m p _ b n base fs st _ d k base2 gs _ (HV1.out _ hb3) (by omega) HS1.out HPM.out HBM.out (HV2.out _ hb3) (by omega) HS2.out HDM.out HG1.out HG2.out HG3.out).mono ?_
  rintro e w4 ⟨u1, rfl, htu1, bw⟩
  have hb4 : Below w.heap.size w (w4) := hb3.trans (bw.mono hb3.size)
  have HM4 : Hid ((w3).heap.size ≤ (w4).heap.size) := bw.size
  have HBv1_4 : Hid ((w4).heap[qv1]? = some (.cells #[.int .i64 m, .string p, .slice oa n cap, .string b] 38)) := blk_below HBv1_3.out bw
  have HBv2_4 : Hid ((w4).heap[qv2]? = some (.cells #[.int .i64 st, .slice ob k cb, .string d] 32)) := blk_below HBv2_3.out bw
  have HBv3_4 : Hid ((w4).heap[qv3]? = some (.cells #[.string ⟨#[]⟩, .slice none 0 0, .slice none 0 0, .int .i64 0, .slice none 0 0, .string ⟨#[]⟩, .int .i64 0] 34)) := blk_below HBv3_3.out bw
  clear hb3 HBv1_3 HBv2_3 HBv3_3 bw
  clear cv1_0 cv1_1 cv1_2 cv1_3 cv2_0 cv2_1 cv2_2
  cases u1 with
  | false =>
    have HF : Hid (¬ (MayP m p fs b st gs d ∧ ObjP p vl yl st gs d t)) := fun h => nomatch htu1.2 h.1
    clear htu1
    have cv3_0 : (w4).cell? ⟨qv3, 0, none⟩ = some (.string ⟨#[]⟩) := (cell_of HBv3_4.out 0).trans rfl
    have fcv3_0 : (w4).frozen? ⟨qv3, 0, none⟩ = false := frozen_of HBv3_4.out 0
    have cv3_1 : (w4).cell? ⟨qv3, 1, none⟩ = some (.slice none 0 0) := (cell_of HBv3_4.out 1).trans rfl
    have fcv3_1 : (w4).frozen? ⟨qv3, 1, none⟩ = false := frozen_of HBv3_4.out 1
    have cv3_2 : (w4).cell? ⟨qv3, 2, none⟩ = some (.slice none 0 0) := (cell_of HBv3_4.out 2).trans rfl
    have fcv3_2 : (w4).frozen? ⟨qv3, 2, none⟩ = false := frozen_of HBv3_4.out 2
    have cv3_3 : (w4).cell? ⟨qv3, 3, none⟩ = some (.int .i64 0) := (cell_of HBv3_4.out 3).trans rfl
    have fcv3_3 : (w4).frozen? ⟨qv3, 3, none⟩ = false := frozen_of HBv3_4.out 3
    have cv3_4 : (w4).cell? ⟨qv3, 4, none⟩ = some (.slice none 0 0) := (cell_of HBv3_4.out 4).trans rfl
    have fcv3_4 : (w4).frozen? ⟨qv3, 4, none⟩ = false := frozen_of HBv3_4.out 4
    have cv3_5 : (w4).cell? ⟨qv3, 5, none⟩ = some (.string ⟨#[]⟩) := (cell_of HBv3_4.out 5).trans rfl
    have fcv3_5 : (w4).frozen? ⟨qv3, 5, none⟩ = false := frozen_of HBv3_4.out 5
    have cv3_6 : (w4).cell? ⟨qv3, 6, none⟩ = some (.int .i64 0) := (cell_of HBv3_4.out 6).trans rfl
    have fcv3_6 : (w4).frozen? ⟨qv3, 6, none⟩ = false := frozen_of HBv3_4.out 6
    go_wp2_with fail
    obtain ⟨w5, hW5⟩ : ∃ W, W = (w4).setCell ⟨qv3, 0, none⟩ (.string ⟨#[]⟩) := ⟨_, rfl⟩
    rw [← hW5]
    have hb5 : Below w.heap.size w w5 := by rw [hW5]; exact hb4.setCell (p := ⟨qv3, 0, none⟩) HGv3.out _
    have HM5 : Hid ((w4).heap.size ≤ w5.heap.size) := by show _ ≤ _; rw [hW5]; simp
    have HBv1_5 : Hid ((w5).heap[qv1]? = some (.cells #[.int .i64 m, .string p, .slice oa n cap, .string b] 38)) := by show _ = _; rw [hW5, heap_setCell_other _ _ _ _ HNv1v3.out]; exact HBv1_4.out
    have HBv2_5 : Hid ((w5).heap[qv2]? = some (.cells #[.int .i64 st, .slice ob k cb, .string d] 32)) := by show _ = _; rw [hW5, heap_setCell_other _ _ _ _ HNv2v3.out]; exact HBv2_4.out
    have HBv3_5 : Hid ((w5).heap[qv3]? = some (.cells #[.string ⟨#[]⟩, .slice none 0 0, .slice none 0 0, .int .i64 0, .slice none 0 0, .string ⟨#[]⟩, .int .i64 0] 34)) := by show _ = _; rw [hW5]; have h := heap_set _ _ 0 _ _ _ (.string ⟨#[]⟩) HBv3_4.out; simpa using h
    clear hb4 HBv1_4 HBv2_4 HBv3_4 hW5
    obtain ⟨w6, hW6⟩ : ∃ W, W = (w5).setCell ⟨qv3, 1, none⟩ (.slice none 0 0) := ⟨_, rfl⟩
    rw [← hW6]
    have hb6 : Below w.heap.size w w6 := by rw [hW6]; exact hb5.setCell (p := ⟨qv3, 1, none⟩) HGv3.out _
    have HM6 : Hid ((w5).heap.size ≤ w6.heap.size) := by show _ ≤ _; rw [hW6]; simp
    have HBv1_6 : Hid ((w6).heap[qv1]? = some (.cells #[.int .i64 m, .string p, .slice oa n cap, .string b] 38)) := by show _ = _; rw [hW6, heap_setCell_other _ _ _ _ HNv1v3.out]; exact HBv1_5.out
    have HBv2_6 : Hid ((w6).heap[qv2]? = some (.cells #[.int .i64 st, .slice ob k cb, .string d] 32)) := by show _ = _; rw [hW6, heap_setCell_other _ _ _ _ HNv2v3.out]; exact HBv2_5.out
    have HBv3_6 : Hid ((w6).heap[qv3]? = some (.cells #[.string ⟨#[]⟩, .slice none 0 0, .slice none 0 0, .int .i64 0, .slice none 0 0, .string ⟨#[]⟩, .int .i64 0] 34)) := by show _ = _; rw [hW6]; have h := heap_set _ _ 1 _ _ _ (.slice none 0 0) HBv3_5.out; simpa using h
    clear hb5 HBv1_5 HBv2_5 HBv3_5 hW6
    obtain ⟨w7, hW7⟩ : ∃ W, W = (w6).setCell ⟨qv3, 2, none⟩ (.slice none 0 0) := ⟨_, rfl⟩
    rw [← hW7]
    have hb7 : Below w.heap.size w w7 := by rw [hW7]; exact hb6.setCell (p := ⟨qv3, 2, none⟩) HGv3.out _
    have HM7 : Hid ((w6).heap.size ≤ w7.heap.size) := by show _ ≤ _; rw [hW7]; simp
    have HBv1_7 : Hid ((w7).heap[qv1]? = some (.cells #[.int .i64 m, .string p, .slice oa n cap, .string b] 38)) := by show _ = _; rw [hW7, heap_setCell_other _ _ _ _ HNv1v3.out]; exact HBv1_6.out
    have HBv2_7 : Hid ((w7).heap[qv2]? = some (.cells #[.int .i64 st, .slice ob k cb, .string d] 32)) := by show _ = _; rw [hW7, heap_setCell_other _ _ _ _ HNv2v3.out]; exact HBv2_6.out
    have HBv3_7 : Hid ((w7).heap[qv3]? = some (.cells #[.string ⟨#[]⟩, .slice none 0 0, .slice none 0 0, .int .i64 0, .slice none 0 0, .string ⟨#[]⟩, .int .i64 0] 34)) := by show _ = _; rw [hW7]; have h := heap_set _ _ 2 _ _ _ (.slice none 0 0) HBv3_6.out; simpa using h
    clear hb6 HBv1_6 HBv2_6 HBv3_6 hW7
    obtain ⟨w8, hW8⟩ : ∃ W, W = (w7).setCell ⟨qv3, 3, none⟩ (.int .i64 0) := ⟨_, rfl⟩
    rw [← hW8]
    have hb8 : Below w.heap.size w w8 := by rw [hW8]; exact hb7.setCell (p := ⟨qv3, 3, none⟩) HGv3.out _
    have HM8 : Hid ((w7).heap.size ≤ w8.heap.size) := by show _ ≤ _; rw [hW8]; simp
    have HBv1_8 : Hid ((w8).heap[qv1]? = some (.cells #[.int .i64 m, .string p, .slice oa n cap, .string b] 38)) := by show _ = _; rw [hW8, heap_setCell_other _ _ _ _ HNv1v3.out]; exact HBv1_7.out
    have HBv2_8 : Hid ((w8).heap[qv2]? = some (.cells #[.int .i64 st, .slice ob k cb, .string d] 32)) := by show _ = _; rw [hW8, heap_setCell_other _ _ _ _ HNv2v3.out]; exact HBv2_7.out
    have HBv3_8 : Hid ((w8).heap[qv3]? = some (.cells #[.string ⟨#[]⟩, .slice none 0 0, .slice none 0 0, .int .i64 0, .slice none 0 0, .string ⟨#[]⟩, .int .i64 0] 34)) := by show _ = _; rw [hW8]; have h := heap_set _ _ 3 _ _ _ (.int .i64 0) HBv3_7.out; simpa using h
    clear hb7 HBv1_7 HBv2_7 HBv3_7 hW8
    obtain ⟨w9, hW9⟩ : ∃ W, W = (w8).setCell ⟨qv3, 4, none⟩ (.slice none 0 0) := ⟨_, rfl⟩
    rw [← hW9]
    have hb9 : Below w.heap.size w w9 := by rw [hW9]; exact hb8.setCell (p := ⟨qv3, 4, none⟩) HGv3.out _
    have HM9 : Hid ((w8).heap.size ≤ w9.heap.size) := by show _ ≤ _; rw [hW9]; simp
    have HBv1_9 : Hid ((w9).heap[qv1]? = some (.cells #[.int .i64 m, .string p, .slice oa n cap, .string b] 38)) := by show _ = _; rw [hW9, heap_setCell_other _ _ _ _ HNv1v3.out]; exact HBv1_8.out
    have HBv2_9 : Hid ((w9).heap[qv2]? = some (.cells #[.int .i64 st, .slice ob k cb, .string d] 32)) := by show _ = _; rw [hW9, heap_setCell_other _ _ _ _ HNv2v3.out]; exact HBv2_8.out
    have HBv3_9 : Hid ((w9).heap[qv3]? = some (.cells #[.string ⟨#[]⟩, .slice none 0 0, .slice none 0 0, .int .i64 0, .slice none 0 0, .string ⟨#[]⟩, .int .i64 0] 34)) := by show _ = _; rw [hW9]; have h := heap_set _ _ 4 _ _ _ (.slice none 0 0) HBv3_8.out; simpa using h
    clear hb8 HBv1_8 HBv2_8 HBv3_8 hW9
    obtain ⟨w10, hW10⟩ : ∃ W, W = (w9).setCell ⟨qv3, 5, none⟩ (.string ⟨#[]⟩) := ⟨_, rfl⟩
    rw [← hW10]
    have hb10 : Below w.heap.size w w10 := by rw [hW10]; exact hb9.setCell (p := ⟨qv3, 5, none⟩) HGv3.out _
    have HM10 : Hid ((w9).heap.size ≤ w10.heap.size) := by show _ ≤ _; rw [hW10]; simp
    have HBv1_10 : Hid ((w10).heap[qv1]? = some (.cells #[.int .i64 m, .string p, .slice oa n cap, .string b] 38)) := by show _ = _; rw [hW10, heap_setCell_other _ _ _ _ HNv1v3.out]; exact HBv1_9.out
    have HBv2_10 : Hid ((w10).heap[qv2]? = some (.cells #[.int .i64 st, .slice ob k cb, .string d] 32)) := by show _ = _; rw [hW10, heap_setCell_other _ _ _ _ HNv2v3.out]; exact HBv2_9.out
    have HBv3_10 : Hid ((w10).heap[qv3]? = some (.cells #[.string ⟨#[]⟩, .slice none 0 0, .slice none 0 0, .int .i64 0, .slice none 0 0, .string ⟨#[]⟩, .int .i64 0] 34)) := by show _ = _; rw [hW10]; have h := heap_set _ _ 5 _ _ _ (.string ⟨#[]⟩) HBv3_9.out; simpa using h
    clear hb9 HBv1_9 HBv2_9 HBv3_9 hW10
    obtain ⟨w11, hW11⟩ : ∃ W, W = (w10).setCell ⟨qv3, 6, none⟩ (.int .i64 0) := ⟨_, rfl⟩
    rw [← hW11]
    have hb11 : Below w.heap.size w w11 := by rw [hW11]; exact hb10.setCell (p := ⟨qv3, 6, none⟩) HGv3.out _
    have HM11 : Hid ((w10).heap.size ≤ w11.heap.size) := by show _ ≤ _; rw [hW11]; simp
    have HBv1_11 : Hid ((w11).heap[qv1]? = some (.cells #[.int .i64 m, .string p, .slice oa n cap, .string b] 38)) := by show _ = _; rw [hW11, heap_setCell_other _ _ _ _ HNv1v3.out]; exact HBv1_10.out
    have HBv2_11 : Hid ((w11).heap[qv2]? = some (.cells #[.int .i64 st, .slice ob k cb, .string d] 32)) := by show _ = _; rw [hW11, heap_setCell_other _ _ _ _ HNv2v3.out]; exact HBv2_10.out
    have HBv3_11 : Hid ((w11).heap[qv3]? = some (.cells #[.string ⟨#[]⟩, .slice none 0 0, .slice none 0 0, .int .i64 0, .slice none 0 0, .string ⟨#[]⟩, .int .i64 0] 34)) := by show _ = _; rw [hW11]; have h := heap_set _ _ 6 _ _ _ (.int .i64 0) HBv3_10.out; simpa using h
    clear hb10 HBv1_10 HBv2_10 HBv3_10 hW11
    have kv3_0 : (w11).cell? ⟨qv3, 0, none⟩ = some (.string ⟨#[]⟩) := (cell_of HBv3_11.out 0).trans rfl
    have kv3_1 : (w11).cell? ⟨qv3, 1, none⟩ = some (.slice none 0 0) := (cell_of HBv3_11.out 1).trans rfl
    have kv3_2 : (w11).cell? ⟨qv3, 2, none⟩ = some (.slice none 0 0) := (cell_of HBv3_11.out 2).trans rfl
    have kv3_3 : (w11).cell? ⟨qv3, 3, none⟩ = some (.int .i64 0) := (cell_of HBv3_11.out 3).trans rfl
    have kv3_4 : (w11).cell? ⟨qv3, 4, none⟩ = some (.slice none 0 0) := (cell_of HBv3_11.out 4).trans rfl
    have kv3_5 : (w11).cell? ⟨qv3, 5, none⟩ = some (.string ⟨#[]⟩) := (cell_of HBv3_11.out 5).trans rfl
    have kv3_6 : (w11).cell? ⟨qv3, 6, none⟩ = some (.int .i64 0) := (cell_of HBv3_11.out 6).trans rfl
    refine bodyPost_ret (v := .tuple #[.agg #[.string ⟨#[]⟩, .slice none 0 0, .slice none 0 0, .int .i64 0, .slice none 0 0, .string ⟨#[]⟩, .int .i64 0], .bool false]) (by simp [results, Tryz.results6, go_sem, kv3_0, kv3_1, kv3_2, kv3_3, kv3_4, kv3_5, kv3_6]) rfl ?_
    exact ⟨hb11, .inr ⟨HF.out, rfl⟩⟩
  | true =>
    have HMK : Hid (MayP m p fs b st gs d) := htu1.1 rfl
    clear htu1
    have cv2_1 : (w4).cell? ⟨qv2, 1, none⟩ = some (.slice ob k cb) := (cell_of HBv2_4.out 1).trans rfl
    go_wp2_with fail
    refine (specVaryOf_any _ k base2 gs _ (HV2.out _ hb4) (by omega) HG3.out).mono ?_
    rintro e w5 ⟨vv, rfl, ownX, bw⟩
    obtain ⟨oX, pX, rfl⟩ := slice_of_owns ownX
    rw [HVL.out] at ownX ⊢
    have hb5 : Below w.heap.size w (w5) := hb4.trans (bw.mono hb4.size)
    have HM5 : Hid ((w4).heap.size ≤ (w5).heap.size) := bw.size
    have HBv1_5 : Hid ((w5).heap[qv1]? = some (.cells #[.int .i64 m, .string p, .slice oa n cap, .string b] 38)) := blk_below HBv1_4.out bw
    have HBv2_5 : Hid ((w5).heap[qv2]? = some (.cells #[.int .i64 st, .slice ob k cb, .string d] 32)) := blk_below HBv2_4.out bw
    have HBv3_5 : Hid ((w5).heap[qv3]? = some (.cells #[.string ⟨#[]⟩, .slice none 0 0, .slice none 0 0, .int .i64 0, .slice none 0 0, .string ⟨#[]⟩, .int .i64 0] 34)) := blk_below HBv3_4.out bw
    have HOX_5 : Hid ((w5).ownsRow w.heap.size 9 1 (.slice oX vl.length pX) vl.length (vl.map Value.string)) := owns_wide ownX hb4.size
    have LOX : Hid (∀ g, (Value.ownBlock (.slice oX vl.length pX)) = some g → (w4).heap.size ≤ g) := fun g hg => owns_ge ownX hg
    have HIX : Hid (∀ g, (Value.ownBlock (.slice oX vl.length pX)) = some g → g < (w5).heap.size) := fun g hg => owns_lt ownX hg
    clear ownX
    clear hb4 HBv1_4 HBv2_4 HBv3_4 bw
    clear cv2_1
    go_upto_region 4 with fail
    have HSS : Hid (∀ W, Below w5.heap.size w5 W → W.heap[qv1]? = some (.cells #[.int .i64 m, .string p, .slice oa n cap, .string b] 38) ∧ W.heap[qv2]? = some (.cells #[.int .i64 st, .slice ob k cb, .string d] 32)) := fun W h => ⟨blk_below HBv1_5.out h, blk_below HBv2_5.out h⟩
    go_cut [9] (fun sx wx => ∃ (q : Nat) (oY : Option Addr) (pY : Nat) (oG : Option Addr) (pG : Nat), sx = .pointer (some ⟨q, 0, none⟩) ∧ Hid (Below w5.heap.size w5 wx ∧ wx.heap[q]? = some (.cells #[.string p, .slice oX vl.length pX, .slice oY yl.length pY, .int .i64 st, .slice oG k pG, .string d, .int .i64 t] 34) ∧ w5.heap.size ≤ q ∧ (wx).ownsRow w5.heap.size 9 1 (.slice oY yl.length pY) yl.length (yl.map Value.string) ∧ (wx).ownsRow w5.heap.size 75 2 (.slice oG k pG) k (flatF gs)))
    case first =>
      refine wp_region_held_drew (S := fun W => W.heap[qv1]? = some (.cells #[.int .i64 m, .string p, .slice oa n cap, .string b] 38) ∧ W.heap[qv2]? = some (.cells #[.int .i64 st, .slice ob k cb, .string d] 32)) (by kernel_rfl) (HSS.out _ (Below.refl _ _).drew) (fun _ => ?_)
      obtain ⟨w6, hX⟩ : ∃ X, X = w5.drew := ⟨_, rfl⟩
      have bw : Below w5.heap.size w5 w6 := by rw [hX]; exact (Below.refl _ _).drew
      rw [← hX]
      have hb6 : Below w.heap.size w (w6) := hb5.trans (bw.mono hb5.size)
      have HM6 : Hid ((w5).heap.size ≤ (w6).heap.size) := bw.size
      have HOX_6 : Hid ((w6).ownsRow w.heap.size 9 1 (.slice oX vl.length pX) vl.length (vl.map Value.string)) := owns_below HOX_5.out bw (fun g hg => owns_lt HOX_5.out hg)
      have HBv1_6 : Hid ((w6).heap[qv1]? = some (.cells #[.int .i64 m, .string p, .slice oa n cap, .string b] 38)) := blk_below HBv1_5.out bw
      have HBv2_6 : Hid ((w6).heap[qv2]? = some (.cells #[.int .i64 st, .slice ob k cb, .string d] 32)) := blk_below HBv2_5.out bw
      have HBv3_6 : Hid ((w6).heap[qv3]? = some (.cells #[.string ⟨#[]⟩, .slice none 0 0, .slice none 0 0, .int .i64 0, .slice none 0 0, .string ⟨#[]⟩, .int .i64 0] 34)) := blk_below HBv3_5.out bw
      have HX_6 : Hid (Below w5.heap.size w5 w6) := bw
      clear bw hX
      refine wpAnyH_takeD (i := 0) (v := .pointer (some ⟨qv1, 1, none⟩)) (some 18) rfl rfl (by kernel_rfl) (by kernel_rfl) (by kernel_rfl) (fun _ _ _ h => h) (Or.inl ⟨by rfl, by intro W _; go_simp⟩) (HSS.out _ HX_6.out) ?_
      simp only [Act.put, List.setIfInBounds_toArray, List.set_cons_zero, List.set_cons_succ]
      refine wpAnyH_takeD (i := 1) (v := .string p) (some 19) rfl rfl (by kernel_rfl) (by kernel_rfl) (by kernel_rfl) (fun _ _ _ h => h) (Or.inl ⟨by rfl, by intro W hW; obtain ⟨hhv1, hhv2⟩ := hW; have y1 := (cell_of hhv1 1).trans rfl; go_simp⟩) (HSS.out _ HX_6.out) ?_
      simp only [Act.put, List.setIfInBounds_toArray, List.set_cons_zero, List.set_cons_succ]
      refine wpAnyH_takeD (i := 2) (v := .slice oX vl.length pX) (some 20) rfl rfl (by kernel_rfl) (by kernel_rfl) (by kernel_rfl) (fun _ _ _ h => h) (Or.inl ⟨by rfl, by intro W _; go_simp⟩) (HSS.out _ HX_6.out) ?_
      simp only [Act.put, List.setIfInBounds_toArray, List.set_cons_zero, List.set_cons_succ]
      refine wpAnyH_takeD (i := 3) (v := .slice oX vl.length pX) (some 21) rfl rfl (by kernel_rfl) (by kernel_rfl) (by kernel_rfl) (fun _ _ _ h => h) (Or.inl ⟨by rfl, by intro W _; go_simp⟩) (HSS.out _ HX_6.out) ?_
      simp only [Act.put, List.setIfInBounds_toArray, List.set_cons_zero, List.set_cons_succ]
      refine wpAnyH_takeD (i := 4) (v := .pointer (some ⟨qv1, 2, none⟩)) (some 22) rfl rfl (by kernel_rfl) (by kernel_rfl) (by kernel_rfl) (fun _ _ _ h => h) (Or.inl ⟨by rfl, by intro W _; go_simp⟩) (HSS.out _ HX_6.out) ?_
      simp only [Act.put, List.setIfInBounds_toArray, List.set_cons_zero, List.set_cons_succ]
      refine wpAnyH_takeD (i := 5) (v := .slice oa n cap) (some 23) rfl rfl (by kernel_rfl) (by kernel_rfl) (by kernel_rfl) (fun _ _ _ h => h) (Or.inl ⟨by rfl, by intro W hW; obtain ⟨hhv1, hhv2⟩ := hW; have y2 := (cell_of hhv1 2).trans rfl; go_simp⟩) (HSS.out _ HX_6.out) ?_
      simp only [Act.put, List.setIfInBounds_toArray, List.set_cons_zero, List.set_cons_succ]
      refine wpAnyH_takeD (i := 7) (v := .agg #[.int .i64 st, .slice ob k cb, .string d]) (some 25) rfl rfl (by kernel_rfl) (by kernel_rfl) (by kernel_rfl) (fun _ _ _ h => h) (Or.inl ⟨by rfl, by intro W hW; obtain ⟨hhv1, hhv2⟩ := hW; have y0 := (cell_of hhv2 0).trans rfl; have y1 := (cell_of hhv2 1).trans rfl; have y2 := (cell_of hhv2 2).trans rfl; go_simp⟩) (HSS.out _ HX_6.out) ?_
      simp only [Act.put, List.setIfInBounds_toArray, List.set_cons_zero, List.set_cons_succ]
      refine wpAnyH_takeD (i := 9) (v := .int .i64 t) (some 27) rfl rfl (by kernel_rfl) (by kernel_rfl) (by kernel_rfl) (fun _ _ _ h => h) (Or.inl ⟨by rfl, by intro W _; go_simp⟩) (HSS.out _ HX_6.out) ?_
      simp only [Act.put, List.setIfInBounds_toArray, List.set_cons_zero, List.set_cons_succ]
      refine wpAnyH_ready (rs := [6, 11]) (by kernel_rfl) (by simp) ?_
      refine AllReadyH.cons rfl (fun K hK => ?_) (AllReadyH.cons rfl (fun K hK => ?_) AllReadyH.nil)
      · go_simp
        refine (specValuesOf_any _ _ _ vl _ n base fs _ (texts_view HOX_6.out) HVZ.out.1 (HV1.out _ hb6) (by omega)).mono ?_
        rintro e w7 ⟨vv, rfl, ownY, bw⟩
        obtain ⟨oY, pY, rfl⟩ := slice_of_owns ownY
        rw [HYL.out] at ownY ⊢
        have hb7 : Below w.heap.size w (w7) := hb6.trans (bw.mono hb6.size)
        have HM7 : Hid ((w6).heap.size ≤ (w7).heap.size) := bw.size
        have HOX_7 : Hid ((w7).ownsRow w.heap.size 9 1 (.slice oX vl.length pX) vl.length (vl.map Value.string)) := owns_below HOX_6.out bw (fun g hg => owns_lt HOX_6.out hg)
        have HBv1_7 : Hid ((w7).heap[qv1]? = some (.cells #[.int .i64 m, .string p, .slice oa n cap, .string b] 38)) := blk_below HBv1_6.out bw
        have HBv2_7 : Hid ((w7).heap[qv2]? = some (.cells #[.int .i64 st, .slice ob k cb, .string d] 32)) := blk_below HBv2_6.out bw
        have HBv3_7 : Hid ((w7).heap[qv3]? = some (.cells #[.string ⟨#[]⟩, .slice none 0 0, .slice none 0 0, .int .i64 0, .slice none 0 0, .string ⟨#[]⟩, .int .i64 0] 34)) := blk_below HBv3_6.out bw
        have HOY_7 : Hid ((w7).ownsRow w.heap.size 9 1 (.slice oY yl.length pY) yl.length (yl.map Value.string)) := owns_wide ownY hb6.size
        have LOY : Hid (∀ g, (Value.ownBlock (.slice oY yl.length pY)) = some g → (w6).heap.size ≤ g) := fun g hg => owns_ge ownY hg
        have HIY : Hid (∀ g, (Value.ownBlock (.slice oY yl.length pY)) = some g → g < (w7).heap.size) := fun g hg => owns_lt ownY hg
        clear ownY
        clear hb6 HOX_6 HBv1_6 HBv2_6 HBv3_6
        have HX_7 : Hid (Below w5.heap.size w5 w7) := HX_6.out.trans (bw.mono HX_6.out.size)
        have HRXY_7 : Hid ((w7).ownsRow w5.heap.size 9 1 (.slice oY yl.length pY) yl.length (yl.map Value.string)) := owns_lift HOY_7.out (fun g hg => Nat.le_trans HX_6.out.size (LOY.out g hg))
        refine hK.out _ _ (HSS.out _ HX_7.out) (fun _ => ?_)
        clear hK K bw HX_6
        refine wpAnyH_ready (rs := [8, 11]) (by kernel_rfl) (by simp) ?_
        refine AllReadyH.cons rfl (fun K hK => ?_) (AllReadyH.cons rfl (fun K hK => ?_) AllReadyH.nil)
        · go_simp
          refine (l9Resp_any st _ d k base2 gs _ (HV2.out _ hb7) (by omega)).mono ?_
          rintro e w8 ⟨vv, rfl, ownG, bw⟩
          obtain ⟨oG, pG, rfl⟩ := slice_of_owns ownG
          rw [HLG.out] at ownG ⊢
          have hb8 : Below w.heap.size w (w8) := hb7.trans (bw.mono hb7.size)
          have HM8 : Hid ((w7).heap.size ≤ (w8).heap.size) := bw.size
          have HOX_8 : Hid ((w8).ownsRow w.heap.size 9 1 (.slice oX vl.length pX) vl.length (vl.map Value.string)) := owns_below HOX_7.out bw (fun g hg => owns_lt HOX_7.out hg)
          have HOY_8 : Hid ((w8).ownsRow w.heap.size 9 1 (.slice oY yl.length pY) yl.length (yl.map Value.string)) := owns_below HOY_7.out bw (fun g hg => owns_lt HOY_7.out hg)
          have HBv1_8 : Hid ((w8).heap[qv1]? = some (.cells #[.int .i64 m, .string p, .slice oa n cap, .string b] 38)) := blk_below HBv1_7.out bw
          have HBv2_8 : Hid ((w8).heap[qv2]? = some (.cells #[.int .i64 st, .slice ob k cb, .string d] 32)) := blk_below HBv2_7.out bw
          have HBv3_8 : Hid ((w8).heap[qv3]? = some (.cells #[.string ⟨#[]⟩, .slice none 0 0, .slice none 0 0, .int .i64 0, .slice none 0 0, .string ⟨#[]⟩, .int .i64 0] 34)) := blk_below HBv3_7.out bw
          have HOG_8 : Hid ((w8).ownsRow w.heap.size 75 2 (.slice oG k pG) k (flatF gs)) := owns_wide ownG hb7.size
          have LOG : Hid (∀ g, (Value.ownBlock (.slice oG k pG)) = some g → (w7).heap.size ≤ g) := fun g hg => owns_ge ownG hg
          have HIG : Hid (∀ g, (Value.ownBlock (.slice oG k pG)) = some g → g < (w8).heap.size) := fun g hg => owns_lt ownG hg
          clear ownG
          clear hb7 HOX_7 HOY_7 HBv1_7 HBv2_7 HBv3_7
          have HX_8 : Hid (Below w5.heap.size w5 w8) := HX_7.out.trans (bw.mono HX_7.out.size)
          have HRXY_8 : Hid ((w8).ownsRow w5.heap.size 9 1 (.slice oY yl.length pY) yl.length (yl.map Value.string)) := owns_below HRXY_7.out bw (fun g hg => owns_lt HRXY_7.out hg)
          have HRXG_8 : Hid ((w8).ownsRow w5.heap.size 75 2 (.slice oG k pG) k (flatF gs)) := owns_lift HOG_8.out (fun g hg => Nat.le_trans HX_7.out.size (LOG.out g hg))
          refine hK.out _ _ (HSS.out _ HX_8.out) (fun _ => ?_)
          clear hK K bw HX_7
          refine wpAnyH_takeD (i := 10) (v := .agg #[.string p, .slice oX vl.length pX, .slice oY yl.length pY, .int .i64 st, .slice oG k pG, .string d, .int .i64 t]) (some 28) rfl rfl (by kernel_rfl) (by kernel_rfl) (by kernel_rfl) (fun _ _ _ h => h) (Or.inl ⟨by rfl, by intro W _; go_simp⟩) (HSS.out _ HX_8.out) ?_
          simp only [Act.put, List.setIfInBounds_toArray, List.set_cons_zero, List.set_cons_succ]
          refine wpAnyH_ready (rs := [11]) (by kernel_rfl) (by simp) ?_
          refine AllReadyH.cons rfl (fun K hK => ?_) AllReadyH.nil
          go_simp
          have HXA : Hid (Below w5.heap.size w5 (w8.alloc (.cells #[.string ⟨#[]⟩, .slice none 0 0, .slice none 0 0, .int .i64 0, .slice none 0 0, .string ⟨#[]⟩, .int .i64 0] 34))) := HX_8.out.alloc HX_8.out.size _
          refine hK.out _ _ (HSS.out _ HXA.out) (fun _ => ?_)
          clear hK K HXA
          obtain ⟨pa, ho⟩ : ∃ o, o = w8.heap.size := ⟨_, rfl⟩
          obtain ⟨w9, hXj⟩ : ∃ X, X = w8.alloc (.cells #[.string ⟨#[]⟩, .slice none 0 0, .slice none 0 0, .int .i64 0, .slice none 0 0, .string ⟨#[]⟩, .int .i64 0] 34) := ⟨_, rfl⟩
          rw [← ho, ← hXj]
          have HGA : Hid (w5.heap.size ≤ pa) := by show _ ≤ _; rw [ho]; exact HX_8.out.size
          have bw : Below w8.heap.size w8 w9 := by rw [hXj]; exact (Below.refl _ _).alloc (Nat.le_refl _) _
          have hb9 : Below w.heap.size w (w9) := hb8.trans (bw.mono hb8.size)
          have HM9 : Hid ((w8).heap.size ≤ (w9).heap.size) := bw.size
          have HOX_9 : Hid ((w9).ownsRow w.heap.size 9 1 (.slice oX vl.length pX) vl.length (vl.map Value.string)) := owns_below HOX_8.out bw (fun g hg => owns_lt HOX_8.out hg)
          have HOY_9 : Hid ((w9).ownsRow w.heap.size 9 1 (.slice oY yl.length pY) yl.length (yl.map Value.string)) := owns_below HOY_8.out bw (fun g hg => owns_lt HOY_8.out hg)
          have HOG_9 : Hid ((w9).ownsRow w.heap.size 75 2 (.slice oG k pG) k (flatF gs)) := owns_below HOG_8.out bw (fun g hg => owns_lt HOG_8.out hg)
          have HBv1_9 : Hid ((w9).heap[qv1]? = some (.cells #[.int .i64 m, .string p, .slice oa n cap, .string b] 38)) := blk_below HBv1_8.out bw
          have HBv2_9 : Hid ((w9).heap[qv2]? = some (.cells #[.int .i64 st, .slice ob k cb, .string d] 32)) := blk_below HBv2_8.out bw
          have HBv3_9 : Hid ((w9).heap[qv3]? = some (.cells #[.string ⟨#[]⟩, .slice none 0 0, .slice none 0 0, .int .i64 0, .slice none 0 0, .string ⟨#[]⟩, .int .i64 0] 34)) := blk_below HBv3_8.out bw
          have HX_9 : Hid (Below w5.heap.size w5 w9) := HX_8.out.trans (bw.mono HX_8.out.size)
          have HRXY_9 : Hid ((w9).ownsRow w5.heap.size 9 1 (.slice oY yl.length pY) yl.length (yl.map Value.string)) := owns_below HRXY_8.out bw (fun g hg => owns_lt HRXY_8.out hg)
          have HRXG_9 : Hid ((w9).ownsRow w5.heap.size 75 2 (.slice oG k pG) k (flatF gs)) := owns_below HRXG_8.out bw (fun g hg => owns_lt HRXG_8.out hg)
          have HPA_9 : Hid (w9.heap[pa]? = some (.cells #[.string ⟨#[]⟩, .slice none 0 0, .slice none 0 0, .int .i64 0, .slice none 0 0, .string ⟨#[]⟩, .int .i64 0] 34)) := by show _ = _; rw [hXj, ho]; exact heap_alloc_new _ _
          clear hb8 HOX_8 HOY_8 HOG_8 HBv1_8 HBv2_8 HBv3_8 bw ho hXj HX_8
          refine wpAnyH_ready (rs := [12]) (by kernel_rfl) (by simp) ?_
          refine AllReadyH.cons rfl (fun K hK => ?_) AllReadyH.nil
          have ce0 : w9.cell? ⟨pa, 0, none⟩ = some (.string ⟨#[]⟩) := (cell_of HPA_9.out 0).trans rfl
          have fe0 : w9.frozen? ⟨pa, 0, none⟩ = false := frozen_of HPA_9.out 0
          have ce1 : w9.cell? ⟨pa, 1, none⟩ = some (.slice none 0 0) := (cell_of HPA_9.out 1).trans rfl
          have fe1 : w9.frozen? ⟨pa, 1, none⟩ = false := frozen_of HPA_9.out 1
          have ce2 : w9.cell? ⟨pa, 2, none⟩ = some (.slice none 0 0) := (cell_of HPA_9.out 2).trans rfl
          have fe2 : w9.frozen? ⟨pa, 2, none⟩ = false := frozen_of HPA_9.out 2
          have ce3 : w9.cell? ⟨pa, 3, none⟩ = some (.int .i64 0) := (cell_of HPA_9.out 3).trans rfl
          have fe3 : w9.frozen? ⟨pa, 3, none⟩ = false := frozen_of HPA_9.out 3
          have ce4 : w9.cell? ⟨pa, 4, none⟩ = some (.slice none 0 0) := (cell_of HPA_9.out 4).trans rfl
          have fe4 : w9.frozen? ⟨pa, 4, none⟩ = false := frozen_of HPA_9.out 4
          have ce5 : w9.cell? ⟨pa, 5, none⟩ = some (.string ⟨#[]⟩) := (cell_of HPA_9.out 5).trans rfl
          have fe5 : w9.frozen? ⟨pa, 5, none⟩ = false := frozen_of HPA_9.out 5
          have ce6 : w9.cell? ⟨pa, 6, none⟩ = some (.int .i64 0) := (cell_of HPA_9.out 6).trans rfl
          have fe6 : w9.frozen? ⟨pa, 6, none⟩ = false := frozen_of HPA_9.out 6
          obtain ⟨w10, hY⟩ : ∃ Y, Y = (((((((w9.setCell ⟨pa, 0, none⟩ (.string p)).setCell ⟨pa, 1, none⟩ (.slice oX vl.length pX)).setCell ⟨pa, 2, none⟩ (.slice oY yl.length pY)).setCell ⟨pa, 3, none⟩ (.int .i64 st)).setCell ⟨pa, 4, none⟩ (.slice oG k pG)).setCell ⟨pa, 5, none⟩ (.string d)).setCell ⟨pa, 6, none⟩ (.int .i64 t)) := ⟨_, rfl⟩
          have HY : Hid ((((((((w9.setCell ⟨pa, 0, none⟩ (.string p)).setCell ⟨pa, 1, none⟩ (.slice oX vl.length pX)).setCell ⟨pa, 2, none⟩ (.slice oY yl.length pY)).setCell ⟨pa, 3, none⟩ (.int .i64 st)).setCell ⟨pa, 4, none⟩ (.slice oG k pG)).setCell ⟨pa, 5, none⟩ (.string d)).setCell ⟨pa, 6, none⟩ (.int .i64 t)) = w10) := hY.symm
          have HX_10 : Hid (Below w5.heap.size w5 w10) := by show Below _ _ _; rw [hY]; exact (((((((HX_9.out.setCell (p := ⟨pa, 0, none⟩) HGA.out _).setCell (p := ⟨pa, 1, none⟩) HGA.out _).setCell (p := ⟨pa, 2, none⟩) HGA.out _).setCell (p := ⟨pa, 3, none⟩) HGA.out _).setCell (p := ⟨pa, 4, none⟩) HGA.out _).setCell (p := ⟨pa, 5, none⟩) HGA.out _).setCell (p := ⟨pa, 6, none⟩) HGA.out _)
          have HPA_10 : Hid (w10.heap[pa]? = some (.cells #[.string p, .slice oX vl.length pX, .slice oY yl.length pY, .int .i64 st, .slice oG k pG, .string d, .int .i64 t] 34)) := by show _ = _; rw [hY]; have h := (heap_set _ pa 6 _ _ _ (.int .i64 t) (heap_set _ pa 5 _ _ _ (.string d) (heap_set _ pa 4 _ _ _ (.slice oG k pG) (heap_set _ pa 3 _ _ _ (.int .i64 st) (heap_set _ pa 2 _ _ _ (.slice oY yl.length pY) (heap_set _ pa 1 _ _ _ (.slice oX vl.length pX) (heap_set _ pa 0 _ _ _ (.string p) HPA_9.out))))))); simpa using h
          have HRXY_10 : Hid ((w10).ownsRow w5.heap.size 9 1 (.slice oY yl.length pY) yl.length (yl.map Value.string)) := by show World.ownsRow _ _ _ _ _ _ _; rw [hY]; exact owns_same HRXY_9.out (fun g hg => by have hne := own_ne HRXY_9.out HPA_9.out (by decide) g hg; rw [heap_setCell_other _ _ g _ hne, heap_setCell_other _ _ g _ hne, heap_setCell_other _ _ g _ hne, heap_setCell_other _ _ g _ hne, heap_setCell_other _ _ g _ hne, heap_setCell_other _ _ g _ hne, heap_setCell_other _ _ g _ hne])
          have HRXG_10 : Hid ((w10).ownsRow w5.heap.size 75 2 (.slice oG k pG) k (flatF gs)) := by show World.ownsRow _ _ _ _ _ _ _; rw [hY]; exact owns_same HRXG_9.out (fun g hg => by have hne := own_ne HRXG_9.out HPA_9.out (by decide) g hg; rw [heap_setCell_other _ _ g _ hne, heap_setCell_other _ _ g _ hne, heap_setCell_other _ _ g _ hne, heap_setCell_other _ _ g _ hne, heap_setCell_other _ _ g _ hne, heap_setCell_other _ _ g _ hne, heap_setCell_other _ _ g _ hne])
          clear hY hb9 HOX_9 HOY_9 HOG_9 HBv1_9 HBv2_9 HBv3_9
          go_simp
          rw [HY.out]
          refine hK.out _ _ (HSS.out _ HX_10.out) (fun _ => ?_)
          clear hK K HY ce0 fe0 ce1 fe1 ce2 fe2 ce3 fe3 ce4 fe4 ce5 fe5 ce6 fe6
          refine wpAnyH_done (by kernel_rfl) ?_ _
          go_wp2_with fail
          go_meet
          exact ⟨pa, oY, pY, oG, pG, rfl, ⟨HX_10.out, HPA_10.out, HGA.out, HRXY_10.out, HRXG_10.out⟩⟩
        · go_simp
          have HXA : Hid (Below w5.heap.size w5 (w7.alloc (.cells #[.string ⟨#[]⟩, .slice none 0 0, .slice none 0 0, .int .i64 0, .slice none 0 0, .string ⟨#[]⟩, .int .i64 0] 34))) := HX_7.out.alloc HX_7.out.size _
          refine hK.out _ _ (HSS.out _ HXA.out) (fun _ => ?_)
          clear hK K HXA
          obtain ⟨pa, ho⟩ : ∃ o, o = w7.heap.size := ⟨_, rfl⟩
          obtain ⟨w8, hXj⟩ : ∃ X, X = w7.alloc (.cells #[.string ⟨#[]⟩, .slice none 0 0, .slice none 0 0, .int .i64 0, .slice none 0 0, .string ⟨#[]⟩, .int .i64 0] 34) := ⟨_, rfl⟩
          rw [← ho, ← hXj]
          have HGA : Hid (w5.heap.size ≤ pa) := by show _ ≤ _; rw [ho]; exact HX_7.out.size
          have bw : Below w7.heap.size w7 w8 := by rw [hXj]; exact (Below.refl _ _).alloc (Nat.le_refl _) _
          have hb8 : Below w.heap.size w (w8) := hb7.trans (bw.mono hb7.size)
          have HM8 : Hid ((w7).heap.size ≤ (w8).heap.size) := bw.size
          have HOX_8 : Hid ((w8).ownsRow w.heap.size 9 1 (.slice oX vl.length pX) vl.length (vl.map Value.string)) := owns_below HOX_7.out bw (fun g hg => owns_lt HOX_7.out hg)
          have HOY_8 : Hid ((w8).ownsRow w.heap.size 9 1 (.slice oY yl.length pY) yl.length (yl.map Value.string)) := owns_below HOY_7.out bw (fun g hg => owns_lt HOY_7.out hg)
          have HBv1_8 : Hid ((w8).heap[qv1]? = some (.cells #[.int .i64 m, .string p, .slice oa n cap, .string b] 38)) := blk_below HBv1_7.out bw
          have HBv2_8 : Hid ((w8).heap[qv2]? = some (.cells #[.int .i64 st, .slice ob k cb, .string d] 32)) := blk_below HBv2_7.out bw
          have HBv3_8 : Hid ((w8).heap[qv3]? = some (.cells #[.string ⟨#[]⟩, .slice none 0 0, .slice none 0 0, .int .i64 0, .slice none 0 0, .string ⟨#[]⟩, .int .i64 0] 34)) := blk_below HBv3_7.out bw
          have HX_8 : Hid (Below w5.heap.size w5 w8) := HX_7.out.trans (bw.mono HX_7.out.size)
          have HRXY_8 : Hid ((w8).ownsRow w5.heap.size 9 1 (.slice oY yl.length pY) yl.length (yl.map Value.string)) := owns_below HRXY_7.out bw (fun g hg => owns_lt HRXY_7.out hg)
          have HPA_8 : Hid (w8.heap[pa]? = some (.cells #[.string ⟨#[]⟩, .slice none 0 0, .slice none 0 0, .int .i64 0, .slice none 0 0, .string ⟨#[]⟩, .int .i64 0] 34)) := by show _ = _; rw [hXj, ho]; exact heap_alloc_new _ _
          clear hb7 HOX_7 HOY_7 HBv1_7 HBv2_7 HBv3_7 bw ho hXj HX_7
          refine wpAnyH_ready (rs := [8]) (by kernel_rfl) (by simp) ?_
          refine AllReadyH.cons rfl (fun K hK => ?_) AllReadyH.nil
          go_simp
          refine (l9Resp_any st _ d k base2 gs _ (HV2.out _ hb8) (by omega)).mono ?_
          rintro e w9 ⟨vv, rfl, ownG, bw⟩
          obtain ⟨oG, pG, rfl⟩ := slice_of_owns ownG
          rw [HLG.out] at ownG ⊢
          have hb9 : Below w.heap.size w (w9) := hb8.trans (bw.mono hb8.size)
          have HM9 : Hid ((w8).heap.size ≤ (w9).heap.size) := bw.size
          have HOX_9 : Hid ((w9).ownsRow w.heap.size 9 1 (.slice oX vl.length pX) vl.length (vl.map Value.string)) := owns_below HOX_8.out bw (fun g hg => owns_lt HOX_8.out hg)
          have HOY_9 : Hid ((w9).ownsRow w.heap.size 9 1 (.slice oY yl.length pY) yl.length (yl.map Value.string)) := owns_below HOY_8.out bw (fun g hg => owns_lt HOY_8.out hg)
          have HBv1_9 : Hid ((w9).heap[qv1]? = some (.cells #[.int .i64 m, .string p, .slice oa n cap, .string b] 38)) := blk_below HBv1_8.out bw
          have HBv2_9 : Hid ((w9).heap[qv2]? = some (.cells #[.int .i64 st, .slice ob k cb, .string d] 32)) := blk_below HBv2_8.out bw
          have HBv3_9 : Hid ((w9).heap[qv3]? = some (.cells #[.string ⟨#[]⟩, .slice none 0 0, .slice none 0 0, .int .i64 0, .slice none 0 0, .string ⟨#[]⟩, .int .i64 0] 34)) := blk_below HBv3_8.out bw
          have HOG_9 : Hid ((w9).ownsRow w.heap.size 75 2 (.slice oG k pG) k (flatF gs)) := owns_wide ownG hb8.size
          have LOG : Hid (∀ g, (Value.ownBlock (.slice oG k pG)) = some g → (w8).heap.size ≤ g) := fun g hg => owns_ge ownG hg
          have HIG : Hid (∀ g, (Value.ownBlock (.slice oG k pG)) = some g → g < (w9).heap.size) := fun g hg => owns_lt ownG hg
          clear ownG
          clear hb8 HOX_8 HOY_8 HBv1_8 HBv2_8 HBv3_8
          have HX_9 : Hid (Below w5.heap.size w5 w9) := HX_8.out.trans (bw.mono HX_8.out.size)
          have HPA_9 : Hid (w9.heap[pa]? = some (.cells #[.string ⟨#[]⟩, .slice none 0 0, .slice none 0 0, .int .i64 0, .slice none 0 0, .string ⟨#[]⟩, .int .i64 0] 34)) := blk_below HPA_8.out bw
          have HRXY_9 : Hid ((w9).ownsRow w5.heap.size 9 1 (.slice oY yl.length pY) yl.length (yl.map Value.string)) := owns_below HRXY_8.out bw (fun g hg => owns_lt HRXY_8.out hg)
          have HRXG_9 : Hid ((w9).ownsRow w5.heap.size 75 2 (.slice oG k pG) k (flatF gs)) := owns_lift HOG_9.out (fun g hg => Nat.le_trans HX_8.out.size (LOG.out g hg))
          refine hK.out _ _ (HSS.out _ HX_9.out) (fun _ => ?_)
          clear hK K bw HX_8
          refine wpAnyH_takeD (i := 10) (v := .agg #[.string p, .slice oX vl.length pX, .slice oY yl.length pY, .int .i64 st, .slice oG k pG, .string d, .int .i64 t]) (some 28) rfl rfl (by kernel_rfl) (by kernel_rfl) (by kernel_rfl) (fun _ _ _ h => h) (Or.inl ⟨by rfl, by intro W _; go_simp⟩) (HSS.out _ HX_9.out) ?_
          simp only [Act.put, List.setIfInBounds_toArray, List.set_cons_zero, List.set_cons_succ]
          refine wpAnyH_ready (rs := [12]) (by kernel_rfl) (by simp) ?_
          refine AllReadyH.cons rfl (fun K hK => ?_) AllReadyH.nil
          have ce0 : w9.cell? ⟨pa, 0, none⟩ = some (.string ⟨#[]⟩) := (cell_of HPA_9.out 0).trans rfl
          have fe0 : w9.frozen? ⟨pa, 0, none⟩ = false := frozen_of HPA_9.out 0
          have ce1 : w9.cell? ⟨pa, 1, none⟩ = some (.slice none 0 0) := (cell_of HPA_9.out 1).trans rfl
          have fe1 : w9.frozen? ⟨pa, 1, none⟩ = false := frozen_of HPA_9.out 1
          have ce2 : w9.cell? ⟨pa, 2, none⟩ = some (.slice none 0 0) := (cell_of HPA_9.out 2).trans rfl
          have fe2 : w9.frozen? ⟨pa, 2, none⟩ = false := frozen_of HPA_9.out 2
          have ce3 : w9.cell? ⟨pa, 3, none⟩ = some (.int .i64 0) := (cell_of HPA_9.out 3).trans rfl
          have fe3 : w9.frozen? ⟨pa, 3, none⟩ = false := frozen_of HPA_9.out 3
          have ce4 : w9.cell? ⟨pa, 4, none⟩ = some (.slice none 0 0) := (cell_of HPA_9.out 4).trans rfl
          have fe4 : w9.frozen? ⟨pa, 4, none⟩ = false := frozen_of HPA_9.out 4
          have ce5 : w9.cell? ⟨pa, 5, none⟩ = some (.string ⟨#[]⟩) := (cell_of HPA_9.out 5).trans rfl
          have fe5 : w9.frozen? ⟨pa, 5, none⟩ = false := frozen_of HPA_9.out 5
          have ce6 : w9.cell? ⟨pa, 6, none⟩ = some (.int .i64 0) := (cell_of HPA_9.out 6).trans rfl
          have fe6 : w9.frozen? ⟨pa, 6, none⟩ = false := frozen_of HPA_9.out 6
          obtain ⟨w10, hY⟩ : ∃ Y, Y = (((((((w9.setCell ⟨pa, 0, none⟩ (.string p)).setCell ⟨pa, 1, none⟩ (.slice oX vl.length pX)).setCell ⟨pa, 2, none⟩ (.slice oY yl.length pY)).setCell ⟨pa, 3, none⟩ (.int .i64 st)).setCell ⟨pa, 4, none⟩ (.slice oG k pG)).setCell ⟨pa, 5, none⟩ (.string d)).setCell ⟨pa, 6, none⟩ (.int .i64 t)) := ⟨_, rfl⟩
          have HY : Hid ((((((((w9.setCell ⟨pa, 0, none⟩ (.string p)).setCell ⟨pa, 1, none⟩ (.slice oX vl.length pX)).setCell ⟨pa, 2, none⟩ (.slice oY yl.length pY)).setCell ⟨pa, 3, none⟩ (.int .i64 st)).setCell ⟨pa, 4, none⟩ (.slice oG k pG)).setCell ⟨pa, 5, none⟩ (.string d)).setCell ⟨pa, 6, none⟩ (.int .i64 t)) = w10) := hY.symm
          have HX_10 : Hid (Below w5.heap.size w5 w10) := by show Below _ _ _; rw [hY]; exact (((((((HX_9.out.setCell (p := ⟨pa, 0, none⟩) HGA.out _).setCell (p := ⟨pa, 1, none⟩) HGA.out _).setCell (p := ⟨pa, 2, none⟩) HGA.out _).setCell (p := ⟨pa, 3, none⟩) HGA.out _).setCell (p := ⟨pa, 4, none⟩) HGA.out _).setCell (p := ⟨pa, 5, none⟩) HGA.out _).setCell (p := ⟨pa, 6, none⟩) HGA.out _)
          have HPA_10 : Hid (w10.heap[pa]? = some (.cells #[.string p, .slice oX vl.length pX, .slice oY yl.length pY, .int .i64 st, .slice oG k pG, .string d, .int .i64 t] 34)) := by show _ = _; rw [hY]; have h := (heap_set _ pa 6 _ _ _ (.int .i64 t) (heap_set _ pa 5 _ _ _ (.string d) (heap_set _ pa 4 _ _ _ (.slice oG k pG) (heap_set _ pa 3 _ _ _ (.int .i64 st) (heap_set _ pa 2 _ _ _ (.slice oY yl.length pY) (heap_set _ pa 1 _ _ _ (.slice oX vl.length pX) (heap_set _ pa 0 _ _ _ (.string p) HPA_9.out))))))); simpa using h
          have HRXY_10 : Hid ((w10).ownsRow w5.heap.size 9 1 (.slice oY yl.length pY) yl.length (yl.map Value.string)) := by show World.ownsRow _ _ _ _ _ _ _; rw [hY]; exact owns_same HRXY_9.out (fun g hg => by have hne := own_ne HRXY_9.out HPA_9.out (by decide) g hg; rw [heap_setCell_other _ _ g _ hne, heap_setCell_other _ _ g _ hne, heap_setCell_other _ _ g _ hne, heap_setCell_other _ _ g _ hne, heap_setCell_other _ _ g _ hne, heap_setCell_other _ _ g _ hne, heap_setCell_other _ _ g _ hne])
          have HRXG_10 : Hid ((w10).ownsRow w5.heap.size 75 2 (.slice oG k pG) k (flatF gs)) := by show World.ownsRow _ _ _ _ _ _ _; rw [hY]; exact owns_same HRXG_9.out (fun g hg => by have hne := own_ne HRXG_9.out HPA_9.out (by decide) g hg; rw [heap_setCell_other _ _ g _ hne, heap_setCell_other _ _ g _ hne, heap_setCell_other _ _ g _ hne, heap_setCell_other _ _ g _ hne, heap_setCell_other _ _ g _ hne, heap_setCell_other _ _ g _ hne, heap_setCell_other _ _ g _ hne])
          clear hY hb9 HOX_9 HOY_9 HOG_9 HBv1_9 HBv2_9 HBv3_9
          go_simp
          rw [HY.out]
          refine hK.out _ _ (HSS.out _ HX_10.out) (fun _ => ?_)
          clear hK K HY ce0 fe0 ce1 fe1 ce2 fe2 ce3 fe3 ce4 fe4 ce5 fe5 ce6 fe6
          refine wpAnyH_done (by kernel_rfl) ?_ _
          go_wp2_with fail
          go_meet
          exact ⟨pa, oY, pY, oG, pG, rfl, ⟨HX_10.out, HPA_10.out, HGA.out, HRXY_10.out, HRXG_10.out⟩⟩
      · go_simp
        have HXA : Hid (Below w5.heap.size w5 (w6.alloc (.cells #[.string ⟨#[]⟩, .slice none 0 0, .slice none 0 0, .int .i64 0, .slice none 0 0, .string ⟨#[]⟩, .int .i64 0] 34))) := HX_6.out.alloc HX_6.out.size _
        refine hK.out _ _ (HSS.out _ HXA.out) (fun _ => ?_)
        clear hK K HXA
        obtain ⟨pa, ho⟩ : ∃ o, o = w6.heap.size := ⟨_, rfl⟩
        obtain ⟨w7, hXj⟩ : ∃ X, X = w6.alloc (.cells #[.string ⟨#[]⟩, .slice none 0 0, .slice none 0 0, .int .i64 0, .slice none 0 0, .string ⟨#[]⟩, .int .i64 0] 34) := ⟨_, rfl⟩
        rw [← ho, ← hXj]
        have HGA : Hid (w5.heap.size ≤ pa) := by show _ ≤ _; rw [ho]; exact HX_6.out.size
        have bw : Below w6.heap.size w6 w7 := by rw [hXj]; exact (Below.refl _ _).alloc (Nat.le_refl _) _
        have hb7 : Below w.heap.size w (w7) := hb6.trans (bw.mono hb6.size)
        have HM7 : Hid ((w6).heap.size ≤ (w7).heap.size) := bw.size
        have HOX_7 : Hid ((w7).ownsRow w.heap.size 9 1 (.slice oX vl.length pX) vl.length (vl.map Value.string)) := owns_below HOX_6.out bw (fun g hg => owns_lt HOX_6.out hg)
        have HBv1_7 : Hid ((w7).heap[qv1]? = some (.cells #[.int .i64 m, .string p, .slice oa n cap, .string b] 38)) := blk_below HBv1_6.out bw
        have HBv2_7 : Hid ((w7).heap[qv2]? = some (.cells #[.int .i64 st, .slice ob k cb, .string d] 32)) := blk_below HBv2_6.out bw
        have HBv3_7 : Hid ((w7).heap[qv3]? = some (.cells #[.string ⟨#[]⟩, .slice none 0 0, .slice none 0 0, .int .i64 0, .slice none 0 0, .string ⟨#[]⟩, .int .i64 0] 34)) := blk_below HBv3_6.out bw
        have HX_7 : Hid (Below w5.heap.size w5 w7) := HX_6.out.trans (bw.mono HX_6.out.size)
        have HPA_7 : Hid (w7.heap[pa]? = some (.cells #[.string ⟨#[]⟩, .slice none 0 0, .slice none 0 0, .int .i64 0, .slice none 0 0, .string ⟨#[]⟩, .int .i64 0] 34)) := by show _ = _; rw [hXj, ho]; exact heap_alloc_new _ _
        clear hb6 HOX_6 HBv1_6 HBv2_6 HBv3_6 bw ho hXj HX_6
        refine wpAnyH_ready (rs := [6]) (by kernel_rfl) (by simp) ?_
        refine AllReadyH.cons rfl (fun K hK => ?_) AllReadyH.nil
        go_simp
        refine (specValuesOf_any _ _ _ vl _ n base fs _ (texts_view HOX_7.out) HVZ.out.1 (HV1.out _ hb7) (by omega)).mono ?_
        rintro e w8 ⟨vv, rfl, ownY, bw⟩
        obtain ⟨oY, pY, rfl⟩ := slice_of_owns ownY
        rw [HYL.out] at ownY ⊢
        have hb8 : Below w.heap.size w (w8) := hb7.trans (bw.mono hb7.size)
        have HM8 : Hid ((w7).heap.size ≤ (w8).heap.size) := bw.size
        have HOX_8 : Hid ((w8).ownsRow w.heap.size 9 1 (.slice oX vl.length pX) vl.length (vl.map Value.string)) := owns_below HOX_7.out bw (fun g hg => owns_lt HOX_7.out hg)
        have HBv1_8 : Hid ((w8).heap[qv1]? = some (.cells #[.int .i64 m, .string p, .slice oa n cap, .string b] 38)) := blk_below HBv1_7.out bw
        have HBv2_8 : Hid ((w8).heap[qv2]? = some (.cells #[.int .i64 st, .slice ob k cb, .string d] 32)) := blk_below HBv2_7.out bw
        have HBv3_8 : Hid ((w8).heap[qv3]? = some (.cells #[.string ⟨#[]⟩, .slice none 0 0, .slice none 0 0, .int .i64 0, .slice none 0 0, .string ⟨#[]⟩, .int .i64 0] 34)) := blk_below HBv3_7.out bw
        have HOY_8 : Hid ((w8).ownsRow w.heap.size 9 1 (.slice oY yl.length pY) yl.length (yl.map Value.string)) := owns_wide ownY hb7.size
        have LOY : Hid (∀ g, (Value.ownBlock (.slice oY yl.length pY)) = some g → (w7).heap.size ≤ g) := fun g hg => owns_ge ownY hg
        have HIY : Hid (∀ g, (Value.ownBlock (.slice oY yl.length pY)) = some g → g < (w8).heap.size) := fun g hg => owns_lt ownY hg
        clear ownY
        clear hb7 HOX_7 HBv1_7 HBv2_7 HBv3_7
        have HX_8 : Hid (Below w5.heap.size w5 w8) := HX_7.out.trans (bw.mono HX_7.out.size)
        have HPA_8 : Hid (w8.heap[pa]? = some (.cells #[.string ⟨#[]⟩, .slice none 0 0, .slice none 0 0, .int .i64 0, .slice none 0 0, .string ⟨#[]⟩, .int .i64 0] 34)) := blk_below HPA_7.out bw
        have HRXY_8 : Hid ((w8).ownsRow w5.heap.size 9 1 (.slice oY yl.length pY) yl.length (yl.map Value.string)) := owns_lift HOY_8.out (fun g hg => Nat.le_trans HX_7.out.size (LOY.out g hg))
        refine hK.out _ _ (HSS.out _ HX_8.out) (fun _ => ?_)
        clear hK K bw HX_7
        refine wpAnyH_ready (rs := [8]) (by kernel_rfl) (by simp) ?_
        refine AllReadyH.cons rfl (fun K hK => ?_) AllReadyH.nil
        go_simp
        refine (l9Resp_any st _ d k base2 gs _ (HV2.out _ hb8) (by omega)).mono ?_
        rintro e w9 ⟨vv, rfl, ownG, bw⟩
        obtain ⟨oG, pG, rfl⟩ := slice_of_owns ownG
        rw [HLG.out] at ownG ⊢
        have hb9 : Below w.heap.size w (w9) := hb8.trans (bw.mono hb8.size)
        have HM9 : Hid ((w8).heap.size ≤ (w9).heap.size) := bw.size
        have HOX_9 : Hid ((w9).ownsRow w.heap.size 9 1 (.slice oX vl.length pX) vl.length (vl.map Value.string)) := owns_below HOX_8.out bw (fun g hg => owns_lt HOX_8.out hg)
        have HOY_9 : Hid ((w9).ownsRow w.heap.size 9 1 (.slice oY yl.length pY) yl.length (yl.map Value.string)) := owns_below HOY_8.out bw (fun g hg => owns_lt HOY_8.out hg)
        have HBv1_9 : Hid ((w9).heap[qv1]? = some (.cells #[.int .i64 m, .string p, .slice oa n cap, .string b] 38)) := blk_below HBv1_8.out bw
        have HBv2_9 : Hid ((w9).heap[qv2]? = some (.cells #[.int .i64 st, .slice ob k cb, .string d] 32)) := blk_below HBv2_8.out bw
        have HBv3_9 : Hid ((w9).heap[qv3]? = some (.cells #[.string ⟨#[]⟩, .slice none 0 0, .slice none 0 0, .int .i64 0, .slice none 0 0, .string ⟨#[]⟩, .int .i64 0] 34)) := blk_below HBv3_8.out bw
        have HOG_9 : Hid ((w9).ownsRow w.heap.size 75 2 (.slice oG k pG) k (flatF gs)) := owns_wide ownG hb8.size
        have LOG : Hid (∀ g, (Value.ownBlock (.slice oG k pG)) = some g → (w8).heap.size ≤ g) := fun g hg => owns_ge ownG hg
        have HIG : Hid (∀ g, (Value.ownBlock (.slice oG k pG)) = some g → g < (w9).heap.size) := fun g hg => owns_lt ownG hg
        clear ownG
        clear hb8 HOX_8 HOY_8 HBv1_8 HBv2_8 HBv3_8
        have HX_9 : Hid (Below w5.heap.size w5 w9) := HX_8.out.trans (bw.mono HX_8.out.size)
        have HPA_9 : Hid (w9.heap[pa]? = some (.cells #[.string ⟨#[]⟩, .slice none 0 0, .slice none 0 0, .int .i64 0, .slice none 0 0, .string ⟨#[]⟩, .int .i64 0] 34)) := blk_below HPA_8.out bw
        have HRXY_9 : Hid ((w9).ownsRow w5.heap.size 9 1 (.slice oY yl.length pY) yl.length (yl.map Value.string)) := owns_below HRXY_8.out bw (fun g hg => owns_lt HRXY_8.out hg)
        have HRXG_9 : Hid ((w9).ownsRow w5.heap.size 75 2 (.slice oG k pG) k (flatF gs)) := owns_lift HOG_9.out (fun g hg => Nat.le_trans HX_8.out.size (LOG.out g hg))
        refine hK.out _ _ (HSS.out _ HX_9.out) (fun _ => ?_)
        clear hK K bw HX_8
        refine wpAnyH_takeD (i := 10) (v := .agg #[.string p, .slice oX vl.length pX, .slice oY yl.length pY, .int .i64 st, .slice oG k pG, .string d, .int .i64 t]) (some 28) rfl rfl (by kernel_rfl) (by kernel_rfl) (by kernel_rfl) (fun _ _ _ h => h) (Or.inl ⟨by rfl, by intro W _; go_simp⟩) (HSS.out _ HX_9.out) ?_
        simp only [Act.put, List.setIfInBounds_toArray, List.set_cons_zero, List.set_cons_succ]
        refine wpAnyH_ready (rs := [12]) (by kernel_rfl) (by simp) ?_
        refine AllReadyH.cons rfl (fun K hK => ?_) AllReadyH.nil
        have ce0 : w9.cell? ⟨pa, 0, none⟩ = some (.string ⟨#[]⟩) := (cell_of HPA_9.out 0).trans rfl
        have fe0 : w9.frozen? ⟨pa, 0, none⟩ = false := frozen_of HPA_9.out 0
        have ce1 : w9.cell? ⟨pa, 1, none⟩ = some (.slice none 0 0) := (cell_of HPA_9.out 1).trans rfl
        have fe1 : w9.frozen? ⟨pa, 1, none⟩ = false := frozen_of HPA_9.out 1
        have ce2 : w9.cell? ⟨pa, 2, none⟩ = some (.slice none 0 0) := (cell_of HPA_9.out 2).trans rfl
        have fe2 : w9.frozen? ⟨pa, 2, none⟩ = false := frozen_of HPA_9.out 2
        have ce3 : w9.cell? ⟨pa, 3, none⟩ = some (.int .i64 0) := (cell_of HPA_9.out 3).trans rfl
        have fe3 : w9.frozen? ⟨pa, 3, none⟩ = false := frozen_of HPA_9.out 3
        have ce4 : w9.cell? ⟨pa, 4, none⟩ = some (.slice none 0 0) := (cell_of HPA_9.out 4).trans rfl
        have fe4 : w9.frozen? ⟨pa, 4, none⟩ = false := frozen_of HPA_9.out 4
        have ce5 : w9.cell? ⟨pa, 5, none⟩ = some (.string ⟨#[]⟩) := (cell_of HPA_9.out 5).trans rfl
        have fe5 : w9.frozen? ⟨pa, 5, none⟩ = false := frozen_of HPA_9.out 5
        have ce6 : w9.cell? ⟨pa, 6, none⟩ = some (.int .i64 0) := (cell_of HPA_9.out 6).trans rfl
        have fe6 : w9.frozen? ⟨pa, 6, none⟩ = false := frozen_of HPA_9.out 6
        obtain ⟨w10, hY⟩ : ∃ Y, Y = (((((((w9.setCell ⟨pa, 0, none⟩ (.string p)).setCell ⟨pa, 1, none⟩ (.slice oX vl.length pX)).setCell ⟨pa, 2, none⟩ (.slice oY yl.length pY)).setCell ⟨pa, 3, none⟩ (.int .i64 st)).setCell ⟨pa, 4, none⟩ (.slice oG k pG)).setCell ⟨pa, 5, none⟩ (.string d)).setCell ⟨pa, 6, none⟩ (.int .i64 t)) := ⟨_, rfl⟩
        have HY : Hid ((((((((w9.setCell ⟨pa, 0, none⟩ (.string p)).setCell ⟨pa, 1, none⟩ (.slice oX vl.length pX)).setCell ⟨pa, 2, none⟩ (.slice oY yl.length pY)).setCell ⟨pa, 3, none⟩ (.int .i64 st)).setCell ⟨pa, 4, none⟩ (.slice oG k pG)).setCell ⟨pa, 5, none⟩ (.string d)).setCell ⟨pa, 6, none⟩ (.int .i64 t)) = w10) := hY.symm
        have HX_10 : Hid (Below w5.heap.size w5 w10) := by show Below _ _ _; rw [hY]; exact (((((((HX_9.out.setCell (p := ⟨pa, 0, none⟩) HGA.out _).setCell (p := ⟨pa, 1, none⟩) HGA.out _).setCell (p := ⟨pa, 2, none⟩) HGA.out _).setCell (p := ⟨pa, 3, none⟩) HGA.out _).setCell (p := ⟨pa, 4, none⟩) HGA.out _).setCell (p := ⟨pa, 5, none⟩) HGA.out _).setCell (p := ⟨pa, 6, none⟩) HGA.out _)
        have HPA_10 : Hid (w10.heap[pa]? = some (.cells #[.string p, .slice oX vl.length pX, .slice oY yl.length pY, .int .i64 st, .slice oG k pG, .string d, .int .i64 t] 34)) := by show _ = _; rw [hY]; have h := (heap_set _ pa 6 _ _ _ (.int .i64 t) (heap_set _ pa 5 _ _ _ (.string d) (heap_set _ pa 4 _ _ _ (.slice oG k pG) (heap_set _ pa 3 _ _ _ (.int .i64 st) (heap_set _ pa 2 _ _ _ (.slice oY yl.length pY) (heap_set _ pa 1 _ _ _ (.slice oX vl.length pX) (heap_set _ pa 0 _ _ _ (.string p) HPA_9.out))))))); simpa using h
        have HRXY_10 : Hid ((w10).ownsRow w5.heap.size 9 1 (.slice oY yl.length pY) yl.length (yl.map Value.string)) := by show World.ownsRow _ _ _ _ _ _ _; rw [hY]; exact owns_same HRXY_9.out (fun g hg => by have hne := own_ne HRXY_9.out HPA_9.out (by decide) g hg; rw [heap_setCell_other _ _ g _ hne, heap_setCell_other _ _ g _ hne, heap_setCell_other _ _ g _ hne, heap_setCell_other _ _ g _ hne, heap_setCell_other _ _ g _ hne, heap_setCell_other _ _ g _ hne, heap_setCell_other _ _ g _ hne])
        have HRXG_10 : Hid ((w10).ownsRow w5.heap.size 75 2 (.slice oG k pG) k (flatF gs)) := by show World.ownsRow _ _ _ _ _ _ _; rw [hY]; exact owns_same HRXG_9.out (fun g hg => by have hne := own_ne HRXG_9.out HPA_9.out (by decide) g hg; rw [heap_setCell_other _ _ g _ hne, heap_setCell_other _ _ g _ hne, heap_setCell_other _ _ g _ hne, heap_setCell_other _ _ g _ hne, heap_setCell_other _ _ g _ hne, heap_setCell_other _ _ g _ hne, heap_setCell_other _ _ g _ hne])
        clear hY hb9 HOX_9 HOY_9 HOG_9 HBv1_9 HBv2_9 HBv3_9
        go_simp
        rw [HY.out]
        refine hK.out _ _ (HSS.out _ HX_10.out) (fun _ => ?_)
        clear hK K HY ce0 fe0 ce1 fe1 ce2 fe2 ce3 fe3 ce4 fe4 ce5 fe5 ce6 fe6
        refine wpAnyH_done (by kernel_rfl) ?_ _
        go_wp2_with fail
        go_meet
        exact ⟨pa, oY, pY, oG, pG, rfl, ⟨HX_10.out, HPA_10.out, HGA.out, HRXY_10.out, HRXG_10.out⟩⟩
    case rest =>
    obtain ⟨qv4, oY, pY, oG, pG, hsx, HF⟩ := hcut
    rw [hsx]
    obtain ⟨w6, hwj⟩ : ∃ W, W = wc := ⟨_, rfl⟩
    rw [← hwj] at HF ⊢
    clear hsx hwj HSS
    obtain ⟨bw, hcell, hga, ownY, ownG⟩ := HF.out
    have HNv1v4 : Hid (qv1 ≠ qv4) := fun e => by have h1 := (Array.getElem?_eq_some_iff.1 HBv1_5.out).1; omega
    have HNv2v4 : Hid (qv2 ≠ qv4) := fun e => by have h1 := (Array.getElem?_eq_some_iff.1 HBv2_5.out).1; omega
    have HNv3v4 : Hid (qv3 ≠ qv4) := fun e => by have h1 := (Array.getElem?_eq_some_iff.1 HBv3_5.out).1; omega
    have hb6 : Below w.heap.size w (w6) := hb5.trans (bw.mono hb5.size)
    have HM6 : Hid ((w5).heap.size ≤ (w6).heap.size) := bw.size
    have HOX_6 : Hid ((w6).ownsRow w.heap.size 9 1 (.slice oX vl.length pX) vl.length (vl.map Value.string)) := owns_below HOX_5.out bw (fun g hg => owns_lt HOX_5.out hg)
    have HBv1_6 : Hid ((w6).heap[qv1]? = some (.cells #[.int .i64 m, .string p, .slice oa n cap, .string b] 38)) := blk_below HBv1_5.out bw
    have HBv2_6 : Hid ((w6).heap[qv2]? = some (.cells #[.int .i64 st, .slice ob k cb, .string d] 32)) := blk_below HBv2_5.out bw
    have HBv3_6 : Hid ((w6).heap[qv3]? = some (.cells #[.string ⟨#[]⟩, .slice none 0 0, .slice none 0 0, .int .i64 0, .slice none 0 0, .string ⟨#[]⟩, .int .i64 0] 34)) := blk_below HBv3_5.out bw
    have HOY_6 : Hid ((w6).ownsRow w.heap.size 9 1 (.slice oY yl.length pY) yl.length (yl.map Value.string)) := owns_wide ownY hb5.size
    have LOY : Hid (∀ g, (Value.ownBlock (.slice oY yl.length pY)) = some g → (w5).heap.size ≤ g) := fun g hg => owns_ge ownY hg
    have HIY : Hid (∀ g, (Value.ownBlock (.slice oY yl.length pY)) = some g → g < (w6).heap.size) := fun g hg => owns_lt ownY hg
    have HOG_6 : Hid ((w6).ownsRow w.heap.size 75 2 (.slice oG k pG) k (flatF gs)) := owns_wide ownG hb5.size
    have LOG : Hid (∀ g, (Value.ownBlock (.slice oG k pG)) = some g → (w5).heap.size ≤ g) := fun g hg => owns_ge ownG hg
    have HIG : Hid (∀ g, (Value.ownBlock (.slice oG k pG)) = some g → g < (w6).heap.size) := fun g hg => owns_lt ownG hg
    have HBv4_6 : Hid ((w6).heap[qv4]? = some (.cells #[.string p, .slice oX vl.length pX, .slice oY yl.length pY, .int .i64 st, .slice oG k pG, .string d, .int .i64 t] 34)) := hcell
    have HGv4 : Hid (w.heap.size ≤ qv4) := Nat.le_trans hb5.size hga
    clear hb5 HOX_5 HBv1_5 HBv2_5 HBv3_5 bw hcell hga HF ownY ownG
    have cv4_0 : (w6).cell? ⟨qv4, 0, none⟩ = some (.string p) := (cell_of HBv4_6.out 0).trans rfl
    have cv4_1 : (w6).cell? ⟨qv4, 1, none⟩ = some (.slice oX vl.length pX) := (cell_of HBv4_6.out 1).trans rfl
    have cv4_2 : (w6).cell? ⟨qv4, 2, none⟩ = some (.slice oY yl.length pY) := (cell_of HBv4_6.out 2).trans rfl
    have cv4_3 : (w6).cell? ⟨qv4, 3, none⟩ = some (.int .i64 st) := (cell_of HBv4_6.out 3).trans rfl
    have cv4_4 : (w6).cell? ⟨qv4, 4, none⟩ = some (.slice oG k pG) := (cell_of HBv4_6.out 4).trans rfl
    have cv4_5 : (w6).cell? ⟨qv4, 5, none⟩ = some (.string d) := (cell_of HBv4_6.out 5).trans rfl
    have cv4_6 : (w6).cell? ⟨qv4, 6, none⟩ = some (.int .i64 t) := (cell_of HBv4_6.out 6).trans rfl
    go_wp2_with fail
    refine (specObjOk_any p _ vl.length _ vl _ yl.length _ yl st _ k _ gs d t _ (texts_view HOX_6.out) (texts_view HOY_6.out) (FieldsV.of_owns HOG_6.out) (by have := HVZ.out.1; omega) (by have := HVZ.out.1; have := HYZ.out.1; omega) (by omega) HVZ.out.2 HYZ.out.2 HS2.out HPM.out HDM.out HG3.out).mono ?_
    rintro e w7 ⟨u2, rfl, htu2, bw⟩
    have hb7 : Below w.heap.size w (w7) := hb6.trans (bw.mono hb6.size)
    have HM7 : Hid ((w6).heap.size ≤ (w7).heap.size) := bw.size
    have HOX_7 : Hid ((w7).ownsRow w.heap.size 9 1 (.slice oX vl.length pX) vl.length (vl.map Value.string)) := owns_below HOX_6.out bw (fun g hg => owns_lt HOX_6.out hg)
    have HOY_7 : Hid ((w7).ownsRow w.heap.size 9 1 (.slice oY yl.length pY) yl.length (yl.map Value.string)) := owns_below HOY_6.out bw (fun g hg => owns_lt HOY_6.out hg)
    have HOG_7 : Hid ((w7).ownsRow w.heap.size 75 2 (.slice oG k pG) k (flatF gs)) := owns_below HOG_6.out bw (fun g hg => owns_lt HOG_6.out hg)
    have HBv1_7 : Hid ((w7).heap[qv1]? = some (.cells #[.int .i64 m, .string p, .slice oa n cap, .string b] 38)) := blk_below HBv1_6.out bw
    have HBv2_7 : Hid ((w7).heap[qv2]? = some (.cells #[.int .i64 st, .slice ob k cb, .string d] 32)) := blk_below HBv2_6.out bw
    have HBv3_7 : Hid ((w7).heap[qv3]? = some (.cells #[.string ⟨#[]⟩, .slice none 0 0, .slice none 0 0, .int .i64 0, .slice none 0 0, .string ⟨#[]⟩, .int .i64 0] 34)) := blk_below HBv3_6.out bw
    have HBv4_7 : Hid ((w7).heap[qv4]? = some (.cells #[.string p, .slice oX vl.length pX, .slice oY yl.length pY, .int .i64 st, .slice oG k pG, .string d, .int .i64 t] 34)) := blk_below HBv4_6.out bw
    clear hb6 HOX_6 HOY_6 HOG_6 HBv1_6 HBv2_6 HBv3_6 HBv4_6 bw
    clear cv4_0 cv4_1 cv4_2 cv4_3 cv4_4 cv4_5 cv4_6
    cases u2 with
    | false =>
      have HF : Hid (¬ (MayP m p fs b st gs d ∧ ObjP p vl yl st gs d t)) := fun h => nomatch htu2.2 h.2
      clear htu2
      have cv3_0 : (w7).cell? ⟨qv3, 0, none⟩ = some (.string ⟨#[]⟩) := (cell_of HBv3_7.out 0).trans rfl
      have fcv3_0 : (w7).frozen? ⟨qv3, 0, none⟩ = false := frozen_of HBv3_7.out 0
      have cv3_1 : (w7).cell? ⟨qv3, 1, none⟩ = some (.slice none 0 0) := (cell_of HBv3_7.out 1).trans rfl
      have fcv3_1 : (w7).frozen? ⟨qv3, 1, none⟩ = false := frozen_of HBv3_7.out 1
      have cv3_2 : (w7).cell? ⟨qv3, 2, none⟩ = some (.slice none 0 0) := (cell_of HBv3_7.out 2).trans rfl
      have fcv3_2 : (w7).frozen? ⟨qv3, 2, none⟩ = false := frozen_of HBv3_7.out 2
      have cv3_3 : (w7).cell? ⟨qv3, 3, none⟩ = some (.int .i64 0) := (cell_of HBv3_7.out 3).trans rfl
      have fcv3_3 : (w7).frozen? ⟨qv3, 3, none⟩ = false := frozen_of HBv3_7.out 3
      have cv3_4 : (w7).cell? ⟨qv3, 4, none⟩ = some (.slice none 0 0) := (cell_of HBv3_7.out 4).trans rfl
      have fcv3_4 : (w7).frozen? ⟨qv3, 4, none⟩ = false := frozen_of HBv3_7.out 4
      have cv3_5 : (w7).cell? ⟨qv3, 5, none⟩ = some (.string ⟨#[]⟩) := (cell_of HBv3_7.out 5).trans rfl
      have fcv3_5 : (w7).frozen? ⟨qv3, 5, none⟩ = false := frozen_of HBv3_7.out 5
      have cv3_6 : (w7).cell? ⟨qv3, 6, none⟩ = some (.int .i64 0) := (cell_of HBv3_7.out 6).trans rfl
      have fcv3_6 : (w7).frozen? ⟨qv3, 6, none⟩ = false := frozen_of HBv3_7.out 6
      go_wp2_with fail
      obtain ⟨w8, hW8⟩ : ∃ W, W = (w7).setCell ⟨qv3, 0, none⟩ (.string ⟨#[]⟩) := ⟨_, rfl⟩
      rw [← hW8]
      have hb8 : Below w.heap.size w w8 := by rw [hW8]; exact hb7.setCell (p := ⟨qv3, 0, none⟩) HGv3.out _
      have HM8 : Hid ((w7).heap.size ≤ w8.heap.size) := by show _ ≤ _; rw [hW8]; simp
      have HOX_8 : Hid ((w8).ownsRow w.heap.size 9 1 (.slice oX vl.length pX) vl.length (vl.map Value.string)) := by show World.ownsRow _ _ _ _ _ _ _; rw [hW8]; exact owns_same HOX_7.out (fun g hg => heap_setCell_other _ _ g _ (own_ne HOX_7.out HBv3_7.out (by decide) g hg))
      have HOY_8 : Hid ((w8).ownsRow w.heap.size 9 1 (.slice oY yl.length pY) yl.length (yl.map Value.string)) := by show World.ownsRow _ _ _ _ _ _ _; rw [hW8]; exact owns_same HOY_7.out (fun g hg => heap_setCell_other _ _ g _ (own_ne HOY_7.out HBv3_7.out (by decide) g hg))
      have HOG_8 : Hid ((w8).ownsRow w.heap.size 75 2 (.slice oG k pG) k (flatF gs)) := by show World.ownsRow _ _ _ _ _ _ _; rw [hW8]; exact owns_same HOG_7.out (fun g hg => heap_setCell_other _ _ g _ (own_ne HOG_7.out HBv3_7.out (by decide) g hg))
      have HBv1_8 : Hid ((w8).heap[qv1]? = some (.cells #[.int .i64 m, .string p, .slice oa n cap, .string b] 38)) := by show _ = _; rw [hW8, heap_setCell_other _ _ _ _ HNv1v3.out]; exact HBv1_7.out
      have HBv2_8 : Hid ((w8).heap[qv2]? = some (.cells #[.int .i64 st, .slice ob k cb, .string d] 32)) := by show _ = _; rw [hW8, heap_setCell_other _ _ _ _ HNv2v3.out]; exact HBv2_7.out
      have HBv4_8 : Hid ((w8).heap[qv4]? = some (.cells #[.string p, .slice oX vl.length pX, .slice oY yl.length pY, .int .i64 st, .slice oG k pG, .string d, .int .i64 t] 34)) := by show _ = _; rw [hW8, heap_setCell_other _ _ _ _ HNv3v4.out.symm]; exact HBv4_7.out
      have HBv3_8 : Hid ((w8).heap[qv3]? = some (.cells #[.string ⟨#[]⟩, .slice none 0 0, .slice none 0 0, .int .i64 0, .slice none 0 0, .string ⟨#[]⟩, .int .i64 0] 34)) := by show _ = _; rw [hW8]; have h := heap_set _ _ 0 _ _ _ (.string ⟨#[]⟩) HBv3_7.out; simpa using h
      clear hb7 HOX_7 HOY_7 HOG_7 HBv1_7 HBv2_7 HBv3_7 HBv4_7 hW8
      obtain ⟨w9, hW9⟩ : ∃ W, W = (w8).setCell ⟨qv3, 1, none⟩ (.slice none 0 0) := ⟨_, rfl⟩
      rw [← hW9]
      have hb9 : Below w.heap.size w w9 := by rw [hW9]; exact hb8.setCell (p := ⟨qv3, 1, none⟩) HGv3.out _
      have HM9 : Hid ((w8).heap.size ≤ w9.heap.size) := by show _ ≤ _; rw [hW9]; simp
      have HOX_9 : Hid ((w9).ownsRow w.heap.size 9 1 (.slice oX vl.length pX) vl.length (vl.map Value.string)) := by show World.ownsRow _ _ _ _ _ _ _; rw [hW9]; exact owns_same HOX_8.out (fun g hg => heap_setCell_other _ _ g _ (own_ne HOX_8.out HBv3_8.out (by decide) g hg))
      have HOY_9 : Hid ((w9).ownsRow w.heap.size 9 1 (.slice oY yl.length pY) yl.length (yl.map Value.string)) := by show World.ownsRow _ _ _ _ _ _ _; rw [hW9]; exact owns_same HOY_8.out (fun g hg => heap_setCell_other _ _ g _ (own_ne HOY_8.out HBv3_8.out (by decide) g hg))
      have HOG_9 : Hid ((w9).ownsRow w.heap.size 75 2 (.slice oG k pG) k (flatF gs)) := by show World.ownsRow _ _ _ _ _ _ _; rw [hW9]; exact owns_same HOG_8.out (fun g hg => heap_setCell_other _ _ g _ (own_ne HOG_8.out HBv3_8.out (by decide) g hg))
      have HBv1_9 : Hid ((w9).heap[qv1]? = some (.cells #[.int .i64 m, .string p, .slice oa n cap, .string b] 38)) := by show _ = _; rw [hW9, heap_setCell_other _ _ _ _ HNv1v3.out]; exact HBv1_8.out
      have HBv2_9 : Hid ((w9).heap[qv2]? = some (.cells #[.int .i64 st, .slice ob k cb, .string d] 32)) := by show _ = _; rw [hW9, heap_setCell_other _ _ _ _ HNv2v3.out]; exact HBv2_8.out
      have HBv4_9 : Hid ((w9).heap[qv4]? = some (.cells #[.string p, .slice oX vl.length pX, .slice oY yl.length pY, .int .i64 st, .slice oG k pG, .string d, .int .i64 t] 34)) := by show _ = _; rw [hW9, heap_setCell_other _ _ _ _ HNv3v4.out.symm]; exact HBv4_8.out
      have HBv3_9 : Hid ((w9).heap[qv3]? = some (.cells #[.string ⟨#[]⟩, .slice none 0 0, .slice none 0 0, .int .i64 0, .slice none 0 0, .string ⟨#[]⟩, .int .i64 0] 34)) := by show _ = _; rw [hW9]; have h := heap_set _ _ 1 _ _ _ (.slice none 0 0) HBv3_8.out; simpa using h
      clear hb8 HOX_8 HOY_8 HOG_8 HBv1_8 HBv2_8 HBv3_8 HBv4_8 hW9
      obtain ⟨w10, hW10⟩ : ∃ W, W = (w9).setCell ⟨qv3, 2, none⟩ (.slice none 0 0) := ⟨_, rfl⟩
      rw [← hW10]
      have hb10 : Below w.heap.size w w10 := by rw [hW10]; exact hb9.setCell (p := ⟨qv3, 2, none⟩) HGv3.out _
      have HM10 : Hid ((w9).heap.size ≤ w10.heap.size) := by show _ ≤ _; rw [hW10]; simp
      have HOX_10 : Hid ((w10).ownsRow w.heap.size 9 1 (.slice oX vl.length pX) vl.length (vl.map Value.string)) := by show World.ownsRow _ _ _ _ _ _ _; rw [hW10]; exact owns_same HOX_9.out (fun g hg => heap_setCell_other _ _ g _ (own_ne HOX_9.out HBv3_9.out (by decide) g hg))
      have HOY_10 : Hid ((w10).ownsRow w.heap.size 9 1 (.slice oY yl.length pY) yl.length (yl.map Value.string)) := by show World.ownsRow _ _ _ _ _ _ _; rw [hW10]; exact owns_same HOY_9.out (fun g hg => heap_setCell_other _ _ g _ (own_ne HOY_9.out HBv3_9.out (by decide) g hg))
      have HOG_10 : Hid ((w10).ownsRow w.heap.size 75 2 (.slice oG k pG) k (flatF gs)) := by show World.ownsRow _ _ _ _ _ _ _; rw [hW10]; exact owns_same HOG_9.out (fun g hg => heap_setCell_other _ _ g _ (own_ne HOG_9.out HBv3_9.out (by decide) g hg))
      have HBv1_10 : Hid ((w10).heap[qv1]? = some (.cells #[.int .i64 m, .string p, .slice oa n cap, .string b] 38)) := by show _ = _; rw [hW10, heap_setCell_other _ _ _ _ HNv1v3.out]; exact HBv1_9.out
      have HBv2_10 : Hid ((w10).heap[qv2]? = some (.cells #[.int .i64 st, .slice ob k cb, .string d] 32)) := by show _ = _; rw [hW10, heap_setCell_other _ _ _ _ HNv2v3.out]; exact HBv2_9.out
      have HBv4_10 : Hid ((w10).heap[qv4]? = some (.cells #[.string p, .slice oX vl.length pX, .slice oY yl.length pY, .int .i64 st, .slice oG k pG, .string d, .int .i64 t] 34)) := by show _ = _; rw [hW10, heap_setCell_other _ _ _ _ HNv3v4.out.symm]; exact HBv4_9.out
      have HBv3_10 : Hid ((w10).heap[qv3]? = some (.cells #[.string ⟨#[]⟩, .slice none 0 0, .slice none 0 0, .int .i64 0, .slice none 0 0, .string ⟨#[]⟩, .int .i64 0] 34)) := by show _ = _; rw [hW10]; have h := heap_set _ _ 2 _ _ _ (.slice none 0 0) HBv3_9.out; simpa using h
      clear hb9 HOX_9 HOY_9 HOG_9 HBv1_9 HBv2_9 HBv3_9 HBv4_9 hW10
      obtain ⟨w11, hW11⟩ : ∃ W, W = (w10).setCell ⟨qv3, 3, none⟩ (.int .i64 0) := ⟨_, rfl⟩
      rw [← hW11]
      have hb11 : Below w.heap.size w w11 := by rw [hW11]; exact hb10.setCell (p := ⟨qv3, 3, none⟩) HGv3.out _
      have HM11 : Hid ((w10).heap.size ≤ w11.heap.size) := by show _ ≤ _; rw [hW11]; simp
      have HOX_11 : Hid ((w11).ownsRow w.heap.size 9 1 (.slice oX vl.length pX) vl.length (vl.map Value.string)) := by show World.ownsRow _ _ _ _ _ _ _; rw [hW11]; exact owns_same HOX_10.out (fun g hg => heap_setCell_other _ _ g _ (own_ne HOX_10.out HBv3_10.out (by decide) g hg))
      have HOY_11 : Hid ((w11).ownsRow w.heap.size 9 1 (.slice oY yl.length pY) yl.length (yl.map Value.string)) := by show World.ownsRow _ _ _ _ _ _ _; rw [hW11]; exact owns_same HOY_10.out (fun g hg => heap_setCell_other _ _ g _ (own_ne HOY_10.out HBv3_10.out (by decide) g hg))
      have HOG_11 : Hid ((w11).ownsRow w.heap.size 75 2 (.slice oG k pG) k (flatF gs)) := by show World.ownsRow _ _ _ _ _ _ _; rw [hW11]; exact owns_same HOG_10.out (fun g hg => heap_setCell_other _ _ g _ (own_ne HOG_10.out HBv3_10.out (by decide) g hg))
      have HBv1_11 : Hid ((w11).heap[qv1]? = some (.cells #[.int .i64 m, .string p, .slice oa n cap, .string b] 38)) := by show _ = _; rw [hW11, heap_setCell_other _ _ _ _ HNv1v3.out]; exact HBv1_10.out
      have HBv2_11 : Hid ((w11).heap[qv2]? = some (.cells #[.int .i64 st, .slice ob k cb, .string d] 32)) := by show _ = _; rw [hW11, heap_setCell_other _ _ _ _ HNv2v3.out]; exact HBv2_10.out
      have HBv4_11 : Hid ((w11).heap[qv4]? = some (.cells #[.string p, .slice oX vl.length pX, .slice oY yl.length pY, .int .i64 st, .slice oG k pG, .string d, .int .i64 t] 34)) := by show _ = _; rw [hW11, heap_setCell_other _ _ _ _ HNv3v4.out.symm]; exact HBv4_10.out
      have HBv3_11 : Hid ((w11).heap[qv3]? = some (.cells #[.string ⟨#[]⟩, .slice none 0 0, .slice none 0 0, .int .i64 0, .slice none 0 0, .string ⟨#[]⟩, .int .i64 0] 34)) := by show _ = _; rw [hW11]; have h := heap_set _ _ 3 _ _ _ (.int .i64 0) HBv3_10.out; simpa using h
      clear hb10 HOX_10 HOY_10 HOG_10 HBv1_10 HBv2_10 HBv3_10 HBv4_10 hW11
      obtain ⟨w12, hW12⟩ : ∃ W, W = (w11).setCell ⟨qv3, 4, none⟩ (.slice none 0 0) := ⟨_, rfl⟩
      rw [← hW12]
      have hb12 : Below w.heap.size w w12 := by rw [hW12]; exact hb11.setCell (p := ⟨qv3, 4, none⟩) HGv3.out _
      have HM12 : Hid ((w11).heap.size ≤ w12.heap.size) := by show _ ≤ _; rw [hW12]; simp
      have HOX_12 : Hid ((w12).ownsRow w.heap.size 9 1 (.slice oX vl.length pX) vl.length (vl.map Value.string)) := by show World.ownsRow _ _ _ _ _ _ _; rw [hW12]; exact owns_same HOX_11.out (fun g hg => heap_setCell_other _ _ g _ (own_ne HOX_11.out HBv3_11.out (by decide) g hg))
      have HOY_12 : Hid ((w12).ownsRow w.heap.size 9 1 (.slice oY yl.length pY) yl.length (yl.map Value.string)) := by show World.ownsRow _ _ _ _ _ _ _; rw [hW12]; exact owns_same HOY_11.out (fun g hg => heap_setCell_other _ _ g _ (own_ne HOY_11.out HBv3_11.out (by decide) g hg))
      have HOG_12 : Hid ((w12).ownsRow w.heap.size 75 2 (.slice oG k pG) k (flatF gs)) := by show World.ownsRow _ _ _ _ _ _ _; rw [hW12]; exact owns_same HOG_11.out (fun g hg => heap_setCell_other _ _ g _ (own_ne HOG_11.out HBv3_11.out (by decide) g hg))
      have HBv1_12 : Hid ((w12).heap[qv1]? = some (.cells #[.int .i64 m, .string p, .slice oa n cap, .string b] 38)) := by show _ = _; rw [hW12, heap_setCell_other _ _ _ _ HNv1v3.out]; exact HBv1_11.out
      have HBv2_12 : Hid ((w12).heap[qv2]? = some (.cells #[.int .i64 st, .slice ob k cb, .string d] 32)) := by show _ = _; rw [hW12, heap_setCell_other _ _ _ _ HNv2v3.out]; exact HBv2_11.out
      have HBv4_12 : Hid ((w12).heap[qv4]? = some (.cells #[.string p, .slice oX vl.length pX, .slice oY yl.length pY, .int .i64 st, .slice oG k pG, .string d, .int .i64 t] 34)) := by show _ = _; rw [hW12, heap_setCell_other _ _ _ _ HNv3v4.out.symm]; exact HBv4_11.out
      have HBv3_12 : Hid ((w12).heap[qv3]? = some (.cells #[.string ⟨#[]⟩, .slice none 0 0, .slice none 0 0, .int .i64 0, .slice none 0 0, .string ⟨#[]⟩, .int .i64 0] 34)) := by show _ = _; rw [hW12]; have h := heap_set _ _ 4 _ _ _ (.slice none 0 0) HBv3_11.out; simpa using h
      clear hb11 HOX_11 HOY_11 HOG_11 HBv1_11 HBv2_11 HBv3_11 HBv4_11 hW12
      obtain ⟨w13, hW13⟩ : ∃ W, W = (w12).setCell ⟨qv3, 5, none⟩ (.string ⟨#[]⟩) := ⟨_, rfl⟩
      rw [← hW13]
      have hb13 : Below w.heap.size w w13 := by rw [hW13]; exact hb12.setCell (p := ⟨qv3, 5, none⟩) HGv3.out _
      have HM13 : Hid ((w12).heap.size ≤ w13.heap.size) := by show _ ≤ _; rw [hW13]; simp
      have HOX_13 : Hid ((w13).ownsRow w.heap.size 9 1 (.slice oX vl.length pX) vl.length (vl.map Value.string)) := by show World.ownsRow _ _ _ _ _ _ _; rw [hW13]; exact owns_same HOX_12.out (fun g hg => heap_setCell_other _ _ g _ (own_ne HOX_12.out HBv3_12.out (by decide) g hg))
      have HOY_13 : Hid ((w13).ownsRow w.heap.size 9 1 (.slice oY yl.length pY) yl.length (yl.map Value.string)) := by show World.ownsRow _ _ _ _ _ _ _; rw [hW13]; exact owns_same HOY_12.out (fun g hg => heap_setCell_other _ _ g _ (own_ne HOY_12.out HBv3_12.out (by decide) g hg))
      have HOG_13 : Hid ((w13).ownsRow w.heap.size 75 2 (.slice oG k pG) k (flatF gs)) := by show World.ownsRow _ _ _ _ _ _ _; rw [hW13]; exact owns_same HOG_12.out (fun g hg => heap_setCell_other _ _ g _ (own_ne HOG_12.out HBv3_12.out (by decide) g hg))
      have HBv1_13 : Hid ((w13).heap[qv1]? = some (.cells #[.int .i64 m, .string p, .slice oa n cap, .string b] 38)) := by show _ = _; rw [hW13, heap_setCell_other _ _ _ _ HNv1v3.out]; exact HBv1_12.out
      have HBv2_13 : Hid ((w13).heap[qv2]? = some (.cells #[.int .i64 st, .slice ob k cb, .string d] 32)) := by show _ = _; rw [hW13, heap_setCell_other _ _ _ _ HNv2v3.out]; exact HBv2_12.out
      have HBv4_13 : Hid ((w13).heap[qv4]? = some (.cells #[.string p, .slice oX vl.length pX, .slice oY yl.length pY, .int .i64 st, .slice oG k pG, .string d, .int .i64 t] 34)) := by show _ = _; rw [hW13, heap_setCell_other _ _ _ _ HNv3v4.out.symm]; exact HBv4_12.out
      have HBv3_13 : Hid ((w13).heap[qv3]? = some (.cells #[.string ⟨#[]⟩, .slice none 0 0, .slice none 0 0, .int .i64 0, .slice none 0 0, .string ⟨#[]⟩, .int .i64 0] 34)) := by show _ = _; rw [hW13]; have h := heap_set _ _ 5 _ _ _ (.string ⟨#[]⟩) HBv3_12.out; simpa using h
      clear hb12 HOX_12 HOY_12 HOG_12 HBv1_12 HBv2_12 HBv3_12 HBv4_12 hW13
      obtain ⟨w14, hW14⟩ : ∃ W, W = (w13).setCell ⟨qv3, 6, none⟩ (.int .i64 0) := ⟨_, rfl⟩
      rw [← hW14]
      have hb14 : Below w.heap.size w w14 := by rw [hW14]; exact hb13.setCell (p := ⟨qv3, 6, none⟩) HGv3.out _
      have HM14 : Hid ((w13).heap.size ≤ w14.heap.size) := by show _ ≤ _; rw [hW14]; simp
      have HOX_14 : Hid ((w14).ownsRow w.heap.size 9 1 (.slice oX vl.length pX) vl.length (vl.map Value.string)) := by show World.ownsRow _ _ _ _ _ _ _; rw [hW14]; exact owns_same HOX_13.out (fun g hg => heap_setCell_other _ _ g _ (own_ne HOX_13.out HBv3_13.out (by decide) g hg))
      have HOY_14 : Hid ((w14).ownsRow w.heap.size 9 1 (.slice oY yl.length pY) yl.length (yl.map Value.string)) := by show World.ownsRow _ _ _ _ _ _ _; rw [hW14]; exact owns_same HOY_13.out (fun g hg => heap_setCell_other _ _ g _ (own_ne HOY_13.out HBv3_13.out (by decide) g hg))
      have HOG_14 : Hid ((w14).ownsRow w.heap.size 75 2 (.slice oG k pG) k (flatF gs)) := by show World.ownsRow _ _ _ _ _ _ _; rw [hW14]; exact owns_same HOG_13.out (fun g hg => heap_setCell_other _ _ g _ (own_ne HOG_13.out HBv3_13.out (by decide) g hg))
      have HBv1_14 : Hid ((w14).heap[qv1]? = some (.cells #[.int .i64 m, .string p, .slice oa n cap, .string b] 38)) := by show _ = _; rw [hW14, heap_setCell_other _ _ _ _ HNv1v3.out]; exact HBv1_13.out
      have HBv2_14 : Hid ((w14).heap[qv2]? = some (.cells #[.int .i64 st, .slice ob k cb, .string d] 32)) := by show _ = _; rw [hW14, heap_setCell_other _ _ _ _ HNv2v3.out]; exact HBv2_13.out
      have HBv4_14 : Hid ((w14).heap[qv4]? = some (.cells #[.string p, .slice oX vl.length pX, .slice oY yl.length pY, .int .i64 st, .slice oG k pG, .string d, .int .i64 t] 34)) := by show _ = _; rw [hW14, heap_setCell_other _ _ _ _ HNv3v4.out.symm]; exact HBv4_13.out
      have HBv3_14 : Hid ((w14).heap[qv3]? = some (.cells #[.string ⟨#[]⟩, .slice none 0 0, .slice none 0 0, .int .i64 0, .slice none 0 0, .string ⟨#[]⟩, .int .i64 0] 34)) := by show _ = _; rw [hW14]; have h := heap_set _ _ 6 _ _ _ (.int .i64 0) HBv3_13.out; simpa using h
      clear hb13 HOX_13 HOY_13 HOG_13 HBv1_13 HBv2_13 HBv3_13 HBv4_13 hW14
      have kv3_0 : (w14).cell? ⟨qv3, 0, none⟩ = some (.string ⟨#[]⟩) := (cell_of HBv3_14.out 0).trans rfl
      have kv3_1 : (w14).cell? ⟨qv3, 1, none⟩ = some (.slice none 0 0) := (cell_of HBv3_14.out 1).trans rfl
      have kv3_2 : (w14).cell? ⟨qv3, 2, none⟩ = some (.slice none 0 0) := (cell_of HBv3_14.out 2).trans rfl
      have kv3_3 : (w14).cell? ⟨qv3, 3, none⟩ = some (.int .i64 0) := (cell_of HBv3_14.out 3).trans rfl
      have kv3_4 : (w14).cell? ⟨qv3, 4, none⟩ = some (.slice none 0 0) := (cell_of HBv3_14.out 4).trans rfl
      have kv3_5 : (w14).cell? ⟨qv3, 5, none⟩ = some (.string ⟨#[]⟩) := (cell_of HBv3_14.out 5).trans rfl
      have kv3_6 : (w14).cell? ⟨qv3, 6, none⟩ = some (.int .i64 0) := (cell_of HBv3_14.out 6).trans rfl
      refine bodyPost_ret (v := .tuple #[.agg #[.string ⟨#[]⟩, .slice none 0 0, .slice none 0 0, .int .i64 0, .slice none 0 0, .string ⟨#[]⟩, .int .i64 0], .bool false]) (by simp [results, Tryz.results6, go_sem, kv3_0, kv3_1, kv3_2, kv3_3, kv3_4, kv3_5, kv3_6]) rfl ?_
      exact ⟨hb14, .inr ⟨HF.out, rfl⟩⟩
    | true =>
      have HOK : Hid (ObjP p vl yl st gs d t) := htu2.1 rfl
      clear htu2
      have cv3_0 : (w7).cell? ⟨qv3, 0, none⟩ = some (.string ⟨#[]⟩) := (cell_of HBv3_7.out 0).trans rfl
      have fcv3_0 : (w7).frozen? ⟨qv3, 0, none⟩ = false := frozen_of HBv3_7.out 0
      have cv3_1 : (w7).cell? ⟨qv3, 1, none⟩ = some (.slice none 0 0) := (cell_of HBv3_7.out 1).trans rfl
      have fcv3_1 : (w7).frozen? ⟨qv3, 1, none⟩ = false := frozen_of HBv3_7.out 1
      have cv3_2 : (w7).cell? ⟨qv3, 2, none⟩ = some (.slice none 0 0) := (cell_of HBv3_7.out 2).trans rfl
      have fcv3_2 : (w7).frozen? ⟨qv3, 2, none⟩ = false := frozen_of HBv3_7.out 2
      have cv3_3 : (w7).cell? ⟨qv3, 3, none⟩ = some (.int .i64 0) := (cell_of HBv3_7.out 3).trans rfl
      have fcv3_3 : (w7).frozen? ⟨qv3, 3, none⟩ = false := frozen_of HBv3_7.out 3
      have cv3_4 : (w7).cell? ⟨qv3, 4, none⟩ = some (.slice none 0 0) := (cell_of HBv3_7.out 4).trans rfl
      have fcv3_4 : (w7).frozen? ⟨qv3, 4, none⟩ = false := frozen_of HBv3_7.out 4
      have cv3_5 : (w7).cell? ⟨qv3, 5, none⟩ = some (.string ⟨#[]⟩) := (cell_of HBv3_7.out 5).trans rfl
      have fcv3_5 : (w7).frozen? ⟨qv3, 5, none⟩ = false := frozen_of HBv3_7.out 5
      have cv3_6 : (w7).cell? ⟨qv3, 6, none⟩ = some (.int .i64 0) := (cell_of HBv3_7.out 6).trans rfl
      have fcv3_6 : (w7).frozen? ⟨qv3, 6, none⟩ = false := frozen_of HBv3_7.out 6
      have cv4_0 : (w7).cell? ⟨qv4, 0, none⟩ = some (.string p) := (cell_of HBv4_7.out 0).trans rfl
      have cv4_1 : (w7).cell? ⟨qv4, 1, none⟩ = some (.slice oX vl.length pX) := (cell_of HBv4_7.out 1).trans rfl
      have cv4_2 : (w7).cell? ⟨qv4, 2, none⟩ = some (.slice oY yl.length pY) := (cell_of HBv4_7.out 2).trans rfl
      have cv4_3 : (w7).cell? ⟨qv4, 3, none⟩ = some (.int .i64 st) := (cell_of HBv4_7.out 3).trans rfl
      have cv4_4 : (w7).cell? ⟨qv4, 4, none⟩ = some (.slice oG k pG) := (cell_of HBv4_7.out 4).trans rfl
      have cv4_5 : (w7).cell? ⟨qv4, 5, none⟩ = some (.string d) := (cell_of HBv4_7.out 5).trans rfl
      have cv4_6 : (w7).cell? ⟨qv4, 6, none⟩ = some (.int .i64 t) := (cell_of HBv4_7.out 6).trans rfl
      go_wp2_with fail
      obtain ⟨w8, hW8⟩ : ∃ W, W = (w7).setCell ⟨qv3, 0, none⟩ (.string p) := ⟨_, rfl⟩
      rw [← hW8]
      have hb8 : Below w.heap.size w w8 := by rw [hW8]; exact hb7.setCell (p := ⟨qv3, 0, none⟩) HGv3.out _
      have HM8 : Hid ((w7).heap.size ≤ w8.heap.size) := by show _ ≤ _; rw [hW8]; simp
      have HOX_8 : Hid ((w8).ownsRow w.heap.size 9 1 (.slice oX vl.length pX) vl.length (vl.map Value.string)) := by show World.ownsRow _ _ _ _ _ _ _; rw [hW8]; exact owns_same HOX_7.out (fun g hg => heap_setCell_other _ _ g _ (own_ne HOX_7.out HBv3_7.out (by decide) g hg))
      have HOY_8 : Hid ((w8).ownsRow w.heap.size 9 1 (.slice oY yl.length pY) yl.length (yl.map Value.string)) := by show World.ownsRow _ _ _ _ _ _ _; rw [hW8]; exact owns_same HOY_7.out (fun g hg => heap_setCell_other _ _ g _ (own_ne HOY_7.out HBv3_7.out (by decide) g hg))
      have HOG_8 : Hid ((w8).ownsRow w.heap.size 75 2 (.slice oG k pG) k (flatF gs)) := by show World.ownsRow _ _ _ _ _ _ _; rw [hW8]; exact owns_same HOG_7.out (fun g hg => heap_setCell_other _ _ g _ (own_ne HOG_7.out HBv3_7.out (by decide) g hg))
      have HBv1_8 : Hid ((w8).heap[qv1]? = some (.cells #[.int .i64 m, .string p, .slice oa n cap, .string b] 38)) := by show _ = _; rw [hW8, heap_setCell_other _ _ _ _ HNv1v3.out]; exact HBv1_7.out
      have HBv2_8 : Hid ((w8).heap[qv2]? = some (.cells #[.int .i64 st, .slice ob k cb, .string d] 32)) := by show _ = _; rw [hW8, heap_setCell_other _ _ _ _ HNv2v3.out]; exact HBv2_7.out
      have HBv4_8 : Hid ((w8).heap[qv4]? = some (.cells #[.string p, .slice oX vl.length pX, .slice oY yl.length pY, .int .i64 st, .slice oG k pG, .string d, .int .i64 t] 34)) := by show _ = _; rw [hW8, heap_setCell_other _ _ _ _ HNv3v4.out.symm]; exact HBv4_7.out
      have HBv3_8 : Hid ((w8).heap[qv3]? = some (.cells #[.string p, .slice none 0 0, .slice none 0 0, .int .i64 0, .slice none 0 0, .string ⟨#[]⟩, .int .i64 0] 34)) := by show _ = _; rw [hW8]; have h := heap_set _ _ 0 _ _ _ (.string p) HBv3_7.out; simpa using h
      clear hb7 HOX_7 HOY_7 HOG_7 HBv1_7 HBv2_7 HBv3_7 HBv4_7 hW8
      obtain ⟨w9, hW9⟩ : ∃ W, W = (w8).setCell ⟨qv3, 1, none⟩ (.slice oX vl.length pX) := ⟨_, rfl⟩
      rw [← hW9]
      have hb9 : Below w.heap.size w w9 := by rw [hW9]; exact hb8.setCell (p := ⟨qv3, 1, none⟩) HGv3.out _
      have HM9 : Hid ((w8).heap.size ≤ w9.heap.size) := by show _ ≤ _; rw [hW9]; simp
      have HOX_9 : Hid ((w9).ownsRow w.heap.size 9 1 (.slice oX vl.length pX) vl.length (vl.map Value.string)) := by show World.ownsRow _ _ _ _ _ _ _; rw [hW9]; exact owns_same HOX_8.out (fun g hg => heap_setCell_other _ _ g _ (own_ne HOX_8.out HBv3_8.out (by decide) g hg))
      have HOY_9 : Hid ((w9).ownsRow w.heap.size 9 1 (.slice oY yl.length pY) yl.length (yl.map Value.string)) := by show World.ownsRow _ _ _ _ _ _ _; rw [hW9]; exact owns_same HOY_8.out (fun g hg => heap_setCell_other _ _ g _ (own_ne HOY_8.out HBv3_8.out (by decide) g hg))
      have HOG_9 : Hid ((w9).ownsRow w.heap.size 75 2 (.slice oG k pG) k (flatF gs)) := by show World.ownsRow _ _ _ _ _ _ _; rw [hW9]; exact owns_same HOG_8.out (fun g hg => heap_setCell_other _ _ g _ (own_ne HOG_8.out HBv3_8.out (by decide) g hg))
      have HBv1_9 : Hid ((w9).heap[qv1]? = some (.cells #[.int .i64 m, .string p, .slice oa n cap, .string b] 38)) := by show _ = _; rw [hW9, heap_setCell_other _ _ _ _ HNv1v3.out]; exact HBv1_8.out
      have HBv2_9 : Hid ((w9).heap[qv2]? = some (.cells #[.int .i64 st, .slice ob k cb, .string d] 32)) := by show _ = _; rw [hW9, heap_setCell_other _ _ _ _ HNv2v3.out]; exact HBv2_8.out
      have HBv4_9 : Hid ((w9).heap[qv4]? = some (.cells #[.string p, .slice oX vl.length pX, .slice oY yl.length pY, .int .i64 st, .slice oG k pG, .string d, .int .i64 t] 34)) := by show _ = _; rw [hW9, heap_setCell_other _ _ _ _ HNv3v4.out.symm]; exact HBv4_8.out
      have HBv3_9 : Hid ((w9).heap[qv3]? = some (.cells #[.string p, .slice oX vl.length pX, .slice none 0 0, .int .i64 0, .slice none 0 0, .string ⟨#[]⟩, .int .i64 0] 34)) := by show _ = _; rw [hW9]; have h := heap_set _ _ 1 _ _ _ (.slice oX vl.length pX) HBv3_8.out; simpa using h
      clear hb8 HOX_8 HOY_8 HOG_8 HBv1_8 HBv2_8 HBv3_8 HBv4_8 hW9
      obtain ⟨w10, hW10⟩ : ∃ W, W = (w9).setCell ⟨qv3, 2, none⟩ (.slice oY yl.length pY) := ⟨_, rfl⟩
      rw [← hW10]
      have hb10 : Below w.heap.size w w10 := by rw [hW10]; exact hb9.setCell (p := ⟨qv3, 2, none⟩) HGv3.out _
      have HM10 : Hid ((w9).heap.size ≤ w10.heap.size) := by show _ ≤ _; rw [hW10]; simp
      have HOX_10 : Hid ((w10).ownsRow w.heap.size 9 1 (.slice oX vl.length pX) vl.length (vl.map Value.string)) := by show World.ownsRow _ _ _ _ _ _ _; rw [hW10]; exact owns_same HOX_9.out (fun g hg => heap_setCell_other _ _ g _ (own_ne HOX_9.out HBv3_9.out (by decide) g hg))
      have HOY_10 : Hid ((w10).ownsRow w.heap.size 9 1 (.slice oY yl.length pY) yl.length (yl.map Value.string)) := by show World.ownsRow _ _ _ _ _ _ _; rw [hW10]; exact owns_same HOY_9.out (fun g hg => heap_setCell_other _ _ g _ (own_ne HOY_9.out HBv3_9.out (by decide) g hg))
      have HOG_10 : Hid ((w10).ownsRow w.heap.size 75 2 (.slice oG k pG) k (flatF gs)) := by show World.ownsRow _ _ _ _ _ _ _; rw [hW10]; exact owns_same HOG_9.out (fun g hg => heap_setCell_other _ _ g _ (own_ne HOG_9.out HBv3_9.out (by decide) g hg))
      have HBv1_10 : Hid ((w10).heap[qv1]? = some (.cells #[.int .i64 m, .string p, .slice oa n cap, .string b] 38)) := by show _ = _; rw [hW10, heap_setCell_other _ _ _ _ HNv1v3.out]; exact HBv1_9.out
      have HBv2_10 : Hid ((w10).heap[qv2]? = some (.cells #[.int .i64 st, .slice ob k cb, .string d] 32)) := by show _ = _; rw [hW10, heap_setCell_other _ _ _ _ HNv2v3.out]; exact HBv2_9.out
      have HBv4_10 : Hid ((w10).heap[qv4]? = some (.cells #[.string p, .slice oX vl.length pX, .slice oY yl.length pY, .int .i64 st, .slice oG k pG, .string d, .int .i64 t] 34)) := by show _ = _; rw [hW10, heap_setCell_other _ _ _ _ HNv3v4.out.symm]; exact HBv4_9.out
      have HBv3_10 : Hid ((w10).heap[qv3]? = some (.cells #[.string p, .slice oX vl.length pX, .slice oY yl.length pY, .int .i64 0, .slice none 0 0, .string ⟨#[]⟩, .int .i64 0] 34)) := by show _ = _; rw [hW10]; have h := heap_set _ _ 2 _ _ _ (.slice oY yl.length pY) HBv3_9.out; simpa using h
      clear hb9 HOX_9 HOY_9 HOG_9 HBv1_9 HBv2_9 HBv3_9 HBv4_9 hW10
      obtain ⟨w11, hW11⟩ : ∃ W, W = (w10).setCell ⟨qv3, 3, none⟩ (.int .i64 st) := ⟨_, rfl⟩
      rw [← hW11]
      have hb11 : Below w.heap.size w w11 := by rw [hW11]; exact hb10.setCell (p := ⟨qv3, 3, none⟩) HGv3.out _
      have HM11 : Hid ((w10).heap.size ≤ w11.heap.size) := by show _ ≤ _; rw [hW11]; simp
      have HOX_11 : Hid ((w11).ownsRow w.heap.size 9 1 (.slice oX vl.length pX) vl.length (vl.map Value.string)) := by show World.ownsRow _ _ _ _ _ _ _; rw [hW11]; exact owns_same HOX_10.out (fun g hg => heap_setCell_other _ _ g _ (own_ne HOX_10.out HBv3_10.out (by decide) g hg))
      have HOY_11 : Hid ((w11).ownsRow w.heap.size 9 1 (.slice oY yl.length pY) yl.length (yl.map Value.string)) := by show World.ownsRow _ _ _ _ _ _ _; rw [hW11]; exact owns_same HOY_10.out (fun g hg => heap_setCell_other _ _ g _ (own_ne HOY_10.out HBv3_10.out (by decide) g hg))
      have HOG_11 : Hid ((w11).ownsRow w.heap.size 75 2 (.slice oG k pG) k (flatF gs)) := by show World.ownsRow _ _ _ _ _ _ _; rw [hW11]; exact owns_same HOG_10.out (fun g hg => heap_setCell_other _ _ g _ (own_ne HOG_10.out HBv3_10.out (by decide) g hg))
      have HBv1_11 : Hid ((w11).heap[qv1]? = some (.cells #[.int .i64 m, .string p, .slice oa n cap, .string b] 38)) := by show _ = _; rw [hW11, heap_setCell_other _ _ _ _ HNv1v3.out]; exact HBv1_10.out
      have HBv2_11 : Hid ((w11).heap[qv2]? = some (.cells #[.int .i64 st, .slice ob k cb, .string d] 32)) := by show _ = _; rw [hW11, heap_setCell_other _ _ _ _ HNv2v3.out]; exact HBv2_10.out
      have HBv4_11 : Hid ((w11).heap[qv4]? = some (.cells #[.string p, .slice oX vl.length pX, .slice oY yl.length pY, .int .i64 st, .slice oG k pG, .string d, .int .i64 t] 34)) := by show _ = _; rw [hW11, heap_setCell_other _ _ _ _ HNv3v4.out.symm]; exact HBv4_10.out
      have HBv3_11 : Hid ((w11).heap[qv3]? = some (.cells #[.string p, .slice oX vl.length pX, .slice oY yl.length pY, .int .i64 st, .slice none 0 0, .string ⟨#[]⟩, .int .i64 0] 34)) := by show _ = _; rw [hW11]; have h := heap_set _ _ 3 _ _ _ (.int .i64 st) HBv3_10.out; simpa using h
      clear hb10 HOX_10 HOY_10 HOG_10 HBv1_10 HBv2_10 HBv3_10 HBv4_10 hW11
      obtain ⟨w12, hW12⟩ : ∃ W, W = (w11).setCell ⟨qv3, 4, none⟩ (.slice oG k pG) := ⟨_, rfl⟩
      rw [← hW12]
      have hb12 : Below w.heap.size w w12 := by rw [hW12]; exact hb11.setCell (p := ⟨qv3, 4, none⟩) HGv3.out _
      have HM12 : Hid ((w11).heap.size ≤ w12.heap.size) := by show _ ≤ _; rw [hW12]; simp
      have HOX_12 : Hid ((w12).ownsRow w.heap.size 9 1 (.slice oX vl.length pX) vl.length (vl.map Value.string)) := by show World.ownsRow _ _ _ _ _ _ _; rw [hW12]; exact owns_same HOX_11.out (fun g hg => heap_setCell_other _ _ g _ (own_ne HOX_11.out HBv3_11.out (by decide) g hg))
      have HOY_12 : Hid ((w12).ownsRow w.heap.size 9 1 (.slice oY yl.length pY) yl.length (yl.map Value.string)) := by show World.ownsRow _ _ _ _ _ _ _; rw [hW12]; exact owns_same HOY_11.out (fun g hg => heap_setCell_other _ _ g _ (own_ne HOY_11.out HBv3_11.out (by decide) g hg))
      have HOG_12 : Hid ((w12).ownsRow w.heap.size 75 2 (.slice oG k pG) k (flatF gs)) := by show World.ownsRow _ _ _ _ _ _ _; rw [hW12]; exact owns_same HOG_11.out (fun g hg => heap_setCell_other _ _ g _ (own_ne HOG_11.out HBv3_11.out (by decide) g hg))
      have HBv1_12 : Hid ((w12).heap[qv1]? = some (.cells #[.int .i64 m, .string p, .slice oa n cap, .string b] 38)) := by show _ = _; rw [hW12, heap_setCell_other _ _ _ _ HNv1v3.out]; exact HBv1_11.out
      have HBv2_12 : Hid ((w12).heap[qv2]? = some (.cells #[.int .i64 st, .slice ob k cb, .string d] 32)) := by show _ = _; rw [hW12, heap_setCell_other _ _ _ _ HNv2v3.out]; exact HBv2_11.out
      have HBv4_12 : Hid ((w12).heap[qv4]? = some (.cells #[.string p, .slice oX vl.length pX, .slice oY yl.length pY, .int .i64 st, .slice oG k pG, .string d, .int .i64 t] 34)) := by show _ = _; rw [hW12, heap_setCell_other _ _ _ _ HNv3v4.out.symm]; exact HBv4_11.out
      have HBv3_12 : Hid ((w12).heap[qv3]? = some (.cells #[.string p, .slice oX vl.length pX, .slice oY yl.length pY, .int .i64 st, .slice oG k pG, .string ⟨#[]⟩, .int .i64 0] 34)) := by show _ = _; rw [hW12]; have h := heap_set _ _ 4 _ _ _ (.slice oG k pG) HBv3_11.out; simpa using h
      clear hb11 HOX_11 HOY_11 HOG_11 HBv1_11 HBv2_11 HBv3_11 HBv4_11 hW12
      obtain ⟨w13, hW13⟩ : ∃ W, W = (w12).setCell ⟨qv3, 5, none⟩ (.string d) := ⟨_, rfl⟩
      rw [← hW13]
      have hb13 : Below w.heap.size w w13 := by rw [hW13]; exact hb12.setCell (p := ⟨qv3, 5, none⟩) HGv3.out _
      have HM13 : Hid ((w12).heap.size ≤ w13.heap.size) := by show _ ≤ _; rw [hW13]; simp
      have HOX_13 : Hid ((w13).ownsRow w.heap.size 9 1 (.slice oX vl.length pX) vl.length (vl.map Value.string)) := by show World.ownsRow _ _ _ _ _ _ _; rw [hW13]; exact owns_same HOX_12.out (fun g hg => heap_setCell_other _ _ g _ (own_ne HOX_12.out HBv3_12.out (by decide) g hg))
      have HOY_13 : Hid ((w13).ownsRow w.heap.size 9 1 (.slice oY yl.length pY) yl.length (yl.map Value.string)) := by show World.ownsRow _ _ _ _ _ _ _; rw [hW13]; exact owns_same HOY_12.out (fun g hg => heap_setCell_other _ _ g _ (own_ne HOY_12.out HBv3_12.out (by decide) g hg))
      have HOG_13 : Hid ((w13).ownsRow w.heap.size 75 2 (.slice oG k pG) k (flatF gs)) := by show World.ownsRow _ _ _ _ _ _ _; rw [hW13]; exact owns_same HOG_12.out (fun g hg => heap_setCell_other _ _ g _ (own_ne HOG_12.out HBv3_12.out (by decide) g hg))
      have HBv1_13 : Hid ((w13).heap[qv1]? = some (.cells #[.int .i64 m, .string p, .slice oa n cap, .string b] 38)) := by show _ = _; rw [hW13, heap_setCell_other _ _ _ _ HNv1v3.out]; exact HBv1_12.out
      have HBv2_13 : Hid ((w13).heap[qv2]? = some (.cells #[.int .i64 st, .slice ob k cb, .string d] 32)) := by show _ = _; rw [hW13, heap_setCell_other _ _ _ _ HNv2v3.out]; exact HBv2_12.out
      have HBv4_13 : Hid ((w13).heap[qv4]? = some (.cells #[.string p, .slice oX vl.length pX, .slice oY yl.length pY, .int .i64 st, .slice oG k pG, .string d, .int .i64 t] 34)) := by show _ = _; rw [hW13, heap_setCell_other _ _ _ _ HNv3v4.out.symm]; exact HBv4_12.out
      have HBv3_13 : Hid ((w13).heap[qv3]? = some (.cells #[.string p, .slice oX vl.length pX, .slice oY yl.length pY, .int .i64 st, .slice oG k pG, .string d, .int .i64 0] 34)) := by show _ = _; rw [hW13]; have h := heap_set _ _ 5 _ _ _ (.string d) HBv3_12.out; simpa using h
      clear hb12 HOX_12 HOY_12 HOG_12 HBv1_12 HBv2_12 HBv3_12 HBv4_12 hW13
      obtain ⟨w14, hW14⟩ : ∃ W, W = (w13).setCell ⟨qv3, 6, none⟩ (.int .i64 t) := ⟨_, rfl⟩
      rw [← hW14]
      have hb14 : Below w.heap.size w w14 := by rw [hW14]; exact hb13.setCell (p := ⟨qv3, 6, none⟩) HGv3.out _
      have HM14 : Hid ((w13).heap.size ≤ w14.heap.size) := by show _ ≤ _; rw [hW14]; simp
      have HOX_14 : Hid ((w14).ownsRow w.heap.size 9 1 (.slice oX vl.length pX) vl.length (vl.map Value.string)) := by show World.ownsRow _ _ _ _ _ _ _; rw [hW14]; exact owns_same HOX_13.out (fun g hg => heap_setCell_other _ _ g _ (own_ne HOX_13.out HBv3_13.out (by decide) g hg))
      have HOY_14 : Hid ((w14).ownsRow w.heap.size 9 1 (.slice oY yl.length pY) yl.length (yl.map Value.string)) := by show World.ownsRow _ _ _ _ _ _ _; rw [hW14]; exact owns_same HOY_13.out (fun g hg => heap_setCell_other _ _ g _ (own_ne HOY_13.out HBv3_13.out (by decide) g hg))
      have HOG_14 : Hid ((w14).ownsRow w.heap.size 75 2 (.slice oG k pG) k (flatF gs)) := by show World.ownsRow _ _ _ _ _ _ _; rw [hW14]; exact owns_same HOG_13.out (fun g hg => heap_setCell_other _ _ g _ (own_ne HOG_13.out HBv3_13.out (by decide) g hg))
      have HBv1_14 : Hid ((w14).heap[qv1]? = some (.cells #[.int .i64 m, .string p, .slice oa n cap, .string b] 38)) := by show _ = _; rw [hW14, heap_setCell_other _ _ _ _ HNv1v3.out]; exact HBv1_13.out
      have HBv2_14 : Hid ((w14).heap[qv2]? = some (.cells #[.int .i64 st, .slice ob k cb, .string d] 32)) := by show _ = _; rw [hW14, heap_setCell_other _ _ _ _ HNv2v3.out]; exact HBv2_13.out
      have HBv4_14 : Hid ((w14).heap[qv4]? = some (.cells #[.string p, .slice oX vl.length pX, .slice oY yl.length pY, .int .i64 st, .slice oG k pG, .string d, .int .i64 t] 34)) := by show _ = _; rw [hW14, heap_setCell_other _ _ _ _ HNv3v4.out.symm]; exact HBv4_13.out
      have HBv3_14 : Hid ((w14).heap[qv3]? = some (.cells #[.string p, .slice oX vl.length pX, .slice oY yl.length pY, .int .i64 st, .slice oG k pG, .string d, .int .i64 t] 34)) := by show _ = _; rw [hW14]; have h := heap_set _ _ 6 _ _ _ (.int .i64 t) HBv3_13.out; simpa using h
      clear hb13 HOX_13 HOY_13 HOG_13 HBv1_13 HBv2_13 HBv3_13 HBv4_13 hW14
      have kv3_0 : (w14).cell? ⟨qv3, 0, none⟩ = some (.string p) := (cell_of HBv3_14.out 0).trans rfl
      have kv3_1 : (w14).cell? ⟨qv3, 1, none⟩ = some (.slice oX vl.length pX) := (cell_of HBv3_14.out 1).trans rfl
      have kv3_2 : (w14).cell? ⟨qv3, 2, none⟩ = some (.slice oY yl.length pY) := (cell_of HBv3_14.out 2).trans rfl
      have kv3_3 : (w14).cell? ⟨qv3, 3, none⟩ = some (.int .i64 st) := (cell_of HBv3_14.out 3).trans rfl
      have kv3_4 : (w14).cell? ⟨qv3, 4, none⟩ = some (.slice oG k pG) := (cell_of HBv3_14.out 4).trans rfl
      have kv3_5 : (w14).cell? ⟨qv3, 5, none⟩ = some (.string d) := (cell_of HBv3_14.out 5).trans rfl
      have kv3_6 : (w14).cell? ⟨qv3, 6, none⟩ = some (.int .i64 t) := (cell_of HBv3_14.out 6).trans rfl
      refine bodyPost_ret (v := .tuple #[.agg #[.string p, .slice oX vl.length pX, .slice oY yl.length pY, .int .i64 st, .slice oG k pG, .string d, .int .i64 t], .bool true]) (by simp [results, Tryz.results6, go_sem, kv3_0, kv3_1, kv3_2, kv3_3, kv3_4, kv3_5, kv3_6]) rfl ?_
      exact ⟨hb14, .inl ⟨⟨HMK.out, HOK.out⟩, _, _, _, rfl, ⟨HOX_14.out, HOY_14.out, HOG_14.out, fun g hg e => by have h1 := LOY.out g e; have h2 := HIX.out g hg; have := HM6.out; omega⟩⟩⟩

end Go.Proofs.YtdlhicdfldecgaaGreat

namespace Go.Proofs.YtdlhicdfldecgaaGreat
open Go.RowKit
open Go.Lib hiding intOf

theorem timeOk_any (t : Int) (w : World) :
    Calls Tryz.prog 63 #[.int .i64 t] w fun e w' => e = .returned (.bool (decide ((0 : Int) ≤ t ∧ t ≤ 1000000))) ∧ w' = w := by
  obtain ⟨D, hD⟩ : ∃ D, D = decide ((0 : Int) ≤ t ∧ t ≤ 1000000) := ⟨_, rfl⟩
  rw [← hD]
  by_cases h1 : 0 ≤ t
  · by_cases h2 : t ≤ 1000000
    · have HD : Hid (D = true) := by show _ = _; rw [hD]; exact decide_eq_true ⟨h1, h2⟩
      clear hD
      go_enter Tryz.func63, Tryz.ntmps63
      go_wp2
      go_ret
      exact ⟨by rw [HD.out]; rfl, rfl⟩
    · have HD : Hid (D = false) := by show _ = _; rw [hD]; exact decide_eq_false (fun h => h2 h.2)
      clear hD
      go_enter Tryz.func63, Tryz.ntmps63
      go_wp2
      go_ret
      exact ⟨by rw [HD.out]; rfl, rfl⟩
  · have HD : Hid (D = false) := by show _ = _; rw [hD]; exact decide_eq_false (fun h => h1 h.1)
    clear hD
    go_enter Tryz.func63, Tryz.ntmps63
    go_wp2
    go_ret
    exact ⟨by rw [HD.out]; rfl, rfl⟩

set_option maxHeartbeats 1000000 in
theorem valuesOk_any (oa : Option Addr) (m cm : Nat) (xs : List ByteArray) (w : World) (hx : TextsA w oa m xs) (hm : m ≤ 2000000) (hsz : ∀ i, i < m → (textAt xs i).size ≤ maxLen) :
    Calls Tryz.prog 65 #[.slice oa m cm] w fun e w' => BoolIs (∀ y ∈ xs, ValOk y) w e w' := by
  have HV : Hid (∀ W, Below w.heap.size w W → TextsA W oa m xs) := fun W h => hx.below h
  have HL : Hid (xs.length = m) := hx.1
  have HS : Hid (∀ i, i < m → (textAt xs i).size ≤ maxLen) := hsz
  clear hx hsz
  go_enter Tryz.func65, Tryz.ntmps65
  go_wp2
  go_loopw [7] (fun i wr => ∃ j : Nat, j ≤ m ∧ i = .int .i64 (j : Int) ∧ Hid (Below w.heap.size w wr) ∧ Hid (∀ x ∈ xs.take j, ValOk x)) (fun i _ => m - (intOf i).toNat)
  case atStart => exact ⟨0, Nat.zero_le _, rfl, Below.refl _ _, fun x hx => by simp at hx⟩
  case round =>
    obtain ⟨j, hj, rfl, HW, HN⟩ := hrel
    by_cases hlt : (j : Int) < (m : Int)
    · have hjx : j < xs.length := by rw [HL.out]; omega
      obtain ⟨g, hog, hg, hc⟩ := (HV.out wr HW.out).2 j (by omega)
      subst hog
      have hs := HS.out j (by omega)
      obtain ⟨x, hxx⟩ : ∃ x, x = textAt xs j := ⟨_, rfl⟩
      rw [← hxx] at hc hs
      have HM : Hid (x ∈ xs) := by show _ ∈ _; rw [hxx]; exact textAt_mem xs j hjx
      have HTK : Hid (xs.take (j + 1) = xs.take j ++ [x]) := by show _ = _; rw [take_textAt xs j hjx, hxx]
      clear hxx hjx
      go_wp2_with fail
      refine (implValueOk_any x _ hs).mono ?_
      rintro e w90 ⟨tx, rfl, htx, bw⟩
      have HW2 : Hid (Below w.heap.size w w90) := HW.out.trans (bw.mono HW.out.size)
      clear bw hc HW
      cases tx with
      | false =>
        have HF : Hid (¬ ∀ y ∈ xs, ValOk y) := fun h => nomatch htx.2 (h x HM.out)
        clear htx HN
        go_wp2_with fail
        go_ret
        exact BoolIs.no HF.out HW2.out
      | true =>
        have HN2 : Hid (∀ y ∈ xs.take (j + 1), ValOk y) := by
          intro y hy
          rw [HTK.out] at hy
          rcases List.mem_append.1 hy with hy | hy
          · exact HN.out y hy
          · rw [List.mem_singleton.1 hy]; exact htx.1 rfl
        clear htx HN
        go_wp2_with fail
        go_roundw
        case rel => exact ⟨j + 1, by omega, by go_num, HW2, HN2⟩
        case measure => simp [intOf]; omega
    · have HA : Hid (∀ y ∈ xs, ValOk y) := by
        have h := HN.out
        rw [List.take_of_length_le (by rw [HL.out]; omega)] at h
        exact h
      clear HN
      go_wp2_with fail
      go_ret
      exact ⟨true, rfl, ⟨fun _ => HA.out, fun _ => rfl⟩, HW.out⟩

theorem equalT_any (oa ob : Option Addr) (m cm k ck : Nat) (xs ys : List ByteArray) (w : World) (hx : TextsA w oa m xs) (hm : m ≤ 2000000) (hy : TextsA w ob k ys) (hk : k ≤ 2000000) :
    Calls Tryz.prog 64 #[.slice oa m cm, .slice ob k ck] w fun e w' => e = .returned (.bool (decide (xs = ys))) ∧ Below w.heap.size w w' := by
  by_cases hmk : m = k
  · subst hmk
    by_cases h0 : m = 0
    · subst h0
      refine (Tryz.slices_Equal_string_empty oa ob cm 0 ck w (by omega)).mono ?_
      rintro e w1 ⟨rfl, rfl⟩
      refine ⟨?_, Below.refl _ _⟩
      rw [List.length_eq_zero_iff.1 hx.1, List.length_eq_zero_iff.1 hy.1]
      simp
    · obtain ⟨g, rfl, _, _⟩ := hx.2 0 (by omega)
      obtain ⟨q, rfl, _, _⟩ := hy.2 0 (by omega)
      refine (Tryz.slices_Equal_string g 0 m cm q 0 m ck xs ys w (by rw [hx.1]; exact Nat.le_refl _) (by rw [hy.1]; exact Nat.le_refl _) (by omega) (by omega) (fun j hj => ?_) (fun j hj => ?_)).mono ?_
      · obtain ⟨g2, e2, _, h3⟩ := hx.2 j (by rw [← hx.1]; exact hj)
        cases e2
        rw [Nat.zero_add]
        exact h3
      · obtain ⟨g2, e2, _, h3⟩ := hy.2 j (by rw [← hy.1]; exact hj)
        cases e2
        rw [Nat.zero_add]
        exact h3
      · rintro e w1 ⟨rfl, n, rfl⟩
        refine ⟨?_, ⟨rfl, rfl, rfl, Nat.le_refl _, fun _ _ => rfl⟩⟩
        rw [List.take_of_length_le (by rw [hx.1]; exact Nat.le_refl _), List.take_of_length_le (by rw [hy.1]; exact Nat.le_refl _)]
  · refine (Tryz.slices_Equal_string_lens oa ob m cm k ck w hmk).mono ?_
    rintro e w1 ⟨rfl, rfl⟩
    refine ⟨?_, Below.refl _ _⟩
    rw [decide_eq_false (fun h => hmk (by rw [← hx.1, ← hy.1, h]))]

end Go.Proofs.YtdlhicdfldecgaaGreat

namespace Go.Proofs.YtdlhicdfldecgaaGreat
open Go.RowKit
open Go.Lib hiding intOf

attribute [local go_sem] Oper.semAt_some

set_option maxHeartbeats 1000000 in
theorem valueOf_any (x : ByteArray) (v : Value) (n base : Nat) (fs : List (ByteArray × ByteArray)) (w : World) (hv : FieldsV w base v n fs) (hn : n ≤ 1073741824) (hcp : CopyF fs) :
    Calls Tryz.prog 81 #[.string x, v] w fun e w' => e = .returned (.string (valOf fs x)) ∧ Below w.heap.size w w' := by
  obtain ⟨y, hy⟩ : ∃ y, y = valOf fs x := ⟨_, rfl⟩
  rw [← hy]
  go_enter Tryz.func81, Tryz.ntmps81
  go_wp2_with fail
  refine (implGet_any v n base fs x _ hv hn hcp).mono ?_
  rintro e w2 ⟨rfl, b2⟩
  obtain ⟨s, hs⟩ : ∃ s, s = getV fs x := ⟨_, rfl⟩
  obtain ⟨th, hth⟩ : ∃ b, b = getB fs x := ⟨_, rfl⟩
  rw [← hs, ← hth]
  have HY : Hid (y = if th = true then s else dashT) := by show _ = _; rw [hy, hs, hth]; rfl
  clear hs hth hy hv
  cases th with
  | true =>
    have HY2 : Hid (s = y) := by show _ = _; rw [HY.out]; rfl
    rw [HY2.out]
    clear HY HY2
    go_wp2_with fail
    go_ret
    exact ⟨rfl, b2⟩
  | false =>
    have HY2 : Hid (y = ⟨#[45]⟩) := by show _ = _; rw [HY.out]; rfl
    clear HY
    go_wp2_with fail
    go_ret
    exact ⟨by rw [HY2.out]; rfl, b2⟩

set_option maxHeartbeats 1000000 in
theorem toldValues_any (oa : Option Addr) (m cm : Nat) (oc : Option Addr) (n cn : Nat) (w : World) :
    Calls Tryz.prog 59 #[.slice oa m cm, .slice oc n cn] w fun e w' =>
      e = .returned (.func (.func 80) #[] #[.pointer (some ⟨w.heap.size, 0, none⟩), .pointer (some ⟨w.heap.size + 1, 0, none⟩)]) ∧
      w' = (w.alloc (.cells #[.slice oa m cm] 29)).alloc (.cells #[.slice oc n cn] 30) := by
  go_enter Tryz.func59, Tryz.ntmps59
  go_wp2_with fail
  go_ret
  exact ⟨rfl, rfl⟩

/-- What a round is handed: the place and the value. -/
def toldV (xs : List ByteArray) (fs : List (ByteArray × ByteArray)) (m : Nat) (j : Fin m) : Array Value := #[.int .i64 ((j.1 : Nat) : Int), .string (valOf fs (textAt xs j.1))]
theorem fin_take (m k : Nat) (h : k < m) : (List.finRange m).take (k + 1) = (List.finRange m).take k ++ [⟨k, h⟩] := by
  rw [List.take_add_one, List.getElem?_eq_getElem (by simpa using h), List.getElem_finRange]
  rfl
theorem fin_take_len (m k : Nat) (h : k ≤ m) : ((List.finRange m).take k).length = k := by simp [h]

/-- What a round keeps: all below a block, and the one block that holds the fields. -/
def KeepL (n₀ b : Nat) (W W' : World) : Prop := Below n₀ W W' ∧ W'.heap[b]? = W.heap[b]?
theorem KeepL.trans {n₀ b : Nat} {A B C : World} (h : KeepL n₀ b A B) (k : KeepL n₀ b B C) : KeepL n₀ b A C := ⟨h.1.trans k.1, k.2.trans h.2⟩
theorem keepL_b {n₀ b : Nat} {w : World} (hn : n₀ ≤ w.heap.size) (hb : b < w.heap.size) (W : World) (l : Nat) (o o' : Obj) (hl : w.heap.size ≤ l) (h : W.heap[l]? = some o) (h1 : o.isCells = false) (h2 : o.isWalk = false) : KeepL n₀ b W (W.putObj l o') :=
  ⟨belowK_b hn W l o o' hl h h1 h2, World.putObj_heap_other (by omega)⟩

set_option maxRecDepth 100000 in
set_option maxHeartbeats 2000000 in
theorem told1_in (nn : Nat) (hnn : 1 ≤ nn) (l Bs Bf n₀ : Nat) (oa : Option Addr) (m cm : Nat) (xs : List ByteArray) (v : Value) (n base : Nat) (fs : List (ByteArray × ByteArray)) (w0 W : World)
    (hm : m ≤ 1048577) (hn : n ≤ 1073741824) (hcp : CopyF fs) (hn₀ : n₀ ≤ W.heap.size)
    (hX : ∀ W', Below n₀ w0 W' → TextsA W' oa m xs) (hV : ∀ W', Below n₀ w0 W' → FieldsV W' base v n fs)
    (hW : Below n₀ w0 W) (hBs : W.cell? ⟨Bs, 0, none⟩ = some (.slice oa m cm)) (hBf : Boxed W Bf 30 v)
    (J Jx : List (Fin m) → World → Prop) (hJ : AbidesFrom W.heap.size J)
    (hY : ∀ pre x W1, J pre W1 → pre.length < m → YieldAt Fence.wide (nn - 1) Tryz.prog l (toldV xs fs m x) W1 fun e W' =>
      (e = .returned (.bool true) ∧ J (pre ++ [x]) W' ∧ KeepL n₀ Bf W1 W') ∨ (e = .returned (.bool false) ∧ Jx (pre ++ [x]) W'))
    (h0 : J [] W) :
    CallsIn Fence.wide nn Tryz.prog 80 #[.func (.yield l) #[] #[], .pointer (some ⟨Bs, 0, none⟩), .pointer (some ⟨Bf, 0, none⟩)] W fun e W' => (∃ u, e = .returned u) ∧
      ((∃ ys, ys = List.finRange m ∧ J ys W') ∨ (∃ pre, pre <+: List.finRange m ∧ Jx pre W')) := by
  have HX : Hid (∀ W', Below n₀ w0 W' → TextsA W' oa m xs) := hX
  have HV : Hid (∀ W', Below n₀ w0 W' → FieldsV W' base v n fs) := hV
  have HLEN : Hid (xs.length = m) := (hX W hW).1
  obtain ⟨oc, cn, hvs, _⟩ := (hV W hW).slice
  subst hvs
  have HW : Hid (Below n₀ w0 W) := hW
  have HN : Hid (n₀ ≤ W.heap.size) := hn₀
  have HBF : Hid (Boxed W Bf 30 (.slice oc n cn)) := hBf
  have HY : Hid (∀ pre x W1, J pre W1 → pre.length < m → YieldAt Fence.wide (nn - 1) Tryz.prog l (toldV xs fs m x) W1 fun e W' =>
      (e = .returned (.bool true) ∧ J (pre ++ [x]) W' ∧ KeepL n₀ Bf W1 W') ∨ (e = .returned (.bool false) ∧ Jx (pre ++ [x]) W')) := hY
  have HJ : Hid (AbidesFrom W.heap.size J) := hJ
  clear hX hV hW hBf hY hJ hn₀
  refine callsIn_of_wp Tryz.func80 rfl trivial ?_ rfl
  simp only [Tryz.ntmps80, List.size_toArray, List.length_cons, List.length_nil, Nat.reduceAdd, Nat.reduceSub, Array.replicate_succ, Array.replicate_zero, List.push_toArray, List.append_toArray, List.nil_append, List.cons_append]
  gi_wp2
  gi_loopw [8] (fun i wr => ∃ k : Nat, k ≤ m ∧ i = .int .i64 (k : Int) ∧ Hid (J ((List.finRange m).take k) wr) ∧ Hid (KeepL n₀ Bf W wr) ∧ W.heap.size ≤ wr.heap.size) (fun i _ => m - (intOf i).toNat)
  case atStart => exact ⟨0, Nat.zero_le _, rfl, h0, ⟨Below.refl _ _, rfl⟩, Nat.le_refl _⟩
  case round =>
    obtain ⟨k, hk, rfl, HJs, HK, hsz⟩ := hrel
    by_cases hlt : (k : Int) < (m : Int)
    · have hkm : k < m := by omega
      have hB : Below n₀ w0 wr := HW.out.trans HK.out.1
      obtain ⟨g, rfl, hg, hc⟩ := (HX.out wr hB).2 k hkm
      have hbf : wr.cell? ⟨Bf, 0, none⟩ = some (.slice oc n cn) := (show Boxed wr Bf 30 (.slice oc n cn) from HK.out.2.trans HBF.out).cell
      have HBl : Hid (Bf < wr.heap.size) := (show Boxed wr Bf 30 (.slice oc n cn) from HK.out.2.trans HBF.out).lt
      have hval := valueOf_any (textAt xs k) (.slice oc n cn) n base fs wr (HV.out wr hB) hn hcp
      obtain ⟨x, hx⟩ : ∃ x, x = textAt xs k := ⟨_, rfl⟩
      rw [← hx] at hc hval
      obtain ⟨y, hy⟩ : ∃ y, y = valOf fs x := ⟨_, rfl⟩
      rw [← hy] at hval
      have HTV : Hid (toldV xs fs m ⟨k, hkm⟩ = #[.int .i64 (k : Int), .string y]) := by show _ = _; rw [hy, hx]; rfl
      clear hx hy hB
      gi_wp2_with fail
      refine ⟨trivial, (callsIn_wide.2 hval).mono ?_⟩
      rintro e w2 ⟨rfl, b2⟩
      have HJ2 : Hid (J ((List.finRange m).take k) w2) := HJ.out _ wr w2 none HJs.out ⟨b2.os, b2.tape, b2.output, b2.size, fun q hq _ => b2.block q hq⟩ (fun r e => by cases e)
      have HK2 : Hid (KeepL n₀ Bf W w2) := by
        refine ⟨HK.out.1.trans (b2.mono ?_), (b2.block Bf HBl.out).trans HK.out.2⟩
        exact Nat.le_trans HN.out hsz
      have hsz2 : W.heap.size ≤ w2.heap.size := Nat.le_trans hsz b2.size
      obtain ⟨fn, tmps, assign, body, hy, hR⟩ := HY.out _ ⟨k, hkm⟩ w2 HJ2.out (by rw [fin_take_len m k hk]; exact hkm)
      rw [HTV.out] at hy
      clear hval HJs HK hsz hc hbf hg b2 HBl
      gi_wp2
      refine hR.mono ?_
      rintro e W3 (⟨rfl, hJ3, hk3⟩ | ⟨rfl, hJx3⟩)
      · have HJ3 : Hid (J ((List.finRange m).take (k + 1)) W3) := by show J _ _; rw [fin_take m k hkm]; exact hJ3
        have HK3 : Hid (KeepL n₀ Bf W W3) := HK2.out.trans hk3
        have hsz3 : W.heap.size ≤ W3.heap.size := Nat.le_trans hsz2 hk3.1.size
        clear hJ3 hk3 hsz2 HK2 HJ2 hR
        gi_wp2
        go_roundw
        case rel => exact ⟨k + 1, by omega, by go_num, HJ3, HK3, hsz3⟩
        case measure => simp [intOf]; omega
      · have HJx : Hid (Jx ((List.finRange m).take (k + 1)) W3) := by show Jx _ _; rw [fin_take m k hkm]; exact hJx3
        clear hJx3 HK2 HJ2 hsz2 hR
        gi_wp2
        refine bodyPost_ret (results_none rfl _ _ _) rfl ?_
        exact ⟨⟨_, rfl⟩, .inr ⟨_, List.take_prefix _ _, HJx.out⟩⟩
    · obtain rfl : k = m := by omega
      gi_wp2
      go_end0
      have hj := HJs.out
      rw [List.take_of_length_le (by simp)] at hj
      exact ⟨⟨_, rfl⟩, .inl hj⟩

/-- What 'toldValues' hands back tells them all, in their order, or the first of them. -/
theorem told_stops (nn : Nat) (hnn : 1 ≤ nn) (Bs Bf n₀ : Nat) (oa : Option Addr) (m cm : Nat) (xs : List ByteArray) (v : Value) (n base : Nat) (fs : List (ByteArray × ByteArray)) (w0 w : World)
    (hm : m ≤ 1048577) (hn : n ≤ 1073741824) (hcp : CopyF fs) (hn₀ : n₀ ≤ w.heap.size)
    (hX : ∀ W', Below n₀ w0 W' → TextsA W' oa m xs) (hV : ∀ W', Below n₀ w0 W' → FieldsV W' base v n fs)
    (hW : Below n₀ w0 w) (hBs : Boxed w Bs 29 (.slice oa m cm)) (hBf : Boxed w Bf 30 v) :
    SeqStopsK Fence.wide nn Tryz.prog 80 #[.pointer (some ⟨Bs, 0, none⟩), .pointer (some ⟨Bf, 0, none⟩)] (toldV xs fs m) (KeepL n₀ Bf) (fun ys => ys = List.finRange m) (fun pre => pre <+: List.finRange m) m w := fun l J Jx W hw hJ _ hY h0 => by
  have hbs : Boxed W Bs 29 (.slice oa m cm) := (hw.block Bs hBs.lt).trans hBs
  have hbf : Boxed W Bf 30 v := (hw.block Bf hBf.lt).trans hBf
  exact told1_in nn hnn l Bs Bf n₀ oa m cm xs v n base fs w0 W hm hn hcp (Nat.le_trans hn₀ hw.size) hX hV (hW.trans (hw.mono hn₀)) hbs.cell hbf J Jx hJ hY h0

end Go.Proofs.YtdlhicdfldecgaaGreat

namespace Go.Proofs.YtdlhicdfldecgaaGreat
open Go.RowKit
open Go.Lib hiding intOf

attribute [local go_sem] Oper.semAt_some

set_option maxHeartbeats 1000000 in
set_option maxRecDepth 100000 in
theorem implVaryOf_any (v : Value) (n base : Nat) (fs : List (ByteArray × ByteArray)) (w : World) (hv : FieldsV w base v n fs) (hn : n ≤ 1073741824) (hcp : CopyF fs) (hsz : (getV fs varyName).size ≤ 1048576) :
    Calls Tryz.prog 25 #[v] w fun e w' => RowIs w.heap.size (varyP fs) w e w' := by
  obtain ⟨s, hs⟩ : ∃ s, s = getV fs varyName := ⟨_, rfl⟩
  have HS : Hid (getV fs varyName = s) := hs.symm
  have HE : Hid (varyP fs = (splitL s).map lowerOf) := by show _ = _; unfold varyP; rw [HS.out]
  rw [← hs] at hsz
  have hl1 := (splitL_le s).1
  clear hs
  go_enter Tryz.func25, Tryz.ntmps25
  go_wp2_with fail
  refine (implGet_any v n base fs varyName _ hv hn hcp).mono ?_
  rintro e w1 ⟨rfl, b1⟩
  rw [HS.out]
  clear hv
  go_wp2_with fail
  refine (implSplit_any s _ hsz).mono ?_
  rintro e w2 ⟨V, rfl, O, b2⟩
  obtain ⟨xs, hxs⟩ : ∃ xs, xs = splitL s := ⟨_, rfl⟩
  rw [← hxs] at hl1 O HE
  obtain ⟨m, hm⟩ : ∃ m, m = xs.length := ⟨_, rfl⟩
  rw [← hm] at hl1 O
  have HM : Hid (xs.length = m) := hm.symm
  have O := owns_base O b1.size
  have b2 : Below w.heap.size w w2 := b1.trans (b2.mono b1.size)
  clear hxs hm b1
  rcases row_form O with ⟨oa, ca, rfl, h0, h1⟩ | ⟨g, cap, rfl, hp, r1⟩
  · subst h0 h1
    go_wp2_with fail
    refine wp_loop_rounds 1 ?_
    rw [rounds_succ]
    go_wp2_with fail
    go_ret
    exact RowIs.of (by rw [HE.out]; rfl) rfl O b2
  · clear O
    have HB2 : Hid (Below w.heap.size w w2) := b2
    have HR1 : Hid (TextRow w.heap.size w2 g m cap (loTo xs 0)) := by show TextRow _ _ _ _ _ _; rw [loTo_zero]; exact r1
    clear b2 r1
    go_wp2_with fail
    go_loopw [17] (fun i wr => ∃ j : Nat, j ≤ m ∧ i = .int .i64 (j : Int) ∧ Hid (Below w.heap.size w wr) ∧ Hid (TextRow w.heap.size wr g m cap (loTo xs j))) (fun i _ => m - (intOf i).toNat)
    case atStart => exact ⟨0, Nat.zero_le _, rfl, HB2, HR1⟩
    case round =>
      obtain ⟨j, hj, rfl, HB, HR⟩ := hrel
      by_cases hlt : j < m
      · have hlt2 : (j : Int) < (m : Int) := by omega
        obtain ⟨x, hx⟩ : ∃ x, x = textAt xs j := ⟨_, rfl⟩
        have hc := HR.out.cell j hlt
        rw [loTo_at, ← hx] at hc
        have HST : Hid ((loTo xs j).set j (lowerOf x) = loTo xs (j + 1)) := by show _ = _; rw [hx]; exact loTo_step xs j (by rw [HM.out]; exact hlt)
        clear hx
        go_wp2_with fail
        refine (implLower_any x _).mono ?_
        rintro e w3 ⟨rfl, hb3⟩
        have hrow := HR.out.below hb3 HR.out.lt
        have hc3 := hrow.cell j hlt
        have hf3 := hrow.frozen j
        have HB3 : Hid (Below w.heap.size w (w3.setCell ⟨g, j, none⟩ (.string (lowerOf x)))) := (HB.out.trans (hb3.mono HB.out.size)).setCell HR.out.base _
        have HR3 : Hid (TextRow w.heap.size (w3.setCell ⟨g, j, none⟩ (.string (lowerOf x))) g m cap (loTo xs (j + 1))) := by
          show TextRow _ _ _ _ _ _
          rw [← HST.out]
          exact hrow.set j hlt _
        clear hb3 hrow HB HR HST hc
        go_wp2_with fail
        go_roundw
        case rel => exact ⟨j + 1, by omega, by go_num, HB3, HR3⟩
        case measure => simp [intOf]; omega
      · obtain rfl : j = m := by omega
        go_wp2_with fail
        go_ret
        exact RowIs.of (by rw [HE.out, loTo_all xs j (by rw [HM.out]; exact Nat.le_refl _)]) (by rw [loTo_all xs j (by rw [HM.out]; exact Nat.le_refl _), List.length_map, HM.out]) HR.out.owns HB.out

/-- What has been stored when these places have come. -/
def setTo (xs : List ByteArray) (fs : List (ByteArray × ByteArray)) (m : Nat) (pre : List (Fin m)) : List ByteArray := pre.foldl (fun acc j => acc.set j.1 (valOf fs (textAt xs j.1))) (List.replicate m ⟨#[]⟩)
theorem setTo_snoc (xs : List ByteArray) (fs : List (ByteArray × ByteArray)) (m : Nat) (pre : List (Fin m)) (j : Fin m) : setTo xs fs m (pre ++ [j]) = (setTo xs fs m pre).set j.1 (valOf fs (textAt xs j.1)) := by simp [setTo]
theorem setTo_take (xs : List ByteArray) (fs : List (ByteArray × ByteArray)) (m : Nat) (hl : xs.length = m) : ∀ k, k ≤ m → setTo xs fs m ((List.finRange m).take k) = valsP (xs.take k) fs ++ List.replicate (m - k) ⟨#[]⟩
  | 0, _ => by simp [setTo, valsP]
  | k + 1, h => by
    rw [fin_take m k (by omega), setTo_snoc, setTo_take xs fs m hl k (by omega), valsP_snoc xs fs k (by omega)]
    have e : m - k = (m - (k + 1)) + 1 := by omega
    rw [e, List.replicate_succ, List.set_append_right _ _ (by rw [valsP_len]; simp; omega), valsP_len]
    have e2 : k - (xs.take k).length = 0 := by simp; omega
    rw [e2, List.set_cons_zero]
    simp
theorem setTo_all (xs : List ByteArray) (fs : List (ByteArray × ByteArray)) (m : Nat) (hl : xs.length = m) : setTo xs fs m (List.finRange m) = valsP xs fs := by
  have h := setTo_take xs fs m hl m (Nat.le_refl _)
  rw [List.take_of_length_le (by simp), List.take_of_length_le (by omega)] at h
  rw [h]
  simp
theorem boxed_kept {W W' : World} {row : Option Nat} {B B0 : Nat} {t : TypeId} {v : Value} (h : Boxed W B t v) (hg : W.grownBy W' row) (hr : ∀ r, row = some r → B0 ≤ r ∧ ∃ o : Obj, W.heap[r]? = some o ∧ o.isCells = false) : Boxed W' B t v :=
  h.kept hg (fun e => by
    obtain ⟨_, o, ho, hc⟩ := hr B e.symm
    rw [show W.heap[B]? = _ from h] at ho
    cases ho
    cases hc)
theorem TextRow.kept {base : Nat} {W W' : World} {row : Option Nat} {g n cap B0 : Nat} {xs : List ByteArray} (h : TextRow base W g n cap xs) (hg : W.grownBy W' row) (hr : ∀ r, row = some r → B0 ≤ r ∧ ∃ o : Obj, W.heap[r]? = some o ∧ o.isCells = false) : TextRow base W' g n cap xs := by
  obtain ⟨cur, hh, hc⟩ := h.heap
  have := hg.size; have := h.lt
  refine ⟨h.len, h.base, by omega, h.le, h.mx, cur, ?_, hc⟩
  rw [hg.block g h.lt (fun e => by
    obtain ⟨_, o, ho, hc⟩ := hr g e.symm
    rw [hh] at ho
    cases ho
    cases hc)]
  exact hh
theorem boxed_setOther {W : World} {B : Nat} {t : TypeId} {v : Value} (h : Boxed W B t v) {a : Addr} (u : Value) (hne : B ≠ a.block) : Boxed (W.setCell a u) B t v := (Below.heap_setCell W a u B hne).trans h
set_option maxHeartbeats 2000000 in
set_option maxRecDepth 100000 in
theorem implValuesOf_any (oa : Option Addr) (m cm : Nat) (xs : List ByteArray) (v : Value) (n base : Nat) (fs : List (ByteArray × ByteArray)) (w : World) (hx : TextsA w oa m xs) (hm : m ≤ 1048577) (hv : FieldsV w base v n fs) (hn : n ≤ 1073741824) (hcp : CopyF fs) :
    Calls Tryz.prog 27 #[.slice oa m cm, v] w fun e w' => RowIs w.heap.size (valsP xs fs) w e w' := by
  obtain ⟨i0, hi, hz0, hz1, hz2⟩ := info_parts info9
  have HLEN : Hid (xs.length = m) := hx.1
  have HX : Hid (∀ W, Below w.heap.size w W → TextsA W oa m xs) := fun W h => hx.below h
  have HV : Hid (∀ W, Below w.heap.size w W → FieldsV W base v n fs) := fun W h => hv.below h
  obtain ⟨oc, cn, hvs, _⟩ := hv.slice
  clear hx hv
  subst hvs
  obtain ⟨M, hM⟩ : ∃ M, M = madeCells (Value.string ⟨#[]⟩).cells (((m : Nat) : Int).toNat * i0.size) := ⟨_, rfl⟩
  have hmk : ∀ W : World, (Instr.makeSlice 29 (.int .i64 (m : Int)) (.int .i64 (m : Int))).run Tryz.prog W = .ok (.slice (some ⟨W.heap.size, 0, none⟩) m m) (W.alloc (.cells M 9)) := fun W => by
    have h := run_make (P := Tryz.prog) W 29 9 i0 (.string ⟨#[]⟩) Tryz.underlying29 hi hz0 .i64 .i64 (m : Int) (m : Int) (by omega) (by omega) (by rw [hz2]; omega) (by omega)
    rw [← hM] at h
    simpa using h
  have HMl : Hid (M.toList = List.replicate m (.string ⟨#[]⟩)) := by
    show _ = _
    rw [hM, hz1, show ((m : Nat) : Int).toNat * 1 = m by omega]
    exact toList_madeCells_one (.string ⟨#[]⟩) m
  clear hM
  have H0 : Hid (∀ o1 o2 o3 : Obj, TextRow w.heap.size ((((w.alloc (.cells M 9)).alloc o1).alloc o2).alloc o3) w.heap.size m m (setTo xs fs m [])) := by
    intro o1 o2 o3
    have hms : M.size = m := by rw [← Array.length_toList, HMl.out]; simp
    refine ⟨by simp [setTo], Nat.le_refl _, by simp; omega, Nat.le_refl _, by unfold maxLen; omega, M, ?_, hms, fun i hi => ?_⟩
    · rw [Below.heap_alloc _ _ _ (by simp; omega), Below.heap_alloc _ _ _ (by simp; omega), Below.heap_alloc _ _ _ (by simp)]
      exact World.alloc_heap_new w _
    · rw [← Array.getElem?_toList, HMl.out]
      simp [setTo, textAt, List.getD_eq_getElem?_getD, hi]
  refine (callsIn_wide (n := 4)).1 ?_
  refine callsIn_of_wp_marks Tryz.func27 rfl trivial ?_ rfl
  simp only [Tryz.ntmps27, List.size_toArray, List.length_cons, List.length_nil, Nat.reduceAdd, Nat.reduceSub, Array.replicate_succ, Array.replicate_zero, List.push_toArray, List.append_toArray, List.nil_append, List.cons_append]
  gi_wp2_with fail
  refine ⟨trivial, (callsIn_wide.2 (toldValues_any oa m cm oc n cn _)).mono ?_⟩
  rintro e w1 ⟨rfl, rfl⟩
  gi_wp2_with fail
  obtain ⟨W4, hW4⟩ : ∃ W4, ((((w.alloc (Obj.cells M 9)).alloc (Obj.cells #[Value.slice (some ⟨w.heap.size, 0, none⟩) m m] 29)).alloc (Obj.cells #[Value.slice oa m cm] 29)).alloc (Obj.cells #[Value.slice oc n cn] 30)) = W4 := ⟨_, rfl⟩
  have r0 : TextRow w.heap.size W4 w.heap.size m m (setTo xs fs m []) := by rw [← hW4]; exact H0.out _ _ _
  have x1 : Boxed W4 (w.heap.size + 1) 29 (.slice (some ⟨w.heap.size, 0, none⟩) m m) := by
    rw [← hW4]
    have h := ((Boxed.new (w.alloc (Obj.cells M 9)) 29 (.slice (some ⟨w.heap.size, 0, none⟩) m m)).alloc (Obj.cells #[Value.slice oa m cm] 29)).alloc (Obj.cells #[Value.slice oc n cn] 30)
    simpa using h
  have x2 : Boxed W4 (w.heap.size + 1 + 1) 29 (.slice oa m cm) := by
    rw [← hW4]
    have h := (Boxed.new ((w.alloc (Obj.cells M 9)).alloc (Obj.cells #[Value.slice (some ⟨w.heap.size, 0, none⟩) m m] 29)) 29 (.slice oa m cm)).alloc (Obj.cells #[Value.slice oc n cn] 30)
    simpa using h
  have x3 : Boxed W4 (w.heap.size + 1 + 1 + 1) 30 (.slice oc n cn) := by
    rw [← hW4]
    have h := Boxed.new (((w.alloc (Obj.cells M 9)).alloc (Obj.cells #[Value.slice (some ⟨w.heap.size, 0, none⟩) m m] 29)).alloc (Obj.cells #[Value.slice oa m cm] 29)) 30 (.slice oc n cn)
    simpa using h
  have hs4 : W4.heap.size = w.heap.size + 4 := by rw [← hW4]; simp
  have hB0 : Below w.heap.size w W4 := by rw [← hW4]; exact ((((Below.refl _ w).alloc (Nat.le_refl _) _).alloc (by simp) _).alloc (by simp; omega) _).alloc (by simp; omega) _
  rw [hW4]
  clear hW4 H0 hmk HMl
  refine wpIn_rangeFunc_ownG rfl (by omega) (gf := 80) (lb := #[.pointer (some ⟨w.heap.size + 1 + 1, 0, none⟩), .pointer (some ⟨w.heap.size + 1 + 1 + 1, 0, none⟩)]) rfl trivial (enters_of Tryz.func80 (by kernel_rfl) rfl)
    (told_stops (4 - 1) (by omega) (w.heap.size + 1 + 1) (w.heap.size + 1 + 1 + 1) w.heap.size oa m cm xs (.slice oc n cn) n base fs w W4 hm hn hcp (by omega) HX.out HV.out hB0 x2 x3) KeepL.trans (keepL_b (by omega) (by omega)) (Below.refl _ _) (fun _ => rfl)
    (fun pre W => (Boxed W (w.heap.size + 1) 29 (.slice (some ⟨w.heap.size, 0, none⟩) m m) ∧ TextRow w.heap.size W w.heap.size m m (setTo xs fs m pre)) ∧ Below w.heap.size w W)
    (fun _ _ _ => False)
    (OwnFrom.and (fun s A B row hs hg hr => ⟨boxed_kept hs.1 hg hr, hs.2.kept hg hr⟩) (ownFrom_below (Nat.le_refl _) (by omega)))
    (fun _ _ _ _ _ hs _ _ => hs)
    ⟨⟨x1, r0⟩, hB0⟩
    (fun x => { tmps := #[.slice oa m cm, .slice oc n cn, undef, undef, .slice none 0 0, .pointer (some ⟨w.heap.size + 1, 0, none⟩), .int .i64 ((x.1 : Nat) : Int), .string (valOf fs (textAt xs x.1)), .slice oa m cm, .int .i64 (m : Int), .slice (some ⟨w.heap.size, 0, none⟩) m m, .slice oa m cm, .slice oc n cn, .func (.func 80) #[] #[.pointer (some ⟨w.heap.size + 1 + 1, 0, none⟩), .pointer (some ⟨w.heap.size + 1 + 1 + 1, 0, none⟩)], .int .i64 ((x.1 : Nat) : Int), .string (valOf fs (textAt xs x.1)), undef, undef, undef, undef, undef], defers := [] }) ?assign ?body ?done ?stop
  case assign =>
    intro l x W K hK
    simp only [toldV]
    gi_wp2
    exact hK
  case body =>
    rintro l pre x W ⟨⟨hb, hr⟩, hB⟩ _
    have hxm : ((x.1 : Nat) : Int) < (m : Int) := by have := x.2; omega
    have hc := hb.cell
    have hcx := hr.cell x.1 x.2
    have hf := hr.frozen x.1
    have HS : Hid (setTo xs fs m (pre ++ [x]) = (setTo xs fs m pre).set x.1 (valOf fs (textAt xs x.1))) := setTo_snoc _ _ _ _ _
    obtain ⟨y, hy⟩ : ∃ y, y = valOf fs (textAt xs x.1) := ⟨_, rfl⟩
    rw [← hy] at HS ⊢
    have HI : Hid (((Boxed (W.setCell ⟨w.heap.size, x.1, none⟩ (.string y)) (w.heap.size + 1) 29 (.slice (some ⟨w.heap.size, 0, none⟩) m m) ∧ TextRow w.heap.size (W.setCell ⟨w.heap.size, x.1, none⟩ (.string y)) w.heap.size m m (setTo xs fs m (pre ++ [x]))) ∧ Below w.heap.size w (W.setCell ⟨w.heap.size, x.1, none⟩ (.string y)))) :=
      ⟨⟨boxed_setOther hb _ (by simp), by rw [HS.out]; exact hr.set x.1 x.2 _⟩, hB.setCell (p := ⟨w.heap.size, x.1, none⟩) (Nat.le_refl _) _⟩
    clear hb hr hB HS hy
    gi_wp2
    exact ⟨(KeepsOthers.setCell _ _ _).from _, ⟨(Below.refl _ W).setCell (p := ⟨w.heap.size, x.1, none⟩) (Nat.le_refl _) _, Below.heap_setCell _ _ _ _ (by simp; omega)⟩, HI.out⟩
  case done =>
    rintro D ys W hD rfl ⟨⟨hb, hr⟩, hB⟩ hK
    have hc := hb.cell
    gi_wp2
    refine ⟨by simp, .inl ⟨_, _, rfl, run_takeDeferred hK, ?_⟩⟩
    exact ⟨_, results_tmp rfl _ _ _, RowIs.of (setTo_all xs fs m HLEN.out) hr.len.symm (ownsRow_putObj hr.owns _ hK rfl) (hB.trans (belowK_b (w := w) (Nat.le_refl _) W D _ _ (by omega) hK rfl rfl))⟩
  case stop =>
    rintro D c pre W _ _ h _
    exact h.elim

end Go.Proofs.YtdlhicdfldecgaaGreat

namespace Go.Proofs.YtdlhicdfldecgaaGreat
open Go.RowKit
open Go.Lib hiding intOf

set_option maxHeartbeats 1000000 in
theorem namesOk_any (oa : Option Addr) (m cm : Nat) (xs : List ByteArray) (w : World) (hx : TextsA w oa m xs) (hm : m ≤ 2000000) (hsz : ∀ i, i < m → (textAt xs i).size ≤ maxLen) :
    Calls Tryz.prog 54 #[.slice oa m cm] w fun e w' => BoolIs (NamesP xs) w e w' := by
  by_cases h4 : (4 : Int) < (m : Int)
  · have HF : Hid (¬ NamesP xs) := fun h => by have := h.2; rw [hx.1] at this; omega
    clear hx hsz
    go_enter Tryz.func54, Tryz.ntmps54
    go_wp2_with fail
    go_ret
    exact BoolIs.no HF.out (Below.refl _ _)
  have HX : Hid (∀ W, Below w.heap.size w W → TextsA W oa m xs) := fun W h => hx.below h
  have HL : Hid (xs.length = m) := hx.1
  have HS : Hid (∀ i, i < m → (textAt xs i).size ≤ maxLen) := hsz
  clear hx hsz
  go_enter Tryz.func54, Tryz.ntmps54
  go_wp2_with fail
  go_loopw [10] (fun i wr => ∃ j : Nat, j ≤ m ∧ i = .int .i64 (j : Int) ∧ Below w.heap.size w wr ∧ Hid (∀ x ∈ xs.take j, TokOk x)) (fun i _ => m - (intOf i).toNat)
  case atStart => exact ⟨0, Nat.zero_le _, rfl, Below.refl _ _, fun x hx => by simp at hx⟩
  case round =>
    obtain ⟨j, hj, rfl, hbw, HN⟩ := hrel
    by_cases hlt : (j : Int) < (m : Int)
    · have hjx : j < xs.length := by rw [HL.out]; omega
      obtain ⟨g, rfl, hg, hc⟩ := (HX.out wr hbw).2 j (by omega)
      have hs := HS.out j (by omega)
      obtain ⟨x, hxx⟩ : ∃ x, x = textAt xs j := ⟨_, rfl⟩
      rw [← hxx] at hc hs
      have HM : Hid (x ∈ xs) := by show _ ∈ _; rw [hxx]; exact textAt_mem xs j hjx
      have HT : Hid (xs.take (j + 1) = xs.take j ++ [x]) := by show _ = _; rw [take_textAt xs j hjx, hxx]
      clear hxx hjx
      go_wp2_with fail
      refine (implTokenOk_any x _ hs).mono ?_
      rintro e w1 ⟨t, rfl, ht, b1⟩
      have hb1 : Below w.heap.size w w1 := hbw.trans (b1.mono hbw.size)
      clear b1 hbw hc
      cases t with
      | false =>
        have HF : Hid (¬ NamesP xs) := fun h => nomatch ht.2 (h.1 x HM.out)
        clear ht HN
        go_wp2_with fail
        go_ret
        exact BoolIs.no HF.out hb1
      | true =>
        have HN2 : Hid (∀ y ∈ xs.take (j + 1), TokOk y) := by
          intro y hy
          rw [HT.out] at hy
          rcases List.mem_append.1 hy with hy | hy
          · exact HN.out y hy
          · rw [List.mem_singleton.1 hy]; exact ht.1 rfl
        clear ht HN
        go_wp2_with fail
        go_roundw
        case rel => exact ⟨j + 1, by omega, by go_num, hb1, HN2⟩
        case measure => simp [intOf]; omega
    · have HQ : Hid (NamesP xs) := ⟨by
        have h := HN.out
        rw [List.take_of_length_le (by rw [HL.out]; omega)] at h
        exact h, by rw [HL.out]; omega⟩
      clear HN
      go_wp2_with fail
      go_ret
      exact ⟨true, rfl, ⟨fun _ => HQ.out, fun _ => rfl⟩, hbw⟩

end Go.Proofs.YtdlhicdfldecgaaGreat

namespace Go.Proofs.YtdlhicdfldecgaaGreat
open Go.RowKit
open Go.Lib hiding intOf

set_option maxHeartbeats 1000000 in
theorem fieldOk_any (v : Value) (n base : Nat) (fs : List (ByteArray × ByteArray)) (k : Nat) (w : World) (hv : FieldsV w base v n fs) (hn : n ≤ 1073741824) (hk : k < n) (hs1 : (nameAt fs k).size ≤ maxLen) (hs2 : (valAt fs k).size ≤ maxLen) :
    Calls Tryz.prog 115 #[v, .int .i64 (k : Int)] w fun e w' => BoolIs (FldOk fs k) w e w' := by
  have HV : Hid (∀ W, Below w.heap.size w W → FieldsV W base v n fs) := fun W h => hv.below h
  obtain ⟨oa, cap, rfl, hrow⟩ := hv.slice
  obtain ⟨g, rfl, row⟩ := hrow k hk
  have hlt2 : (k : Int) < (n : Int) := by omega
  have hc1 := row.name k hk
  have hc2 := row.val k hk
  obtain ⟨nm, hnm⟩ : ∃ x, x = nameAt fs k := ⟨_, rfl⟩
  obtain ⟨vl, hvl⟩ : ∃ x, x = valAt fs k := ⟨_, rfl⟩
  have HO : Hid (FldOk fs k ↔ TokOk nm ∧ ValOk vl ∧ atF fs nm = k ∧ nm ≠ clen) := by rw [hnm, hvl]; exact Iff.rfl
  rw [← hnm] at hc1 hs1
  rw [← hvl] at hc2 hs2
  clear hv hrow row hnm hvl
  obtain ⟨r, hr⟩ : ∃ r, r = w.heap.size := ⟨_, rfl⟩
  have h0 : (w.alloc (.cells #[.string nm, .string vl] 75)).heap.size = w.heap.size + 1 := by simp
  have HB0 : Hid (Below w.heap.size w (w.alloc (.cells #[.string nm, .string vl] 75)) ∧ w.heap.size ≤ (w.alloc (.cells #[.string nm, .string vl] 75)).heap.size) := ⟨(Below.refl _ w).alloc (Nat.le_refl _) _, by omega⟩
  have HR : Hid (∀ W, Below (w.alloc (.cells #[.string nm, .string vl] 75)).heap.size (w.alloc (.cells #[.string nm, .string vl] 75)) W → W.cell? ⟨r, 0, none⟩ = some (.string nm) ∧ W.cell? ⟨r, 1, none⟩ = some (.string vl)) := fun W h => by
    have hh : W.heap[r]? = some (.cells #[.string nm, .string vl] 75) := by rw [hr, h.block _ (by omega)]; exact heap_alloc_new w _
    exact ⟨by simp [World.cell?, hh], by simp [World.cell?, hh]⟩
  go_enter Tryz.func115, Tryz.ntmps115
  go_wp2_with fail
  refine (implTokenOk_any nm _ hs1).mono ?_
  rintro e w1 ⟨b1, rfl, kb1, bb1⟩
  rw [← hr]
  have hb1 : Below w.heap.size w w1 := HB0.out.1.trans (bb1.mono HB0.out.2)
  obtain ⟨d1, d2⟩ := HR.out w1 bb1
  clear h0
  cases b1
  · have HF : Hid (¬ FldOk fs k) := fun h => by have := kb1.2 (HO.out.1 h).1; cases this
    clear kb1 hc1 hc2 bb1 hr
    go_wp2_with fail
    go_ret
    exact BoolIs.no HF.out hb1
  · have HT : Hid (TokOk nm) := kb1.1 rfl
    clear kb1 hc1 hc2 hr
    go_wp2_with fail
    refine (implValueOk_any vl _ hs2).mono ?_
    rintro e w2 ⟨b2, rfl, kb2, bb2⟩
    have bb2' := bb1.trans (bb2.mono bb1.size)
    have hb2 : Below w.heap.size w w2 := HB0.out.1.trans (bb2'.mono HB0.out.2)
    obtain ⟨d3, d4⟩ := HR.out w2 bb2'
    cases b2
    · have HF : Hid (¬ FldOk fs k) := fun h => by have := kb2.2 (HO.out.1 h).2.1; cases this
      clear kb2 bb1 bb2 bb2' hb1 d1 d2
      go_wp2_with fail
      go_ret
      exact BoolIs.no HF.out hb2
    · have HT2 : Hid (ValOk vl) := kb2.1 rfl
      clear kb2 bb1 bb2 bb2' hb1 d1 d2
      by_cases hcl : nm = clen
      · have ht := (text_beq _ _).2 hcl
        rw [clen_list] at ht
        have HF : Hid (¬ FldOk fs k) := fun h => (HO.out.1 h).2.2.2 hcl
        clear hcl
        go_wp2_with fail
        go_ret
        exact BoolIs.no HF.out hb2
      · have ht := text_beq_no hcl
        rw [clen_list] at ht
        have HC : Hid (nm ≠ clen) := hcl
        clear hcl
        go_wp2_with fail
        refine (place_any _ n base fs nm _ (HV.out w2 hb2) hn).mono ?_
        rintro e w3 ⟨rfl, rfl⟩
        by_cases hat : atF fs nm = k
        · have HY : Hid (FldOk fs k) := HO.out.2 ⟨HT.out, HT2.out, hat, HC.out⟩
          rw [hat]
          clear hat
          go_wp2
          go_ret
          exact BoolIs.yes HY.out hb2
        · have HF : Hid (¬ FldOk fs k) := fun h => hat (HO.out.1 h).2.2.1
          have hne : ((atF fs nm : Int) == (k : Int)) = false := by rw [beq_eq_false_iff_ne]; omega
          clear hat
          go_wp2
          go_ret
          exact BoolIs.no HF.out hb2

set_option maxHeartbeats 1000000 in
theorem ok_any (v : Value) (n base : Nat) (fs : List (ByteArray × ByteArray)) (w : World) (hv : FieldsV w base v n fs) (hn : n ≤ 1073741824) (hsz : ∀ i, i < n → (nameAt fs i).size ≤ maxLen ∧ (valAt fs i).size ≤ maxLen) :
    Calls Tryz.prog 112 #[v] w fun e w' => BoolIs (FldsOk fs) w e w' := by
  have hl := hv.len
  have HV : Hid (∀ W, Below w.heap.size w W → FieldsV W base v n fs) := fun W h => hv.below h
  have HS : Hid (∀ i, i < n → (nameAt fs i).size ≤ maxLen ∧ (valAt fs i).size ≤ maxLen) := hsz
  obtain ⟨oa, cap, rfl, hrow⟩ := hv.slice
  clear hv hrow hsz
  by_cases h8 : (8 : Int) < (n : Int)
  · have HF : Hid (¬ FldsOk fs) := fun h => by have := h.1; omega
    go_enter Tryz.func112, Tryz.ntmps112
    go_wp2
    go_ret
    exact BoolIs.no HF.out (Below.refl _ _)
  · go_enter Tryz.func112, Tryz.ntmps112
    go_wp2
    go_loopw [9] (fun i wr => ∃ k : Nat, k ≤ n ∧ i = .int .i64 (k : Int) ∧ Hid (∀ j, j < k → FldOk fs j) ∧ Below w.heap.size w wr) (fun i _ => n - (intOf i).toNat)
    case atStart => exact ⟨0, Nat.zero_le _, rfl, fun j h => absurd h (by omega), Below.refl _ _⟩
    case round =>
      obtain ⟨k, hk, rfl, hall, hbw⟩ := hrel
      by_cases hlt : k < n
      · have hlt2 : (k : Int) < (n : Int) := by omega
        obtain ⟨hs1, hs2⟩ := HS.out k hlt
        go_wp2_with fail
        refine (fieldOk_any _ n base fs k _ (HV.out wr hbw) hn hlt hs1 hs2).mono ?_
        rintro e w1 ⟨b1, rfl, kb1, bb1⟩
        have hb1 : Below w.heap.size w w1 := hbw.trans (bb1.mono hbw.size)
        cases b1
        · have HF : Hid (¬ FldsOk fs) := fun h => by have := kb1.2 (h.2 k (by omega)); cases this
          clear kb1 bb1
          go_wp2
          go_ret
          exact BoolIs.no HF.out hb1
        · have HY : Hid (FldOk fs k) := kb1.1 rfl
          clear kb1 bb1
          go_wp2
          go_roundw
          case rel =>
            refine ⟨k + 1, by omega, by go_num, ?_, hb1⟩
            intro j hj
            by_cases e : j = k
            · subst e; exact HY.out
            · exact hall.out j (by omega)
          case measure => simp [intOf]; omega
      · have HF : Hid (FldsOk fs) := ⟨by omega, fun i hi => hall.out i (by omega)⟩
        go_wp2
        go_ret
        exact BoolIs.yes HF.out hbw

end Go.Proofs.YtdlhicdfldecgaaGreat

namespace Go.Proofs.YtdlhicdfldecgaaGreat
open Go.RowKit
open Go.Lib hiding intOf

theorem path_cls (n : Int) : PathB n ↔ (cls n ≠ 4 ∧ cls n ≠ 7) := by
  have := cls_spec n
  unfold PathB
  constructor
  · intro h; omega
  · intro h; omega
theorem path_small {n : Int} (h : PathB n) : n < 128 := by unfold PathB at h; omega

set_option maxHeartbeats 400000 in
theorem isPathRune_any (r : Int) (w : World) :
    Calls Tryz.prog 86 #[.int .i32 r] w fun e w' => BoolIs (PathB r) w e w' := by
  have HP : Hid (PathB r ↔ (cls r ≠ 4 ∧ cls r ≠ 7)) := path_cls r
  go_enter Tryz.func86, Tryz.ntmps86
  go_wp2_with fail
  refine (classOf_any r _).mono ?_
  rintro e w1 ⟨rfl, hb⟩
  generalize cls r = c at HP ⊢
  by_cases h4 : c = 4
  · have HN : Hid (¬ PathB r) := fun h => (HP.out.1 h).1 h4
    subst h4
    go_wp2_with fail
    go_ret
    exact BoolIs.no HN.out hb
  · have h5 : (c != 4) = true := by rw [bne_iff_ne]; exact h4
    by_cases h7 : c = 7
    · have HN : Hid (¬ PathB r) := fun h => (HP.out.1 h).2 h7
      subst h7
      go_wp2_with fail
      go_ret
      exact BoolIs.no HN.out hb
    · have h8 : (c != 7) = true := by rw [bne_iff_ne]; exact h7
      have HY : Hid (PathB r) := HP.out.2 ⟨h4, h7⟩
      go_wp2_with fail
      go_ret
      exact BoolIs.yes HY.out hb

set_option maxHeartbeats 1000000 in
theorem allRunes_path (s : ByteArray) (w : World) :
    Calls Tryz.prog 85 #[.string s, .func (.func 86) #[] #[]] w fun e w' => BoolIs (AllB PathB s) w e w' := by
  go_enter Tryz.func85, Tryz.ntmps85
  go_wp2
  go_loopw [6] (fun _ wr => ∃ pos : Nat, wr.heap[w.heap.size]? = some (.stringIter s pos) ∧ Below w.heap.size w wr ∧ Hid (AllTo PathB s pos)) (fun _ wr => s.size - wr.iterPos w.heap.size)
  case atStart => exact ⟨0, World.iter_heap _ _ _, (Below.refl _ _).alloc (Nat.le_refl _) _, allTo_zero _ _⟩
  case round =>
    obtain ⟨pos, hh, hbw, hall⟩ := hrel
    by_cases hp : pos < s.size
    · have hnx := fun ty => run_next_any_at (P := Tryz.prog) wr w.heap.size s pos ty hh hp
      go_wp2_with (go_at_call 86; refine (isPathRune_any _ _).mono ?_; rintro e w1 ⟨b, rfl, hbt, hb1⟩)
      · have hbf : b = false := by simpa using ‹(!b) = true›
        have hno : ¬ PathB ((Utf8.decode s pos).1 : Int) := fun h => by rw [hbt.2 h] at hbf; cases hbf
        go_ret
        exact BoolIs.no (rune_no (fun _ => path_small) s pos hp hno) (iter_step hh hbw hb1).2
      · have hbf : b = true := by simpa using ‹(!b) = false›
        obtain ⟨hv, hone⟩ := rune_ok (fun _ => path_small) s pos hp (hbt.1 hbf)
        rw [hone] at hb1
        obtain ⟨h1, h2⟩ := iter_step hh hbw hb1
        exact ⟨⟨pos + 1, h1, h2, allTo_succ hall.out hp hv⟩, by rw [iterPos_of h1, iterPos_of hh]; omega⟩
    · have hnx := fun ty => run_next_end_at (P := Tryz.prog) wr w.heap.size s pos ty hh hp
      go_wp2
      go_ret
      exact BoolIs.yes (allTo_end hall.out hp) hbw

set_option maxHeartbeats 1000000 in
theorem pathOk_any (s : ByteArray) (w : World) (hs : s.size ≤ maxLen) :
    Calls Tryz.prog 62 #[.string s] w fun e w' => BoolIs (PathOk s) w e w' := by
  unfold maxLen at hs
  by_cases h1 : (1 : Int) ≤ (s.size : Int)
  · have h0 : 0 < s.size := by omega
    by_cases h2 : (s.size : Int) ≤ 60
    · by_cases h3 : ((s[0]'h0).toNat : Int) = 47
      · have h4 : (((s[0]'h0).toNat : Int) == 47) = true := by rw [beq_iff_eq]; exact h3
        have H3 : Hid ((s[0]'h0).toNat = 47) := by show _ = _; omega
        clear h3
        go_enter Tryz.func62, Tryz.ntmps62
        go_wp2_with fail
        refine (allRunes_path s _).mono ?_
        rintro e w1 ⟨b, rfl, hbt, hb1⟩
        cases b
        · have HN : Hid (¬ PathOk s) := fun h => by have := hbt.2 h.1; cases this
          clear hbt
          go_wp2_with fail
          go_ret
          exact BoolIs.no HN.out hb1
        · have HY : Hid (PathOk s) := ⟨hbt.1 rfl, by omega, by omega, h0, H3.out⟩
          clear hbt
          go_wp2_with fail
          go_ret
          exact BoolIs.yes HY.out hb1
      · have h4 : (((s[0]'h0).toNat : Int) == 47) = false := by rw [beq_eq_false_iff_ne]; exact h3
        have HN : Hid (¬ PathOk s) := fun h => by obtain ⟨_, _, _, _, h5⟩ := h; omega
        clear h3
        go_enter Tryz.func62, Tryz.ntmps62
        go_wp2_with fail
        go_ret
        exact BoolIs.no HN.out (Below.refl _ _)
    · have HN : Hid (¬ PathOk s) := fun h => by obtain ⟨_, _, h5, _⟩ := h; omega
      have hd : decide ((s.size : Int) ≤ 60) = false := by simpa using h2
      go_enter Tryz.func62, Tryz.ntmps62
      go_wp2_with fail
      go_ret
      exact BoolIs.no HN.out (Below.refl _ _)
  · have HN : Hid (¬ PathOk s) := fun h => by obtain ⟨_, h5, _⟩ := h; omega
    have hd : decide ((1 : Int) ≤ (s.size : Int)) = false := by simpa using h1
    go_enter Tryz.func62, Tryz.ntmps62
    go_wp2_with fail
    go_ret
    exact BoolIs.no HN.out (Below.refl _ _)

theorem methB_none {m : Int} (h : ¬ (1 ≤ m ∧ m ≤ 4)) : methB m = ⟨#[]⟩ := by
  unfold methB
  rw [if_neg (by omega), if_neg (by omega), if_neg (by omega), if_neg (by omega)]
set_option maxHeartbeats 400000 in
theorem methodName_any (m : Int) (w : World) :
    Calls Tryz.prog 104 #[.int .i64 m] w fun e w' => e = .returned (.string (methB m)) ∧ w' = w := by
  by_cases h1 : m = 1
  · subst h1
    go_enter Tryz.func104, Tryz.ntmps104
    go_wp2
    go_ret
    exact ⟨rfl, rfl⟩
  · by_cases h2 : m = 2
    · subst h2
      go_enter Tryz.func104, Tryz.ntmps104
      go_wp2
      go_ret
      exact ⟨rfl, rfl⟩
    · by_cases h3 : m = 3
      · subst h3
        go_enter Tryz.func104, Tryz.ntmps104
        go_wp2
        go_ret
        exact ⟨rfl, rfl⟩
      · by_cases h4 : m = 4
        · subst h4
          go_enter Tryz.func104, Tryz.ntmps104
          go_wp2
          go_ret
          exact ⟨rfl, rfl⟩
        · have HE : Hid (methB m = ⟨#[]⟩) := methB_none (by omega)
          have e1 : (m == 1) = false := by rw [beq_eq_false_iff_ne]; exact h1
          have e2 : (m == 2) = false := by rw [beq_eq_false_iff_ne]; exact h2
          have e3 : (m == 3) = false := by rw [beq_eq_false_iff_ne]; exact h3
          have e4 : (m == 4) = false := by rw [beq_eq_false_iff_ne]; exact h4
          go_enter Tryz.func104, Tryz.ntmps104
          go_wp2
          go_ret
          exact ⟨by rw [HE.out]; rfl, rfl⟩

/-- What is right of what stands behind the first line. -/
def RestP (fs : List (ByteArray × ByteArray)) (b : ByteArray) : Prop := FldsOk fs ∧ b.size ≤ 120
set_option maxHeartbeats 1000000 in
theorem restOk_any (v : Value) (b : ByteArray) (n base : Nat) (fs : List (ByteArray × ByteArray)) (w : World) (hv : FieldsV w base v n fs) (hn : n ≤ 1073741824) (hsz : WalkF n fs) (hb : b.size ≤ maxLen) :
    Calls Tryz.prog 97 #[.agg #[v, .string b]] w fun e w' => BoolIs (RestP fs b) w e w' := by
  obtain ⟨oa, cap, rfl, _⟩ := hv.slice
  obtain ⟨r, hr⟩ : ∃ r, r = w.heap.size := ⟨_, rfl⟩
  have HR : Hid (∀ W, Below (w.alloc (.cells #[.slice oa n cap, .string b] 98)).heap.size (w.alloc (.cells #[.slice oa n cap, .string b] 98)) W → (W.cell? ⟨r, 0, none⟩ = some (.slice oa n cap) ∧ W.cell? ⟨r, 1, none⟩ = some (.string b)) ∧ FieldsV W base (.slice oa n cap) n fs ∧ Below w.heap.size w W) := fun W h => by
    have hh := kept_new h
    rw [← hr] at hh
    exact ⟨⟨by simp [World.cell?, hh], by simp [World.cell?, hh]⟩, hv.below (below_new h), below_new h⟩
  obtain ⟨_, hv0, _⟩ := HR.out _ (Below.refl _ _)
  unfold maxLen at hb
  go_enter Tryz.func97, Tryz.ntmps97
  go_wp2_with fail
  refine (ok_any _ n base fs _ hv0 hn hsz).mono ?_
  rintro e w1 ⟨b1, rfl, kb1, bb1⟩
  rw [← hr]
  obtain ⟨⟨c0, c1⟩, _, hbw1⟩ := HR.out w1 bb1
  clear hv hv0 hsz bb1 hr
  cases b1
  · have HF : Hid (¬ RestP fs b) := fun h => by have := kb1.2 h.1; cases this
    clear kb1
    go_wp2_with fail
    go_ret
    exact BoolIs.no HF.out hbw1
  · have HT : Hid (FldsOk fs) := kb1.1 rfl
    clear kb1
    by_cases h120 : (b.size : Int) ≤ 120
    · have HY : Hid (RestP fs b) := ⟨HT.out, by omega⟩
      go_wp2_with fail
      go_ret
      exact BoolIs.yes HY.out hbw1
    · have HF : Hid (¬ RestP fs b) := fun h => by have := h.2; omega
      have hd : decide ((b.size : Int) ≤ 120) = false := by simpa using h120
      go_wp2_with fail
      go_ret
      exact BoolIs.no HF.out hbw1

theorem meth_empty {m : Int} (h : 1 ≤ m ∧ m ≤ 4) : (methB m).toList.isEmpty = false := by
  refine isEmpty_no ?_
  rcases meth_cases h with rfl | rfl | rfl | rfl <;> decide
set_option maxHeartbeats 1000000 in
theorem reqOk_any (m : Int) (p : ByteArray) (v : Value) (b : ByteArray) (n base : Nat) (fs : List (ByteArray × ByteArray)) (w : World) (hv : FieldsV w base v n fs) (hn : n ≤ 1073741824) (hsz : WalkF n fs) (hp : p.size ≤ maxLen) (hb : b.size ≤ maxLen) :
    Calls Tryz.prog 93 #[.agg #[v, .string b, .int .i64 m, .string p]] w fun e w' => BoolIs (ReqP m p fs b) w e w' := by
  obtain ⟨oa, cap, rfl, _⟩ := hv.slice
  obtain ⟨r, hr⟩ : ∃ r, r = w.heap.size := ⟨_, rfl⟩
  have HR : Hid (∀ W, Below (w.alloc (.cells #[.slice oa n cap, .string b, .int .i64 m, .string p] 110)).heap.size (w.alloc (.cells #[.slice oa n cap, .string b, .int .i64 m, .string p] 110)) W → (W.cell? ⟨r, 0, none⟩ = some (.slice oa n cap) ∧ W.cell? ⟨r, 1, none⟩ = some (.string b) ∧ W.cell? ⟨r, 2, none⟩ = some (.int .i64 m) ∧ W.cell? ⟨r, 3, none⟩ = some (.string p)) ∧ FieldsV W base (.slice oa n cap) n fs ∧ Below w.heap.size w W) := fun W h => by
    have hh := kept_new h
    rw [← hr] at hh
    exact ⟨⟨by simp [World.cell?, hh], by simp [World.cell?, hh], by simp [World.cell?, hh], by simp [World.cell?, hh]⟩, hv.below (below_new h), below_new h⟩
  have HSZ : Hid (WalkF n fs) := hsz
  have HP : Hid (p.size ≤ maxLen) := hp
  have HBS : Hid (b.size ≤ maxLen) := hb
  clear hv hsz hp hb
  go_enter Tryz.func93, Tryz.ntmps93
  go_wp2_with fail
  refine (methodName_any m _).mono ?_
  rintro e w1 ⟨rfl, hw1⟩
  have hb1 : Below (w.alloc (.cells #[.slice oa n cap, .string b, .int .i64 m, .string p] 110)).heap.size (w.alloc (.cells #[.slice oa n cap, .string b, .int .i64 m, .string p] 110)) w1 := by rw [hw1]; exact Below.refl _ _
  clear hw1
  rw [← hr]
  obtain ⟨⟨c0, c1, c2, c3⟩, _, hbw1⟩ := HR.out w1 hb1
  by_cases hm : 1 ≤ m ∧ m ≤ 4
  · have e1 := meth_empty hm
    have HM : Hid (1 ≤ m ∧ m ≤ 4) := hm
    generalize methB m = mt at e1 ⊢
    clear hr hm
    go_wp2_with fail
    refine (pathOk_any p _ HP.out).mono ?_
    rintro e w2 ⟨b1, rfl, kb1, bb2⟩
    have hb2 := hb1.trans (bb2.mono hb1.size)
    clear c0 c1 c2 c3 bb2 hb1 hbw1
    obtain ⟨⟨c0, c1, c2, c3⟩, hv2, hbw2⟩ := HR.out w2 hb2
    have HV2 : Hid (FieldsV w2 base (.slice oa n cap) n fs) := hv2
    clear hv2
    cases b1
    · have HF : Hid (¬ ReqP m p fs b) := fun h => by have := kb1.2 h.2.1; cases this
      clear kb1
      go_wp2_with fail
      go_ret
      exact BoolIs.no HF.out hbw2
    · have HT : Hid (PathOk p) := kb1.1 rfl
      clear kb1
      go_wp2_with fail
      refine (restOk_any _ b n base fs _ HV2.out hn HSZ.out HBS.out).mono ?_
      rintro e w3 ⟨b2, rfl, kb2, bb3⟩
      have hb3 := hb2.trans (bb3.mono hb2.size)
      clear c0 c1 c2 c3 bb3 hb2 hbw2
      obtain ⟨_, _, hbw3⟩ := HR.out w3 hb3
      cases b2
      · have HF : Hid (¬ ReqP m p fs b) := fun h => by have := kb2.2 h.2.2; cases this
        clear kb2
        go_wp2_with fail
        go_ret
        exact BoolIs.no HF.out hbw3
      · have HY : Hid (ReqP m p fs b) := ⟨HM.out, HT.out, kb2.1 rfl⟩
        clear kb2
        go_wp2_with fail
        go_ret
        exact BoolIs.yes HY.out hbw3
  · have HF : Hid (¬ ReqP m p fs b) := fun h => hm h.1
    rw [methB_none hm]
    clear hr hm
    go_wp2_with fail
    go_ret
    exact BoolIs.no HF.out hbw1

set_option maxHeartbeats 1000000 in
theorem respOk_any (st : Int) (v : Value) (b : ByteArray) (n base : Nat) (fs : List (ByteArray × ByteArray)) (w : World) (hv : FieldsV w base v n fs) (hn : n ≤ 1073741824) (hsz : WalkF n fs) (hb : b.size ≤ maxLen) :
    Calls Tryz.prog 84 #[.agg #[v, .string b, .int .i64 st]] w fun e w' => BoolIs (RespP st fs b) w e w' := by
  obtain ⟨oa, cap, rfl, _⟩ := hv.slice
  obtain ⟨r, hr⟩ : ∃ r, r = w.heap.size := ⟨_, rfl⟩
  have HR : Hid (∀ W, Below (w.alloc (.cells #[.slice oa n cap, .string b, .int .i64 st] 100)).heap.size (w.alloc (.cells #[.slice oa n cap, .string b, .int .i64 st] 100)) W → (W.cell? ⟨r, 0, none⟩ = some (.slice oa n cap) ∧ W.cell? ⟨r, 1, none⟩ = some (.string b) ∧ W.cell? ⟨r, 2, none⟩ = some (.int .i64 st)) ∧ FieldsV W base (.slice oa n cap) n fs ∧ Below w.heap.size w W) := fun W h => by
    have hh := kept_new h
    rw [← hr] at hh
    exact ⟨⟨by simp [World.cell?, hh], by simp [World.cell?, hh], by simp [World.cell?, hh]⟩, hv.below (below_new h), below_new h⟩
  obtain ⟨_, hv0, hbw0⟩ := HR.out _ (Below.refl _ _)
  have HV0 : Hid (FieldsV (w.alloc (.cells #[.slice oa n cap, .string b, .int .i64 st] 100)) base (.slice oa n cap) n fs) := hv0
  have HSZ : Hid (WalkF n fs) := hsz
  have HBS : Hid (b.size ≤ maxLen) := hb
  clear hv hv0 hsz hb
  by_cases h1 : 100 ≤ st
  · by_cases h2 : st ≤ 599
    · go_enter Tryz.func84, Tryz.ntmps84
      go_wp2_with fail
      refine (restOk_any _ b n base fs _ HV0.out hn HSZ.out HBS.out).mono ?_
      rintro e w3 ⟨b2, rfl, kb2, bb3⟩
      obtain ⟨_, _, hbw3⟩ := HR.out w3 bb3
      clear bb3 hbw0
      cases b2
      · have HF : Hid (¬ RespP st fs b) := fun h => by have := kb2.2 h.2; cases this
        clear kb2
        go_wp2_with fail
        go_ret
        exact BoolIs.no HF.out hbw3
      · have HY : Hid (RespP st fs b) := ⟨⟨h1, h2⟩, kb2.1 rfl⟩
        clear kb2
        go_wp2_with fail
        go_ret
        exact BoolIs.yes HY.out hbw3
    · have HF : Hid (¬ RespP st fs b) := fun h => h2 h.1.2
      have hd : decide (st ≤ 599) = false := by simpa using h2
      go_enter Tryz.func84, Tryz.ntmps84
      go_wp2_with fail
      go_ret
      exact BoolIs.no HF.out hbw0
  · have HF : Hid (¬ RespP st fs b) := fun h => h1 h.1.1
    have hd : decide (100 ≤ st) = false := by simpa using h1
    go_enter Tryz.func84, Tryz.ntmps84
    go_wp2_with fail
    go_ret
    exact BoolIs.no HF.out hbw0

set_option maxHeartbeats 400000 in
theorem requestOf_any (m : Int) (p : ByteArray) (oa : Option Addr) (n cap : Nat) (b : ByteArray) (w : World) :
    Calls Tryz.prog 92 #[.agg #[.int .i64 m, .string p, .slice oa n cap, .string b]] w fun e w' => e = .returned (.agg #[.slice oa n cap, .string b, .int .i64 m, .string p]) ∧ Below w.heap.size w w' := by
  go_enter Tryz.func92, Tryz.ntmps92
  go_wp2
  exact bodyPost_ret (v := .agg #[.slice oa n cap, .string b, .int .i64 m, .string p]) (by simp [results, Tryz.results92, go_sem]) rfl ⟨rfl, ((Below.refl _ _).alloc (Nat.le_refl _) _).alloc (by simp) _⟩
set_option maxHeartbeats 400000 in
theorem answerOf_any (m : Int) (oa : Option Addr) (n cap : Nat) (b : ByteArray) (w : World) :
    Calls Tryz.prog 83 #[.agg #[.int .i64 m, .slice oa n cap, .string b]] w fun e w' => e = .returned (.agg #[.slice oa n cap, .string b, .int .i64 m]) ∧ Below w.heap.size w w' := by
  go_enter Tryz.func83, Tryz.ntmps83
  go_wp2
  exact bodyPost_ret (v := .agg #[.slice oa n cap, .string b, .int .i64 m]) (by simp [results, Tryz.results83, go_sem]) rfl ⟨rfl, ((Below.refl _ _).alloc (Nat.le_refl _) _).alloc (by simp) _⟩
set_option maxHeartbeats 400000 in
theorem implReqOk_any (m : Int) (p : ByteArray) (v : Value) (b : ByteArray) (n base : Nat) (fs : List (ByteArray × ByteArray)) (w : World) (hv : FieldsV w base v n fs) (hn : n ≤ 1073741824) (hsz : WalkF n fs) (hp : p.size ≤ maxLen) (hb : b.size ≤ maxLen) :
    Calls Tryz.prog 75 #[.agg #[.int .i64 m, .string p, v, .string b]] w fun e w' => BoolIs (ReqP m p fs b) w e w' := by
  obtain ⟨oa, cap, rfl, _⟩ := hv.slice
  have hb0 : Below w.heap.size w (w.alloc (.cells #[.int .i64 m, .string p, .slice oa n cap, .string b] 38)) := (Below.refl _ _).alloc (Nat.le_refl _) _
  go_enter Tryz.func75, Tryz.ntmps75
  go_wp2_with fail
  refine (requestOf_any m p oa n cap b _).mono ?_
  rintro e w1 ⟨rfl, bb1⟩
  have hb1 : Below w.heap.size w w1 := hb0.trans (bb1.mono hb0.size)
  have hv1 := hv.below hb1
  clear bb1 hb0 hv
  go_wp2_with fail
  refine (reqOk_any m p _ b n base fs _ hv1 hn hsz hp hb).mono ?_
  rintro e w2 ⟨b1, rfl, kb, bb2⟩
  have hb2 : Below w.heap.size w w2 := hb1.trans (bb2.mono hb1.size)
  have HK : Hid (b1 = true ↔ ReqP m p fs b) := kb
  clear hv1 hsz hb bb2 hb1 kb hp
  go_wp2_with fail
  go_ret
  exact ⟨b1, rfl, HK.out, hb2⟩

set_option maxHeartbeats 400000 in
theorem implRespOk_any (m : Int) (v : Value) (b : ByteArray) (n base : Nat) (fs : List (ByteArray × ByteArray)) (w : World) (hv : FieldsV w base v n fs) (hn : n ≤ 1073741824) (hsz : WalkF n fs) (hb : b.size ≤ maxLen) :
    Calls Tryz.prog 61 #[.agg #[.int .i64 m, v, .string b]] w fun e w' => BoolIs (RespP m fs b) w e w' := by
  obtain ⟨oa, cap, rfl, _⟩ := hv.slice
  have hb0 : Below w.heap.size w (w.alloc (.cells #[.int .i64 m, .slice oa n cap, .string b] 32)) := (Below.refl _ _).alloc (Nat.le_refl _) _
  go_enter Tryz.func61, Tryz.ntmps61
  go_wp2_with fail
  refine (answerOf_any m oa n cap b _).mono ?_
  rintro e w1 ⟨rfl, bb1⟩
  have hb1 : Below w.heap.size w w1 := hb0.trans (bb1.mono hb0.size)
  have hv1 := hv.below hb1
  clear bb1 hb0 hv
  go_wp2_with fail
  refine (respOk_any m _ b n base fs _ hv1 hn hsz hb).mono ?_
  rintro e w2 ⟨b1, rfl, kb, bb2⟩
  have hb2 : Below w.heap.size w w2 := hb1.trans (bb2.mono hb1.size)
  have HK : Hid (b1 = true ↔ RespP m fs b) := kb
  clear hv1 hsz hb bb2 hb1 kb
  go_wp2_with fail
  go_ret
  exact ⟨b1, rfl, HK.out, hb2⟩

end Go.Proofs.YtdlhicdfldecgaaGreat

namespace Go.Proofs.YtdlhicdfldecgaaGreat
open Go.RowKit
open Go.Lib hiding intOf

set_option maxHeartbeats 20000000 in
set_option maxRecDepth 100000 in
theorem implObjOk_any (p : ByteArray) (o1 : Option Addr) (n1 c1 : Nat) (xs : List ByteArray) (o2 : Option Addr) (n2 c2 : Nat) (ys : List ByteArray) (st : Int) (v3 : Value) (n3 base : Nat) (fs : List (ByteArray × ByteArray)) (b : ByteArray) (t : Int) (w : World) (h1 : TextsA w o1 n1 xs) (h2 : TextsA w o2 n2 ys) (h3 : FieldsV w base v3 n3 fs) (hn1 : n1 ≤ 2000000) (hn2 : n2 ≤ 2000000) (hn3 : n3 ≤ 2000000) (hs1 : ∀ i, i < n1 → (textAt xs i).size ≤ maxLen) (hs2 : ∀ i, i < n2 → (textAt ys i).size ≤ maxLen) (hs3 : WalkF n3 fs) (hc : CopyF fs) (hp : p.size ≤ maxLen) (hx : b.size ≤ maxLen) (hg : (getV fs varyName).size ≤ 1048576) :
    Calls Tryz.prog 29 #[.agg #[.string p, .slice o1 n1 c1, .slice o2 n2 c2, .int .i64 st, v3, .string b, .int .i64 t]] w fun e w' => BoolIs (ObjP p xs ys st fs b t) w e w' := by
  obtain ⟨o3, c3, rfl, _⟩ := h3.slice
  have HV1 : Hid (∀ W, Below w.heap.size w W → TextsA W o1 n1 xs) := fun W h => h1.below h
  have HV2 : Hid (∀ W, Below w.heap.size w W → TextsA W o2 n2 ys) := fun W h => h2.below h
  have HV3 : Hid (∀ W, Below w.heap.size w W → FieldsV W base (.slice o3 n3 c3) n3 fs) := fun W h => h3.below h
  have HL1 : Hid (xs.length = n1) := h1.1
  have HL2 : Hid (ys.length = n2) := h2.1
  have HS1 : Hid (∀ i, i < n1 → (textAt xs i).size ≤ maxLen) := hs1
  have HS2 : Hid (∀ i, i < n2 → (textAt ys i).size ≤ maxLen) := hs2
  have HS3 : Hid (WalkF n3 fs) := hs3
  have HC : Hid (CopyF fs) := hc
  have HPM : Hid (p.size ≤ maxLen) := hp
  have HX : Hid (b.size ≤ maxLen) := hx
  have HG : Hid ((getV fs varyName).size ≤ 1048576) := hg
  obtain ⟨vl, hvl⟩ : ∃ l, l = varyP fs := ⟨_, rfl⟩
  have HVL : Hid (varyP fs = vl) := hvl.symm
  have HVZ : Hid (vl.length ≤ 2000000) := by
    show _ ≤ _
    have hle := splitL_le (getV fs varyName)
    rw [hvl]
    unfold varyP
    rw [List.length_map]
    omega
  clear h1 h2 h3 hs1 hs2 hs3 hc hp hx hg hvl
  have hb0 : Below w.heap.size w w := Below.refl _ _
  go_enter Tryz.func29, Tryz.ntmps29
  go_upto_region 1 with fail
  obtain ⟨qv1, hqv1⟩ : ∃ q, q = (w).heap.size := ⟨_, rfl⟩
  obtain ⟨w1, hW1⟩ : ∃ W, W = (w).alloc (.cells #[.string p, .slice o1 n1 c1, .slice o2 n2 c2, .int .i64 st, .slice o3 n3 c3, .string b, .int .i64 t] 34) := ⟨_, rfl⟩
  have hz1 : (w).heap.size = qv1 := hqv1.symm
  first | rw [← hW1, ← hqv1] | rw [← hW1]
  have hs1 : w1.heap.size = qv1 + 1 := by rw [hW1, ← hz1]; simp
  have bw : Below (w).heap.size (w) w1 := by rw [hW1]; exact (Below.refl _ _).alloc (Nat.le_refl _) _
  have hb1 : Below w.heap.size w (w1) := hb0.trans (bw.mono hb0.size)
  have HM1 : Hid ((w).heap.size ≤ (w1).heap.size) := bw.size
  have HBv1_1 : Hid ((w1).heap[qv1]? = some (.cells #[.string p, .slice o1 n1 c1, .slice o2 n2 c2, .int .i64 st, .slice o3 n3 c3, .string b, .int .i64 t] 34)) := by show _ = _; rw [hW1, ← hz1]; exact heap_alloc_new _ _
  have HGv1 : Hid (w.heap.size ≤ qv1) := by show _ ≤ _; rw [← hz1]; exact hb0.size
  clear hb0 bw hW1 hz1
  clear hs1 hqv1
  have cv1_3 : (w1).cell? ⟨qv1, 3, none⟩ = some (.int .i64 st) := (cell_of HBv1_1.out 3).trans rfl
  have cv1_4 : (w1).cell? ⟨qv1, 4, none⟩ = some (.slice o3 n3 c3) := (cell_of HBv1_1.out 4).trans rfl
  have cv1_5 : (w1).cell? ⟨qv1, 5, none⟩ = some (.string b) := (cell_of HBv1_1.out 5).trans rfl
  go_wp2_with fail
  refine (implRespOk_any st _ b n3 base fs _ (HV3.out _ hb1) (by omega) HS3.out HX.out).mono ?_
  rintro e w2 ⟨u1, rfl, htu1, bw⟩
  have hb2 : Below w.heap.size w (w2) := hb1.trans (bw.mono hb1.size)
  have HM2 : Hid ((w1).heap.size ≤ (w2).heap.size) := bw.size
  have HBv1_2 : Hid ((w2).heap[qv1]? = some (.cells #[.string p, .slice o1 n1 c1, .slice o2 n2 c2, .int .i64 st, .slice o3 n3 c3, .string b, .int .i64 t] 34)) := blk_below HBv1_1.out bw
  clear hb1 HBv1_1 bw
  clear cv1_3 cv1_4 cv1_5
  cases u1 with
  | false =>
    have HF : Hid (¬ ObjP p xs ys st fs b t) := fun h => nomatch htu1.2 h.1
    clear htu1
    go_wp2_with fail
    go_ret
    exact BoolIs.no HF.out hb2
  | true =>
    have HR : Hid (RespP st fs b) := htu1.1 rfl
    clear htu1
    have cv1_0 : (w2).cell? ⟨qv1, 0, none⟩ = some (.string p) := (cell_of HBv1_2.out 0).trans rfl
    go_wp2_with fail
    refine (pathOk_any p _ HPM.out).mono ?_
    rintro e w3 ⟨u2, rfl, htu2, bw⟩
    have hb3 : Below w.heap.size w (w3) := hb2.trans (bw.mono hb2.size)
    have HM3 : Hid ((w2).heap.size ≤ (w3).heap.size) := bw.size
    have HBv1_3 : Hid ((w3).heap[qv1]? = some (.cells #[.string p, .slice o1 n1 c1, .slice o2 n2 c2, .int .i64 st, .slice o3 n3 c3, .string b, .int .i64 t] 34)) := blk_below HBv1_2.out bw
    clear hb2 HBv1_2 bw
    clear cv1_0
    cases u2 with
    | false =>
      have HF : Hid (¬ ObjP p xs ys st fs b t) := fun h => nomatch htu2.2 h.2.1
      clear htu2
      go_wp2_with fail
      go_ret
      exact BoolIs.no HF.out hb3
    | true =>
      have HP : Hid (PathOk p) := htu2.1 rfl
      clear htu2
      have cv1_6 : (w3).cell? ⟨qv1, 6, none⟩ = some (.int .i64 t) := (cell_of HBv1_3.out 6).trans rfl
      go_wp2_with fail
      refine (timeOk_any t _).mono ?_
      rintro e w4 ⟨rfl, hwe⟩
      have bw : Below (w3).heap.size (w3) w4 := by rw [hwe]; exact Below.refl _ _
      clear hwe
      obtain ⟨u3, hu3⟩ : ∃ u3, u3 = decide ((0 : Int) ≤ t ∧ t ≤ 1000000) := ⟨_, rfl⟩
      rw [← hu3]
      have hb4 : Below w.heap.size w (w4) := hb3.trans (bw.mono hb3.size)
      have HM4 : Hid ((w3).heap.size ≤ (w4).heap.size) := bw.size
      have HBv1_4 : Hid ((w4).heap[qv1]? = some (.cells #[.string p, .slice o1 n1 c1, .slice o2 n2 c2, .int .i64 st, .slice o3 n3 c3, .string b, .int .i64 t] 34)) := blk_below HBv1_3.out bw
      clear hb3 HBv1_3 bw
      clear cv1_6
      cases u3 with
      | false =>
        have HF : Hid (¬ ObjP p xs ys st fs b t) := fun h => absurd h.2.2.1 (of_decide_eq_false hu3.symm)
        clear hu3
        go_wp2_with fail
        go_ret
        exact BoolIs.no HF.out hb4
      | true =>
        have HT : Hid (0 ≤ t ∧ t ≤ 1000000) := (show 0 ≤ t ∧ t ≤ 1000000 from of_decide_eq_true hu3.symm)
        clear hu3
        go_upto_region 3 with fail
        refine wp_region_held_drew (S := fun W => W.heap[qv1]? = some (.cells #[.string p, .slice o1 n1 c1, .slice o2 n2 c2, .int .i64 st, .slice o3 n3 c3, .string b, .int .i64 t] 34)) (by kernel_rfl) HBv1_4.out (fun _ => ?_)
        obtain ⟨w5, hX⟩ : ∃ X, X = w4.drew := ⟨_, rfl⟩
        have bw : Below w4.heap.size w4 w5 := by rw [hX]; exact (Below.refl _ _).drew
        rw [← hX]
        have hb5 : Below w.heap.size w (w5) := hb4.trans (bw.mono hb4.size)
        have HM5 : Hid ((w4).heap.size ≤ (w5).heap.size) := bw.size
        have HBv1_5 : Hid ((w5).heap[qv1]? = some (.cells #[.string p, .slice o1 n1 c1, .slice o2 n2 c2, .int .i64 st, .slice o3 n3 c3, .string b, .int .i64 t] 34)) := blk_below HBv1_4.out bw
        have hS5 : w5.heap[qv1]? = some (.cells #[.string p, .slice o1 n1 c1, .slice o2 n2 c2, .int .i64 st, .slice o3 n3 c3, .string b, .int .i64 t] 34) := HBv1_5.out
        clear hb4 HBv1_4 bw hX
        refine wpAnyH_takeD (i := 0) (v := .pointer (some ⟨qv1, 1, none⟩)) (some 20) rfl rfl (by kernel_rfl) (by kernel_rfl) (by kernel_rfl) (fun _ _ _ h => h) (Or.inl ⟨by rfl, by intro W _; go_simp⟩) hS5 ?_
        simp only [Act.put, List.setIfInBounds_toArray, List.set_cons_zero, List.set_cons_succ]
        refine wpAnyH_takeD (i := 1) (v := .slice o1 n1 c1) (some 21) rfl rfl (by kernel_rfl) (by kernel_rfl) (by kernel_rfl) (fun _ _ _ h => h) (Or.inl ⟨by rfl, by intro W hW; have hhv1 := hW; have y1 := (cell_of hhv1 1).trans rfl; go_simp⟩) hS5 ?_
        simp only [Act.put, List.setIfInBounds_toArray, List.set_cons_zero, List.set_cons_succ]
        refine wpAnyH_takeD (i := 2) (v := .pointer (some ⟨qv1, 3, none⟩)) (some 22) rfl rfl (by kernel_rfl) (by kernel_rfl) (by kernel_rfl) (fun _ _ _ h => h) (Or.inl ⟨by rfl, by intro W _; go_simp⟩) hS5 ?_
        simp only [Act.put, List.setIfInBounds_toArray, List.set_cons_zero, List.set_cons_succ]
        refine wpAnyH_takeD (i := 3) (v := .pointer (some ⟨qv1, 4, none⟩)) (some 23) rfl rfl (by kernel_rfl) (by kernel_rfl) (by kernel_rfl) (fun _ _ _ h => h) (Or.inl ⟨by rfl, by intro W _; go_simp⟩) hS5 ?_
        simp only [Act.put, List.setIfInBounds_toArray, List.set_cons_zero, List.set_cons_succ]
        refine wpAnyH_takeD (i := 4) (v := .slice o3 n3 c3) (some 24) rfl rfl (by kernel_rfl) (by kernel_rfl) (by kernel_rfl) (fun _ _ _ h => h) (Or.inl ⟨by rfl, by intro W hW; have hhv1 := hW; have y4 := (cell_of hhv1 4).trans rfl; go_simp⟩) hS5 ?_
        simp only [Act.put, List.setIfInBounds_toArray, List.set_cons_zero, List.set_cons_succ]
        refine wpAnyH_ready (rs := [5]) (by kernel_rfl) (by simp) ?_
        refine AllReadyH.cons rfl (fun K hK => ?_) AllReadyH.nil
        go_simp
        refine (implVaryOf_any _ n3 base fs _ (HV3.out _ hb5) (by omega) HC.out HG.out).mono ?_
        rintro e w6 ⟨vv, rfl, ownY, bw⟩
        obtain ⟨oY, pY, rfl⟩ := slice_of_owns ownY
        rw [HVL.out] at ownY ⊢
        have hb6 : Below w.heap.size w (w6) := hb5.trans (bw.mono hb5.size)
        have HM6 : Hid ((w5).heap.size ≤ (w6).heap.size) := bw.size
        have HBv1_6 : Hid ((w6).heap[qv1]? = some (.cells #[.string p, .slice o1 n1 c1, .slice o2 n2 c2, .int .i64 st, .slice o3 n3 c3, .string b, .int .i64 t] 34)) := blk_below HBv1_5.out bw
        have HOY_6 : Hid ((w6).ownsRow w.heap.size 9 1 (.slice oY vl.length pY) vl.length (vl.map Value.string)) := owns_wide ownY hb5.size
        have LOY : Hid (∀ g, (Value.ownBlock (.slice oY vl.length pY)) = some g → (w5).heap.size ≤ g) := fun g hg => owns_ge ownY hg
        have HIY : Hid (∀ g, (Value.ownBlock (.slice oY vl.length pY)) = some g → g < (w6).heap.size) := fun g hg => owns_lt ownY hg
        clear ownY
        clear hb5 HBv1_5 bw
        have hS6 : w6.heap[qv1]? = some (.cells #[.string p, .slice o1 n1 c1, .slice o2 n2 c2, .int .i64 st, .slice o3 n3 c3, .string b, .int .i64 t] 34) := HBv1_6.out
        refine hK.out _ _ hS6 (fun _ => ?_)
        clear hK K hS5
        refine wpAnyH_ready (rs := [6]) (by kernel_rfl) (by simp) ?_
        refine AllReadyH.cons rfl (fun K hK => ?_) AllReadyH.nil
        go_simp
        refine (equalT_any _ _ _ _ _ _ xs vl _ (HV1.out _ hb6) (by omega) (texts_view HOY_6.out) HVZ.out).mono ?_
        rintro e w7 ⟨rfl, bw⟩
        obtain ⟨u5, hu5⟩ : ∃ u5, u5 = decide (xs = vl) := ⟨_, rfl⟩
        rw [← hu5]
        have hb7 : Below w.heap.size w (w7) := hb6.trans (bw.mono hb6.size)
        have HM7 : Hid ((w6).heap.size ≤ (w7).heap.size) := bw.size
        have HOY_7 : Hid ((w7).ownsRow w.heap.size 9 1 (.slice oY vl.length pY) vl.length (vl.map Value.string)) := owns_below HOY_6.out bw (fun g hg => owns_lt HOY_6.out hg)
        have HBv1_7 : Hid ((w7).heap[qv1]? = some (.cells #[.string p, .slice o1 n1 c1, .slice o2 n2 c2, .int .i64 st, .slice o3 n3 c3, .string b, .int .i64 t] 34)) := blk_below HBv1_6.out bw
        clear hb6 HOY_6 HBv1_6 bw
        have hS7 : w7.heap[qv1]? = some (.cells #[.string p, .slice o1 n1 c1, .slice o2 n2 c2, .int .i64 st, .slice o3 n3 c3, .string b, .int .i64 t] 34) := HBv1_7.out
        refine hK.out _ _ hS7 (fun _ => ?_)
        clear hK K hS6
        refine wpAnyH_takeD (i := 7) (v := .bool u5) (some 27) rfl rfl (by kernel_rfl) (by kernel_rfl) (by kernel_rfl) (fun _ _ _ h => h) (Or.inl ⟨by rfl, by intro W _; go_simp⟩) hS7 ?_
        simp only [Act.put, List.setIfInBounds_toArray, List.set_cons_zero, List.set_cons_succ]
        cases u5 with
        | false =>
          have HF : Hid (¬ ObjP p xs ys st fs b t) := fun h => absurd (h.2.2.2.2.1.trans HVL.out) (of_decide_eq_false hu5.symm)
          clear hu5
          refine wpAnyH_takeD (i := 8) (v := undef) (some 28) rfl rfl (by kernel_rfl) (by kernel_rfl) (by kernel_rfl) (fun _ _ _ h => h) (Or.inr ⟨by rfl, rfl⟩) hS7 ?_
          simp only [Act.put, List.setIfInBounds_toArray, List.set_cons_zero, List.set_cons_succ]
          refine wpAnyH_takeD (i := 9) (v := undef) (some 29) rfl rfl (by kernel_rfl) (by kernel_rfl) (by kernel_rfl) (fun _ _ _ h => h) (Or.inr ⟨by rfl, rfl⟩) hS7 ?_
          simp only [Act.put, List.setIfInBounds_toArray, List.set_cons_zero, List.set_cons_succ]
          refine wpAnyH_takeD (i := 10) (v := undef) (some 30) rfl rfl (by kernel_rfl) (by kernel_rfl) (by kernel_rfl) (fun _ _ _ h => h) (Or.inr ⟨by rfl, rfl⟩) hS7 ?_
          simp only [Act.put, List.setIfInBounds_toArray, List.set_cons_zero, List.set_cons_succ]
          refine wpAnyH_takeD (i := 11) (v := .bool false) (some 31) rfl rfl (by kernel_rfl) (by kernel_rfl) (by kernel_rfl) (fun _ _ _ h => h) (Or.inl ⟨by rfl, by intro W _; go_simp⟩) hS7 ?_
          simp only [Act.put, List.setIfInBounds_toArray, List.set_cons_zero, List.set_cons_succ]
          refine wpAnyH_takeD (i := 12) (v := .bool false) (some 3) rfl rfl (by kernel_rfl) (by kernel_rfl) (by kernel_rfl) (fun _ _ _ h => h) (Or.inl ⟨by rfl, by intro W _; go_simp⟩) hS7 ?_
          simp only [Act.put, List.setIfInBounds_toArray, List.set_cons_zero, List.set_cons_succ]
          clear hS7
          refine wpAnyH_done (by kernel_rfl) ?_ _
          go_wp2_with fail
          go_ret
          exact BoolIs.no HF.out hb7
        | true =>
          have HE : Hid (xs = vl) := (show xs = vl from of_decide_eq_true hu5.symm)
          clear hu5
          refine wpAnyH_takeD (i := 8) (v := .pointer (some ⟨qv1, 1, none⟩)) (some 28) rfl rfl (by kernel_rfl) (by kernel_rfl) (by kernel_rfl) (fun _ _ _ h => h) (Or.inl ⟨by rfl, by intro W _; go_simp⟩) hS7 ?_
          simp only [Act.put, List.setIfInBounds_toArray, List.set_cons_zero, List.set_cons_succ]
          refine wpAnyH_takeD (i := 9) (v := .slice o1 n1 c1) (some 29) rfl rfl (by kernel_rfl) (by kernel_rfl) (by kernel_rfl) (fun _ _ _ h => h) (Or.inl ⟨by rfl, by intro W hW; have hhv1 := hW; have y1 := (cell_of hhv1 1).trans rfl; go_simp⟩) hS7 ?_
          simp only [Act.put, List.setIfInBounds_toArray, List.set_cons_zero, List.set_cons_succ]
          refine wpAnyH_ready (rs := [10]) (by kernel_rfl) (by simp) ?_
          refine AllReadyH.cons rfl (fun K hK => ?_) AllReadyH.nil
          go_simp
          refine (namesOk_any _ _ _ xs _ (HV1.out _ hb7) (by omega) HS1.out).mono ?_
          rintro e w8 ⟨u4, rfl, htu4, bw⟩
          have hb8 : Below w.heap.size w (w8) := hb7.trans (bw.mono hb7.size)
          have HM8 : Hid ((w7).heap.size ≤ (w8).heap.size) := bw.size
          have HOY_8 : Hid ((w8).ownsRow w.heap.size 9 1 (.slice oY vl.length pY) vl.length (vl.map Value.string)) := owns_below HOY_7.out bw (fun g hg => owns_lt HOY_7.out hg)
          have HBv1_8 : Hid ((w8).heap[qv1]? = some (.cells #[.string p, .slice o1 n1 c1, .slice o2 n2 c2, .int .i64 st, .slice o3 n3 c3, .string b, .int .i64 t] 34)) := blk_below HBv1_7.out bw
          clear hb7 HOY_7 HBv1_7 bw
          have hS8 : w8.heap[qv1]? = some (.cells #[.string p, .slice o1 n1 c1, .slice o2 n2 c2, .int .i64 st, .slice o3 n3 c3, .string b, .int .i64 t] 34) := HBv1_8.out
          refine hK.out _ _ hS8 (fun _ => ?_)
          clear hK K hS7
          refine wpAnyH_takeD (i := 11) (v := .bool u4) (some 31) rfl rfl (by kernel_rfl) (by kernel_rfl) (by kernel_rfl) (fun _ _ _ h => h) (Or.inl ⟨by rfl, by intro W _; go_simp⟩) hS8 ?_
          simp only [Act.put, List.setIfInBounds_toArray, List.set_cons_zero, List.set_cons_succ]
          refine wpAnyH_takeD (i := 12) (v := .bool u4) (some 3) rfl rfl (by kernel_rfl) (by kernel_rfl) (by kernel_rfl) (fun _ _ _ h => h) (Or.inl ⟨by rfl, by intro W _; go_simp⟩) hS8 ?_
          simp only [Act.put, List.setIfInBounds_toArray, List.set_cons_zero, List.set_cons_succ]
          clear hS8
          refine wpAnyH_done (by kernel_rfl) ?_ _
          cases u4 with
          | false =>
            have HF : Hid (¬ ObjP p xs ys st fs b t) := fun h => nomatch htu4.2 h.2.2.2.1
            clear htu4
            go_wp2_with fail
            go_ret
            exact BoolIs.no HF.out hb8
          | true =>
            have HNM : Hid (NamesP xs) := htu4.1 rfl
            clear htu4
            by_cases hc1 : (n2 : Int) = (n1 : Int)
            · have hc1b : (((n2 : Int) : Int) == ((n1 : Int) : Int)) = true := by simpa using hc1
              have hc1n : (((n2 : Int) : Int) != ((n1 : Int) : Int)) = false := by simpa using hc1
              have HEQ : Hid ((n2 : Int) = (n1 : Int)) := hc1
              have hc1H : Hid ((n2 : Int) = (n1 : Int)) := hc1
              clear hc1
              have cv1_1 : (w8).cell? ⟨qv1, 1, none⟩ = some (.slice o1 n1 c1) := (cell_of HBv1_8.out 1).trans rfl
              have cv1_2 : (w8).cell? ⟨qv1, 2, none⟩ = some (.slice o2 n2 c2) := (cell_of HBv1_8.out 2).trans rfl
              go_wp2_with fail
              refine (valuesOk_any _ _ _ ys _ (HV2.out _ hb8) (by omega) HS2.out).mono ?_
              rintro e w9 ⟨u6, rfl, htu6, bw⟩
              have hb9 : Below w.heap.size w (w9) := hb8.trans (bw.mono hb8.size)
              have HM9 : Hid ((w8).heap.size ≤ (w9).heap.size) := bw.size
              have HOY_9 : Hid ((w9).ownsRow w.heap.size 9 1 (.slice oY vl.length pY) vl.length (vl.map Value.string)) := owns_below HOY_8.out bw (fun g hg => owns_lt HOY_8.out hg)
              have HBv1_9 : Hid ((w9).heap[qv1]? = some (.cells #[.string p, .slice o1 n1 c1, .slice o2 n2 c2, .int .i64 st, .slice o3 n3 c3, .string b, .int .i64 t] 34)) := blk_below HBv1_8.out bw
              clear hb8 HOY_8 HBv1_8 bw
              clear cv1_1 cv1_2
              go_wp2_with fail
              go_ret
              exact ⟨u6, rfl, ⟨fun h => ⟨HR.out, HP.out, HT.out, HNM.out, HE.out.trans HVL.out.symm, by have h1 := HL1.out; have h2 := HL2.out; have h3 := HEQ.out; omega, htu6.1 h⟩, fun h => htu6.2 h.2.2.2.2.2.2⟩, hb9⟩
            · have hc1b : (((n2 : Int) : Int) == ((n1 : Int) : Int)) = false := by simpa using hc1
              have hc1n : (((n2 : Int) : Int) != ((n1 : Int) : Int)) = true := by simpa using hc1
              have HF : Hid (¬ ObjP p xs ys st fs b t) := fun h => by have h1 := h.2.2.2.2.2.1; have h2 := HL1.out; have h3 := HL2.out; omega
              have hc1H : Hid (¬ ((n2 : Int) = (n1 : Int))) := hc1
              clear hc1
              have cv1_1 : (w8).cell? ⟨qv1, 1, none⟩ = some (.slice o1 n1 c1) := (cell_of HBv1_8.out 1).trans rfl
              have cv1_2 : (w8).cell? ⟨qv1, 2, none⟩ = some (.slice o2 n2 c2) := (cell_of HBv1_8.out 2).trans rfl
              go_wp2_with fail
              go_ret
              exact BoolIs.no HF.out hb8

end Go.Proofs.YtdlhicdfldecgaaGreat

namespace Go.Proofs.YtdlhicdfldecgaaGreat
open Go.RowKit
open Go.Lib hiding intOf

set_option maxHeartbeats 2000000 in
theorem saidByFlag_any (x : ByteArray) (w : World) :
    Calls Tryz.prog 102 #[.string x] w fun e w' => e = .returned (saidF x).v ∧ Below w.heap.size w w' := by
  have hR : CcAt (w.alloc (.cells #[.bool false, .bool false, .bool false, .bool false, .bool false, .int .i64 0] 66)) w.heap.size cc0 := heap_alloc_new w _
  have HB0 : Hid (Below w.heap.size w (w.alloc (.cells #[.bool false, .bool false, .bool false, .bool false, .bool false, .int .i64 0] 66))) := (Below.refl _ _).alloc (Nat.le_refl _) _
  obtain ⟨W1, hW1⟩ : ∃ W, W = w.alloc (.cells #[.bool false, .bool false, .bool false, .bool false, .bool false, .int .i64 0] 66) := ⟨_, rfl⟩
  have HW1 : Hid (w.alloc (.cells #[.bool false, .bool false, .bool false, .bool false, .bool false, .int .i64 0] 66) = W1) := hW1.symm
  rw [← hW1] at hR HB0
  obtain ⟨H, hH⟩ : ∃ H, H = w.heap.size := ⟨_, rfl⟩
  have HW : Hid (w.heap.size = H) := hH.symm
  rw [← hH] at hR HB0
  clear hW1
  obtain ⟨r0, r1, r2, r3, r4, r5⟩ := hR.cells
  have f0 := hR.frozen 0
  have f1 := hR.frozen 1
  have f2 := hR.frozen 2
  have f3 := hR.frozen 3
  have f4 := hR.frozen 4
  have f5 := hR.frozen 5
  obtain ⟨c, hc⟩ : ∃ c, c = saidF x := ⟨_, rfl⟩
  have HC : Hid (saidF x = c) := hc.symm
  obtain ⟨m0, m1, m2, m3, m4, m5⟩ := (hR.putAll c).cells
  have HB : Hid (Below H w (putCc W1 H c)) := below_putCc HB0.out (Nat.le_refl _) c
  unfold putCc at m0 m1 m2 m3 m4 m5 HB
  clear hR HB0
  unfold saidF at hc
  by_cases h0 : x = nsW
  · have t0 : (x.toList == nsW.toList) = true := (text_beq _ _).2 h0
    rw [nsW_list] at t0
    rw [if_pos h0] at hc
    subst hc
    clear h0 
    dsimp only at m0 m1 m2 m3 m4 m5 HB
    go_enter Tryz.func102, Tryz.ntmps102
    go_upto_region 1 with fail
    rw [HW1.out, ← hH]
    clear hH HW1
    go_wp2_with fail
    refine bodyPost_ret (v := (saidF x).v) (by rw [HC.out]; simp [results, Tryz.results102, go_sem, m0, m1, m2, m3, m4, m5, CcD.v]) rfl ?_
    exact ⟨rfl, by rw [HW.out]; exact HB.out⟩
  have t0 : (x.toList == nsW.toList) = false := text_beq_no h0
  rw [nsW_list] at t0
  by_cases h1 : x = ncW
  · have t1 : (x.toList == ncW.toList) = true := (text_beq _ _).2 h1
    rw [ncW_list] at t1
    rw [if_neg h0, if_pos h1] at hc
    subst hc
    clear h1 h0
    dsimp only at m0 m1 m2 m3 m4 m5 HB
    go_enter Tryz.func102, Tryz.ntmps102
    go_upto_region 1 with fail
    rw [HW1.out, ← hH]
    clear hH HW1
    go_wp2_with fail
    refine bodyPost_ret (v := (saidF x).v) (by rw [HC.out]; simp [results, Tryz.results102, go_sem, m0, m1, m2, m3, m4, m5, CcD.v]) rfl ?_
    exact ⟨rfl, by rw [HW.out]; exact HB.out⟩
  have t1 : (x.toList == ncW.toList) = false := text_beq_no h1
  rw [ncW_list] at t1
  by_cases h2 : x = prW
  · have t2 : (x.toList == prW.toList) = true := (text_beq _ _).2 h2
    rw [prW_list] at t2
    rw [if_neg h0, if_neg h1, if_pos h2] at hc
    subst hc
    clear h2 h0 h1
    dsimp only at m0 m1 m2 m3 m4 m5 HB
    go_enter Tryz.func102, Tryz.ntmps102
    go_upto_region 1 with fail
    rw [HW1.out, ← hH]
    clear hH HW1
    go_wp2_with fail
    refine bodyPost_ret (v := (saidF x).v) (by rw [HC.out]; simp [results, Tryz.results102, go_sem, m0, m1, m2, m3, m4, m5, CcD.v]) rfl ?_
    exact ⟨rfl, by rw [HW.out]; exact HB.out⟩
  have t2 : (x.toList == prW.toList) = false := text_beq_no h2
  rw [prW_list] at t2
  by_cases h4 : x = muW
  · have t3 : (x.toList == muW.toList) = true := (text_beq _ _).2 h4
    rw [muW_list] at t3
    rw [if_neg h0, if_neg h1, if_neg h2, if_pos h4] at hc
    subst hc
    clear h4 h0 h1 h2
    dsimp only at m0 m1 m2 m3 m4 m5 HB
    go_enter Tryz.func102, Tryz.ntmps102
    go_upto_region 1 with fail
    rw [HW1.out, ← hH]
    clear hH HW1
    go_wp2_with fail
    refine bodyPost_ret (v := (saidF x).v) (by rw [HC.out]; simp [results, Tryz.results102, go_sem, m0, m1, m2, m3, m4, m5, CcD.v]) rfl ?_
    exact ⟨rfl, by rw [HW.out]; exact HB.out⟩
  have t3 : (x.toList == muW.toList) = false := text_beq_no h4
  rw [muW_list] at t3
  rw [if_neg h0, if_neg h1, if_neg h2, if_neg h4] at hc
  subst hc
  clear h0 h1 h2 h4
  dsimp only [cc0] at m0 m1 m2 m3 m4 m5 HB
  go_enter Tryz.func102, Tryz.ntmps102
  go_upto_region 1 with fail
  rw [HW1.out, ← hH]
  clear hH HW1
  go_wp2_with fail
  refine bodyPost_ret (v := (saidF x).v) (by rw [HC.out]; simp [results, Tryz.results102, go_sem, m0, m1, m2, m3, m4, m5, CcD.v, cc0]) rfl ?_
  exact ⟨rfl, by rw [HW.out]; exact HB.out⟩

end Go.Proofs.YtdlhicdfldecgaaGreat
