/- What the proof of FnKeptOf leans on: contracts of the program's and the specification's functions, and plain facts (part 7 of 7). -/
import Derived.Test.YtdlhicdfldecgaaGreatDoorFnKeptOfF
namespace Go.Proofs.YtdlhicdfldecgaaGreatDoor
open Go.RowKit
open Go.Lib hiding intOf

set_option maxHeartbeats 8000000 in
set_option maxRecDepth 100000 in
theorem copiedAnswer_any (st : Int) (u : Value) (d : ByteArray) (k base : Nat) (gs : List (ByteArray × ByteArray)) (w : World) (hu : FieldsV w base u k gs) (hk : k ≤ 1999999) (hc2 : CopyF gs) (hd : d.size ≤ 281474976710656) :
    Calls Tryz.prog 58 #[.agg #[.int .i64 st, u, .string d]] w fun e w' => RespRow st gs d w e w' := by
  obtain ⟨ob, cb, rfl, _⟩ := hu.slice
  have HV2 : Hid (∀ W, Below w.heap.size w W → FieldsV W base (.slice ob k cb) k gs) := fun W h => hu.below h
  have HLG : Hid (gs.length = k) := hu.len
  have HC2 : Hid (CopyF gs) := hc2
  have HDM : Hid (d.size ≤ 281474976710656) := hd
  clear hu hc2 hd
  have hb0 : Below w.heap.size w w := Below.refl _ _
  go_enter Tryz.func58, Tryz.ntmps58
  go_upto_region 1 with fail
  obtain ⟨qv1, hqv1⟩ : ∃ q, q = (w).heap.size := ⟨_, rfl⟩
  obtain ⟨w1, hW1⟩ : ∃ W, W = (w).alloc (.cells #[.int .i64 st, .slice ob k cb, .string d] 27) := ⟨_, rfl⟩
  have hz1 : (w).heap.size = qv1 := hqv1.symm
  first | rw [← hW1, ← hqv1] | rw [← hW1]
  have hs1 : w1.heap.size = qv1 + 1 := by rw [hW1, ← hz1]; simp
  have bw : Below (w).heap.size (w) w1 := by rw [hW1]; exact (Below.refl _ _).alloc (Nat.le_refl _) _
  have hb1 : Below w.heap.size w (w1) := hb0.trans (bw.mono hb0.size)
  have HM1 : Hid ((w).heap.size ≤ (w1).heap.size) := bw.size
  have HBv1_1 : Hid ((w1).heap[qv1]? = some (.cells #[.int .i64 st, .slice ob k cb, .string d] 27)) := by show _ = _; rw [hW1, ← hz1]; exact heap_alloc_new _ _
  have HGv1 : Hid (w.heap.size ≤ qv1) := by show _ ≤ _; rw [← hz1]; exact hb0.size
  clear hb0 bw hW1 hz1
  obtain ⟨qv2, hqv2⟩ : ∃ q, q = qv1 + 1 := ⟨_, rfl⟩
  obtain ⟨w2, hW2⟩ : ∃ W, W = (w1).alloc (.cells #[.int .i64 0, .slice none 0 0, .string ⟨#[]⟩] 27) := ⟨_, rfl⟩
  have hz2 : (w1).heap.size = qv2 := by rw [hqv2]; exact hs1
  first | rw [← hW2, ← hqv2] | rw [← hW2]
  have hs2 : w2.heap.size = qv2 + 1 := by rw [hW2, ← hz2]; simp
  have bw : Below (w1).heap.size (w1) w2 := by rw [hW2]; exact (Below.refl _ _).alloc (Nat.le_refl _) _
  have hb2 : Below w.heap.size w (w2) := hb1.trans (bw.mono hb1.size)
  have HM2 : Hid ((w1).heap.size ≤ (w2).heap.size) := bw.size
  have HBv1_2 : Hid ((w2).heap[qv1]? = some (.cells #[.int .i64 st, .slice ob k cb, .string d] 27)) := blk_below HBv1_1.out bw
  have HNv1v2 : Hid (qv1 ≠ qv2) := fun e => by have h1 := (Array.getElem?_eq_some_iff.1 HBv1_1.out).1; omega
  have HBv2_2 : Hid ((w2).heap[qv2]? = some (.cells #[.int .i64 0, .slice none 0 0, .string ⟨#[]⟩] 27)) := by show _ = _; rw [hW2, ← hz2]; exact heap_alloc_new _ _
  have HGv2 : Hid (w.heap.size ≤ qv2) := by show _ ≤ _; rw [← hz2]; exact hb1.size
  clear hb1 HBv1_1 bw hW2 hz2
  clear hs2 hqv2 hs1 hqv1
  go_upto_region 1 with fail
  refine wp_region_held_drew (S := fun W => W.heap[qv1]? = some (.cells #[.int .i64 st, .slice ob k cb, .string d] 27)) (by kernel_rfl) HBv1_2.out (fun _ => ?_)
  obtain ⟨w3, hX⟩ : ∃ X, X = w2.drew := ⟨_, rfl⟩
  have bw : Below w2.heap.size w2 w3 := by rw [hX]; exact (Below.refl _ _).drew
  rw [← hX]
  have hb3 : Below w.heap.size w (w3) := hb2.trans (bw.mono hb2.size)
  have HM3 : Hid ((w2).heap.size ≤ (w3).heap.size) := bw.size
  have HBv1_3 : Hid ((w3).heap[qv1]? = some (.cells #[.int .i64 st, .slice ob k cb, .string d] 27)) := blk_below HBv1_2.out bw
  have HBv2_3 : Hid ((w3).heap[qv2]? = some (.cells #[.int .i64 0, .slice none 0 0, .string ⟨#[]⟩] 27)) := blk_below HBv2_2.out bw
  have hS3 : w3.heap[qv1]? = some (.cells #[.int .i64 st, .slice ob k cb, .string d] 27) := HBv1_3.out
  clear hb2 HBv1_2 HBv2_2 bw hX
  refine wpAnyH_takeD (i := 0) (v := .pointer (some ⟨qv1, 0, none⟩)) (some 3) rfl rfl (by kernel_rfl) (by kernel_rfl) (by kernel_rfl) (fun _ _ _ h => h) (Or.inl ⟨by rfl, by intro W _; go_simp⟩) hS3 ?_
  simp only [Act.put, List.setIfInBounds_toArray, List.set_cons_zero, List.set_cons_succ]
  refine wpAnyH_takeD (i := 1) (v := .int .i64 st) (some 4) rfl rfl (by kernel_rfl) (by kernel_rfl) (by kernel_rfl) (fun _ _ _ h => h) (Or.inl ⟨by rfl, by intro W hW; have hhv1 := hW; have y0 := (cell_of hhv1 0).trans rfl; go_simp⟩) hS3 ?_
  simp only [Act.put, List.setIfInBounds_toArray, List.set_cons_zero, List.set_cons_succ]
  refine wpAnyH_takeD (i := 2) (v := .pointer (some ⟨qv1, 1, none⟩)) (some 5) rfl rfl (by kernel_rfl) (by kernel_rfl) (by kernel_rfl) (fun _ _ _ h => h) (Or.inl ⟨by rfl, by intro W _; go_simp⟩) hS3 ?_
  simp only [Act.put, List.setIfInBounds_toArray, List.set_cons_zero, List.set_cons_succ]
  refine wpAnyH_takeD (i := 3) (v := .slice ob k cb) (some 6) rfl rfl (by kernel_rfl) (by kernel_rfl) (by kernel_rfl) (fun _ _ _ h => h) (Or.inl ⟨by rfl, by intro W hW; have hhv1 := hW; have y1 := (cell_of hhv1 1).trans rfl; go_simp⟩) hS3 ?_
  simp only [Act.put, List.setIfInBounds_toArray, List.set_cons_zero, List.set_cons_succ]
  refine wpAnyH_takeD (i := 5) (v := .pointer (some ⟨qv1, 2, none⟩)) (some 8) rfl rfl (by kernel_rfl) (by kernel_rfl) (by kernel_rfl) (fun _ _ _ h => h) (Or.inl ⟨by rfl, by intro W _; go_simp⟩) hS3 ?_
  simp only [Act.put, List.setIfInBounds_toArray, List.set_cons_zero, List.set_cons_succ]
  refine wpAnyH_takeD (i := 6) (v := .string d) (some 9) rfl rfl (by kernel_rfl) (by kernel_rfl) (by kernel_rfl) (fun _ _ _ h => h) (Or.inl ⟨by rfl, by intro W hW; have hhv1 := hW; have y2 := (cell_of hhv1 2).trans rfl; go_simp⟩) hS3 ?_
  simp only [Act.put, List.setIfInBounds_toArray, List.set_cons_zero, List.set_cons_succ]
  refine wpAnyH_ready (rs := [4]) (by kernel_rfl) (by simp) ?_
  refine AllReadyH.cons rfl (fun K hK => ?_) AllReadyH.nil
  go_simp
  refine (copied_any _ k base gs _ (HV2.out _ hb3) (by omega) HC2.out).mono ?_
  rintro e w4 ⟨vv, rfl, ownG, bw⟩
  obtain ⟨oG, pG, rfl⟩ := slice_of_owns ownG
  rw [HLG.out] at ownG ⊢
  have hb4 : Below w.heap.size w (w4) := hb3.trans (bw.mono hb3.size)
  have HM4 : Hid ((w3).heap.size ≤ (w4).heap.size) := bw.size
  have HBv1_4 : Hid ((w4).heap[qv1]? = some (.cells #[.int .i64 st, .slice ob k cb, .string d] 27)) := blk_below HBv1_3.out bw
  have HBv2_4 : Hid ((w4).heap[qv2]? = some (.cells #[.int .i64 0, .slice none 0 0, .string ⟨#[]⟩] 27)) := blk_below HBv2_3.out bw
  have HOG_4 : Hid ((w4).ownsRow w.heap.size 131 2 (.slice oG k pG) k (flatF gs)) := owns_wide ownG hb3.size
  have LOG : Hid (∀ g, (Value.ownBlock (.slice oG k pG)) = some g → (w3).heap.size ≤ g) := fun g hg => owns_ge ownG hg
  have HIG : Hid (∀ g, (Value.ownBlock (.slice oG k pG)) = some g → g < (w4).heap.size) := fun g hg => owns_lt ownG hg
  clear ownG
  clear hb3 HBv1_3 HBv2_3 bw
  have hS4 : w4.heap[qv1]? = some (.cells #[.int .i64 st, .slice ob k cb, .string d] 27) := HBv1_4.out
  refine hK.out _ _ hS4 (fun _ => ?_)
  clear hK K hS3
  refine wpAnyH_ready (rs := [7]) (by kernel_rfl) (by simp) ?_
  refine AllReadyH.cons rfl (fun K hK => ?_) AllReadyH.nil
  go_simp
  refine (clone_any d _ HDM.out).mono ?_
  rintro e w5 ⟨rfl, bw⟩
  have hb5 : Below w.heap.size w (w5) := hb4.trans (bw.mono hb4.size)
  have HM5 : Hid ((w4).heap.size ≤ (w5).heap.size) := bw.size
  have HOG_5 : Hid ((w5).ownsRow w.heap.size 131 2 (.slice oG k pG) k (flatF gs)) := owns_below HOG_4.out bw (fun g hg => owns_lt HOG_4.out hg)
  have HBv1_5 : Hid ((w5).heap[qv1]? = some (.cells #[.int .i64 st, .slice ob k cb, .string d] 27)) := blk_below HBv1_4.out bw
  have HBv2_5 : Hid ((w5).heap[qv2]? = some (.cells #[.int .i64 0, .slice none 0 0, .string ⟨#[]⟩] 27)) := blk_below HBv2_4.out bw
  clear hb4 HOG_4 HBv1_4 HBv2_4 bw
  have hS5 : w5.heap[qv1]? = some (.cells #[.int .i64 st, .slice ob k cb, .string d] 27) := HBv1_5.out
  refine hK.out _ _ hS5 (fun _ => ?_)
  clear hK K hS4
  refine wpAnyH_takeD (i := 8) (v := .agg #[.int .i64 st, .slice oG k pG, .string d]) (some 11) rfl rfl (by kernel_rfl) (by kernel_rfl) (by kernel_rfl) (fun _ _ _ h => h) (Or.inl ⟨by rfl, by intro W _; go_simp⟩) hS5 ?_
  simp only [Act.put, List.setIfInBounds_toArray, List.set_cons_zero, List.set_cons_succ]
  refine wpAnyH_ready (rs := [9]) (by kernel_rfl) (by simp) ?_
  refine AllReadyH.cons rfl (fun K hK => ?_) AllReadyH.nil
  have ce0 : (w5).cell? ⟨qv2, 0, none⟩ = some (.int .i64 0) := (cell_of HBv2_5.out 0).trans rfl
  have fe0 : (w5).frozen? ⟨qv2, 0, none⟩ = false := frozen_of HBv2_5.out 0
  have ce1 : (w5).cell? ⟨qv2, 1, none⟩ = some (.slice none 0 0) := (cell_of HBv2_5.out 1).trans rfl
  have fe1 : (w5).frozen? ⟨qv2, 1, none⟩ = false := frozen_of HBv2_5.out 1
  have ce2 : (w5).cell? ⟨qv2, 2, none⟩ = some (.string ⟨#[]⟩) := (cell_of HBv2_5.out 2).trans rfl
  have fe2 : (w5).frozen? ⟨qv2, 2, none⟩ = false := frozen_of HBv2_5.out 2
  obtain ⟨w6, hY⟩ : ∃ Y, Y = (((w5.setCell ⟨qv2, 0, none⟩ (.int .i64 st)).setCell ⟨qv2, 1, none⟩ (.slice oG k pG)).setCell ⟨qv2, 2, none⟩ (.string d)) := ⟨_, rfl⟩
  have HY : Hid ((((w5.setCell ⟨qv2, 0, none⟩ (.int .i64 st)).setCell ⟨qv2, 1, none⟩ (.slice oG k pG)).setCell ⟨qv2, 2, none⟩ (.string d)) = w6) := hY.symm
  have hb6 : Below w.heap.size w w6 := by rw [hY]; exact (((hb5.setCell (p := ⟨qv2, 0, none⟩) HGv2.out _).setCell (p := ⟨qv2, 1, none⟩) HGv2.out _).setCell (p := ⟨qv2, 2, none⟩) HGv2.out _)
  have HM6 : Hid ((w5).heap.size ≤ w6.heap.size) := by show _ ≤ _; rw [hY]; simp
  have HOG_6 : Hid ((w6).ownsRow w.heap.size 131 2 (.slice oG k pG) k (flatF gs)) := by show World.ownsRow _ _ _ _ _ _ _; rw [hY]; exact owns_same HOG_5.out (fun g hg => by have hne := own_ne HOG_5.out HBv2_5.out (by decide) g hg; rw [heap_setCell_other _ _ g _ hne, heap_setCell_other _ _ g _ hne, heap_setCell_other _ _ g _ hne])
  have HBv1_6 : Hid ((w6).heap[qv1]? = some (.cells #[.int .i64 st, .slice ob k cb, .string d] 27)) := by show _ = _; rw [hY, heap_setCell_other _ _ _ _ HNv1v2.out, heap_setCell_other _ _ _ _ HNv1v2.out, heap_setCell_other _ _ _ _ HNv1v2.out]; exact HBv1_5.out
  have HBv2_6 : Hid ((w6).heap[qv2]? = some (.cells #[.int .i64 st, .slice oG k pG, .string d] 27)) := by show _ = _; rw [hY]; have h := (heap_set _ qv2 2 _ _ _ (.string d) (heap_set _ qv2 1 _ _ _ (.slice oG k pG) (heap_set _ qv2 0 _ _ _ (.int .i64 st) HBv2_5.out))); simpa using h
  clear hY hb5 HOG_5 HBv1_5 HBv2_5
  go_simp
  rw [HY.out]
  have hS6 : w6.heap[qv1]? = some (.cells #[.int .i64 st, .slice ob k cb, .string d] 27) := HBv1_6.out
  refine hK.out _ _ hS6 (fun _ => ?_)
  clear hK K HY hS5 ce0 fe0 ce1 fe1 ce2 fe2
  clear hS6
  refine wpAnyH_done (by kernel_rfl) ?_ _
  go_wp2_with fail
  have kv2_0 : (w6).cell? ⟨qv2, 0, none⟩ = some (.int .i64 st) := (cell_of HBv2_6.out 0).trans rfl
  have kv2_1 : (w6).cell? ⟨qv2, 1, none⟩ = some (.slice oG k pG) := (cell_of HBv2_6.out 1).trans rfl
  have kv2_2 : (w6).cell? ⟨qv2, 2, none⟩ = some (.string d) := (cell_of HBv2_6.out 2).trans rfl
  refine bodyPost_ret (v := .agg #[.int .i64 st, .slice oG k pG, .string d]) (by simp [results, Tryz.results58, go_sem, kv2_0, kv2_1, kv2_2]) rfl ?_
  refine ⟨_, rfl, ?_, hb6⟩
  rw [HLG.out]
  exact HOG_6.out

set_option maxHeartbeats 8000000 in
set_option maxRecDepth 100000 in
theorem implObjOf_any (m : Int) (p : ByteArray) (v : Value) (b : ByteArray) (n base : Nat) (fs : List (ByteArray × ByteArray)) (st : Int) (u : Value) (d : ByteArray) (k base2 : Nat) (gs : List (ByteArray × ByteArray)) (t : Int) (vl yl : List ByteArray) (w : World) (hv : FieldsV w base v n fs) (hn : n ≤ 1999999) (hs1 : WalkF n fs) (hlf : fs.length = n) (hp : p.size ≤ maxLen) (hb : b.size ≤ maxLen) (hu : FieldsV w base2 u k gs) (hk : k ≤ 1999999) (hs2 : WalkF k gs) (hd : d.size ≤ maxLen) (hg1 : (getV fs ccName).size ≤ 1048576) (hg2 : (getV gs ccName).size ≤ 1048576) (hg3 : (getV gs varyName).size ≤ 1048576) (hvl : vl = varyP gs) (hyl : yl = valsP vl fs) (hc1 : CopyF fs) (hc2 : CopyF gs) :
    Calls Tryz.prog 17 #[.agg #[.int .i64 m, .string p, v, .string b], .agg #[.int .i64 st, u, .string d], .int .i64 t] w fun e w' => ObjOfIs m p fs b st gs d t vl yl k w e w' := by
  obtain ⟨oa, cap, rfl, _⟩ := hv.slice
  obtain ⟨ob, cb, rfl, _⟩ := hu.slice
  have HV1 : Hid (∀ W, Below w.heap.size w W → FieldsV W base (.slice oa n cap) n fs) := fun W h => hv.below h
  have HV2 : Hid (∀ W, Below w.heap.size w W → FieldsV W base2 (.slice ob k cb) k gs) := fun W h => hu.below h
  have HLG : Hid (gs.length = k) := hu.len
  have HS1 : Hid (WalkF n fs) := hs1
  have HS2 : Hid (WalkF k gs) := hs2
  have HPM : Hid (p.size ≤ maxLen) := hp
  have HBM : Hid (b.size ≤ maxLen) := hb
  have HDM : Hid (d.size ≤ maxLen) := hd
  have HG1 : Hid ((getV fs ccName).size ≤ 1048576) := hg1
  have HG2 : Hid ((getV gs ccName).size ≤ 1048576) := hg2
  have HG3 : Hid ((getV gs varyName).size ≤ 1048576) := hg3
  have HVL : Hid (varyP gs = vl) := hvl.symm
  have HYL : Hid (valsP vl fs = yl) := hyl.symm
  have HVZ : Hid (vl.length ≤ 1048577 ∧ ∀ i, i < vl.length → (textAt vl i).size ≤ maxLen) := by
    show _ ∧ _
    rw [hvl]
    have hle := splitL_le (getV gs varyName)
    have hg := HG3.out
    unfold varyP
    refine ⟨by rw [List.length_map]; omega, fun i hi => ?_⟩
    rw [List.length_map] at hi
    unfold textAt
    rw [List.getD_eq_getElem?_getD, List.getElem?_map, List.getElem?_eq_getElem hi]
    have := hle.2 _ (List.getElem_mem hi)
    show (lowerOf _).size ≤ _
    rw [lower_size]
    unfold maxLen
    omega
  have HYZ : Hid (yl.length = vl.length ∧ ∀ i, i < yl.length → (textAt yl i).size ≤ maxLen) := by
    show _ ∧ _
    rw [hyl]
    refine ⟨valsP_len vl fs, fun i hi => ?_⟩
    rw [valsP_len] at hi
    unfold textAt valsP
    rw [List.getD_eq_getElem?_getD, List.getElem?_map, List.getElem?_eq_getElem hi]
    exact valOf_size hs1 hlf _
  have HC1 : Hid (CopyF fs) := hc1
  have HC2 : Hid (CopyF gs) := hc2
  clear hc1 hc2 hv hu hs1 hs2 hp hb hd hg1 hg2 hg3 hvl hyl hlf
  have hb0 : Below w.heap.size w w := Below.refl _ _
  go_enter Tryz.func17, Tryz.ntmps17
  go_upto_region 1 with fail
  obtain ⟨qv1, hqv1⟩ : ∃ q, q = (w).heap.size := ⟨_, rfl⟩
  obtain ⟨w1, hW1⟩ : ∃ W, W = (w).alloc (.cells #[.int .i64 m, .string p, .slice oa n cap, .string b] 39) := ⟨_, rfl⟩
  have hz1 : (w).heap.size = qv1 := hqv1.symm
  first | rw [← hW1, ← hqv1] | rw [← hW1]
  have hs1 : w1.heap.size = qv1 + 1 := by rw [hW1, ← hz1]; simp
  have bw : Below (w).heap.size (w) w1 := by rw [hW1]; exact (Below.refl _ _).alloc (Nat.le_refl _) _
  have hb1 : Below w.heap.size w (w1) := hb0.trans (bw.mono hb0.size)
  have HM1 : Hid ((w).heap.size ≤ (w1).heap.size) := bw.size
  have HBv1_1 : Hid ((w1).heap[qv1]? = some (.cells #[.int .i64 m, .string p, .slice oa n cap, .string b] 39)) := by show _ = _; rw [hW1, ← hz1]; exact heap_alloc_new _ _
  have HGv1 : Hid (w.heap.size ≤ qv1) := by show _ ≤ _; rw [← hz1]; exact hb0.size
  clear hb0 bw hW1 hz1
  obtain ⟨qv2, hqv2⟩ : ∃ q, q = qv1 + 1 := ⟨_, rfl⟩
  obtain ⟨w2, hW2⟩ : ∃ W, W = (w1).alloc (.cells #[.int .i64 st, .slice ob k cb, .string d] 27) := ⟨_, rfl⟩
  have hz2 : (w1).heap.size = qv2 := by rw [hqv2]; exact hs1
  first | rw [← hW2, ← hqv2] | rw [← hW2]
  have hs2 : w2.heap.size = qv2 + 1 := by rw [hW2, ← hz2]; simp
  have bw : Below (w1).heap.size (w1) w2 := by rw [hW2]; exact (Below.refl _ _).alloc (Nat.le_refl _) _
  have hb2 : Below w.heap.size w (w2) := hb1.trans (bw.mono hb1.size)
  have HM2 : Hid ((w1).heap.size ≤ (w2).heap.size) := bw.size
  have HBv1_2 : Hid ((w2).heap[qv1]? = some (.cells #[.int .i64 m, .string p, .slice oa n cap, .string b] 39)) := blk_below HBv1_1.out bw
  have HNv1v2 : Hid (qv1 ≠ qv2) := fun e => by have h1 := (Array.getElem?_eq_some_iff.1 HBv1_1.out).1; omega
  have HBv2_2 : Hid ((w2).heap[qv2]? = some (.cells #[.int .i64 st, .slice ob k cb, .string d] 27)) := by show _ = _; rw [hW2, ← hz2]; exact heap_alloc_new _ _
  have HGv2 : Hid (w.heap.size ≤ qv2) := by show _ ≤ _; rw [← hz2]; exact hb1.size
  clear hb1 HBv1_1 bw hW2 hz2
  obtain ⟨qv3, hqv3⟩ : ∃ q, q = qv2 + 1 := ⟨_, rfl⟩
  obtain ⟨w3, hW3⟩ : ∃ W, W = (w2).alloc (.cells #[.string ⟨#[]⟩, .slice none 0 0, .slice none 0 0, .int .i64 0, .slice none 0 0, .string ⟨#[]⟩, .int .i64 0] 29) := ⟨_, rfl⟩
  have hz3 : (w2).heap.size = qv3 := by rw [hqv3]; exact hs2
  first | rw [← hW3, ← hqv3] | rw [← hW3]
  have hs3 : w3.heap.size = qv3 + 1 := by rw [hW3, ← hz3]; simp
  have bw : Below (w2).heap.size (w2) w3 := by rw [hW3]; exact (Below.refl _ _).alloc (Nat.le_refl _) _
  have hb3 : Below w.heap.size w (w3) := hb2.trans (bw.mono hb2.size)
  have HM3 : Hid ((w2).heap.size ≤ (w3).heap.size) := bw.size
  have HBv1_3 : Hid ((w3).heap[qv1]? = some (.cells #[.int .i64 m, .string p, .slice oa n cap, .string b] 39)) := blk_below HBv1_2.out bw
  have HBv2_3 : Hid ((w3).heap[qv2]? = some (.cells #[.int .i64 st, .slice ob k cb, .string d] 27)) := blk_below HBv2_2.out bw
  have HNv1v3 : Hid (qv1 ≠ qv3) := fun e => by have h1 := (Array.getElem?_eq_some_iff.1 HBv1_2.out).1; omega
  have HNv2v3 : Hid (qv2 ≠ qv3) := fun e => by have h1 := (Array.getElem?_eq_some_iff.1 HBv2_2.out).1; omega
  have HBv3_3 : Hid ((w3).heap[qv3]? = some (.cells #[.string ⟨#[]⟩, .slice none 0 0, .slice none 0 0, .int .i64 0, .slice none 0 0, .string ⟨#[]⟩, .int .i64 0] 29)) := by show _ = _; rw [hW3, ← hz3]; exact heap_alloc_new _ _
  have HGv3 : Hid (w.heap.size ≤ qv3) := by show _ ≤ _; rw [← hz3]; exact hb2.size
  clear hb2 HBv1_2 HBv2_2 bw hW3 hz3
  clear hs3 hqv3 hs2 hqv2 hs1 hqv1
  have cv1_0 : (w3).cell? ⟨qv1, 0, none⟩ = some (.int .i64 m) := (cell_of HBv1_3.out 0).trans rfl
  have cv1_1 : (w3).cell? ⟨qv1, 1, none⟩ = some (.string p) := (cell_of HBv1_3.out 1).trans rfl
  have cv1_2 : (w3).cell? ⟨qv1, 2, none⟩ = some (.slice oa n cap) := (cell_of HBv1_3.out 2).trans rfl
  have cv1_3 : (w3).cell? ⟨qv1, 3, none⟩ = some (.string b) := (cell_of HBv1_3.out 3).trans rfl
  have cv2_0 : (w3).cell? ⟨qv2, 0, none⟩ = some (.int .i64 st) := (cell_of HBv2_3.out 0).trans rfl
  have cv2_1 : (w3).cell? ⟨qv2, 1, none⟩ = some (.slice ob k cb) := (cell_of HBv2_3.out 1).trans rfl
  have cv2_2 : (w3).cell? ⟨qv2, 2, none⟩ = some (.string d) := (cell_of HBv2_3.out 2).trans rfl
  go_wp2_with fail
  refine (implMayKeep_any m p _ b n base fs st _ d k base2 gs _ (HV1.out _ hb3) (by omega) HS1.out HPM.out HBM.out (HV2.out _ hb3) (by omega) HS2.out HDM.out HG1.out HG2.out HG3.out HC1.out HC2.out).mono ?_
  rintro e w4 ⟨u1, rfl, htu1, bw⟩
  have hb4 : Below w.heap.size w (w4) := hb3.trans (bw.mono hb3.size)
  have HM4 : Hid ((w3).heap.size ≤ (w4).heap.size) := bw.size
  have HBv1_4 : Hid ((w4).heap[qv1]? = some (.cells #[.int .i64 m, .string p, .slice oa n cap, .string b] 39)) := blk_below HBv1_3.out bw
  have HBv2_4 : Hid ((w4).heap[qv2]? = some (.cells #[.int .i64 st, .slice ob k cb, .string d] 27)) := blk_below HBv2_3.out bw
  have HBv3_4 : Hid ((w4).heap[qv3]? = some (.cells #[.string ⟨#[]⟩, .slice none 0 0, .slice none 0 0, .int .i64 0, .slice none 0 0, .string ⟨#[]⟩, .int .i64 0] 29)) := blk_below HBv3_3.out bw
  clear hb3 HBv1_3 HBv2_3 HBv3_3 bw
  clear cv1_0 cv1_1 cv1_2 cv1_3 cv2_0 cv2_1 cv2_2
  cases u1 with
  | false =>
    have HF : Hid (¬ (MayP m p fs b st gs d ∧ ObjP p vl yl st gs d t)) := fun h => nomatch htu1.2 h.1
    clear htu1
    have cv3_0 : (w4).cell? ⟨qv3, 0, none⟩ = some (.string ⟨#[]⟩) := (cell_of HBv3_4.out 0).trans rfl
    have fcv3_0 : (w4).frozen? ⟨qv3, 0, none⟩ = false := frozen_of HBv3_4.out 0
    have cv3_1 : (w4).cell? ⟨qv3, 1, none⟩ = some (.slice none 0 0) := (cell_of HBv3_4.out 1).trans rfl
    have fcv3_1 : (w4).frozen? ⟨qv3, 1, none⟩ = false := frozen_of HBv3_4.out 1
    have cv3_2 : (w4).cell? ⟨qv3, 2, none⟩ = some (.slice none 0 0) := (cell_of HBv3_4.out 2).trans rfl
    have fcv3_2 : (w4).frozen? ⟨qv3, 2, none⟩ = false := frozen_of HBv3_4.out 2
    have cv3_3 : (w4).cell? ⟨qv3, 3, none⟩ = some (.int .i64 0) := (cell_of HBv3_4.out 3).trans rfl
    have fcv3_3 : (w4).frozen? ⟨qv3, 3, none⟩ = false := frozen_of HBv3_4.out 3
    have cv3_4 : (w4).cell? ⟨qv3, 4, none⟩ = some (.slice none 0 0) := (cell_of HBv3_4.out 4).trans rfl
    have fcv3_4 : (w4).frozen? ⟨qv3, 4, none⟩ = false := frozen_of HBv3_4.out 4
    have cv3_5 : (w4).cell? ⟨qv3, 5, none⟩ = some (.string ⟨#[]⟩) := (cell_of HBv3_4.out 5).trans rfl
    have fcv3_5 : (w4).frozen? ⟨qv3, 5, none⟩ = false := frozen_of HBv3_4.out 5
    have cv3_6 : (w4).cell? ⟨qv3, 6, none⟩ = some (.int .i64 0) := (cell_of HBv3_4.out 6).trans rfl
    have fcv3_6 : (w4).frozen? ⟨qv3, 6, none⟩ = false := frozen_of HBv3_4.out 6
    go_wp2_with fail
    obtain ⟨w5, hW5⟩ : ∃ W, W = (w4).setCell ⟨qv3, 0, none⟩ (.string ⟨#[]⟩) := ⟨_, rfl⟩
    rw [← hW5]
    have hb5 : Below w.heap.size w w5 := by rw [hW5]; exact hb4.setCell (p := ⟨qv3, 0, none⟩) HGv3.out _
    have HM5 : Hid ((w4).heap.size ≤ w5.heap.size) := by show _ ≤ _; rw [hW5]; simp
    have HBv1_5 : Hid ((w5).heap[qv1]? = some (.cells #[.int .i64 m, .string p, .slice oa n cap, .string b] 39)) := by show _ = _; rw [hW5, heap_setCell_other _ _ _ _ HNv1v3.out]; exact HBv1_4.out
    have HBv2_5 : Hid ((w5).heap[qv2]? = some (.cells #[.int .i64 st, .slice ob k cb, .string d] 27)) := by show _ = _; rw [hW5, heap_setCell_other _ _ _ _ HNv2v3.out]; exact HBv2_4.out
    have HBv3_5 : Hid ((w5).heap[qv3]? = some (.cells #[.string ⟨#[]⟩, .slice none 0 0, .slice none 0 0, .int .i64 0, .slice none 0 0, .string ⟨#[]⟩, .int .i64 0] 29)) := by show _ = _; rw [hW5]; have h := heap_set _ _ 0 _ _ _ (.string ⟨#[]⟩) HBv3_4.out; simpa using h
    clear hb4 HBv1_4 HBv2_4 HBv3_4 hW5
    obtain ⟨w6, hW6⟩ : ∃ W, W = (w5).setCell ⟨qv3, 1, none⟩ (.slice none 0 0) := ⟨_, rfl⟩
    rw [← hW6]
    have hb6 : Below w.heap.size w w6 := by rw [hW6]; exact hb5.setCell (p := ⟨qv3, 1, none⟩) HGv3.out _
    have HM6 : Hid ((w5).heap.size ≤ w6.heap.size) := by show _ ≤ _; rw [hW6]; simp
    have HBv1_6 : Hid ((w6).heap[qv1]? = some (.cells #[.int .i64 m, .string p, .slice oa n cap, .string b] 39)) := by show _ = _; rw [hW6, heap_setCell_other _ _ _ _ HNv1v3.out]; exact HBv1_5.out
    have HBv2_6 : Hid ((w6).heap[qv2]? = some (.cells #[.int .i64 st, .slice ob k cb, .string d] 27)) := by show _ = _; rw [hW6, heap_setCell_other _ _ _ _ HNv2v3.out]; exact HBv2_5.out
    have HBv3_6 : Hid ((w6).heap[qv3]? = some (.cells #[.string ⟨#[]⟩, .slice none 0 0, .slice none 0 0, .int .i64 0, .slice none 0 0, .string ⟨#[]⟩, .int .i64 0] 29)) := by show _ = _; rw [hW6]; have h := heap_set _ _ 1 _ _ _ (.slice none 0 0) HBv3_5.out; simpa using h
    clear hb5 HBv1_5 HBv2_5 HBv3_5 hW6
    obtain ⟨w7, hW7⟩ : ∃ W, W = (w6).setCell ⟨qv3, 2, none⟩ (.slice none 0 0) := ⟨_, rfl⟩
    rw [← hW7]
    have hb7 : Below w.heap.size w w7 := by rw [hW7]; exact hb6.setCell (p := ⟨qv3, 2, none⟩) HGv3.out _
    have HM7 : Hid ((w6).heap.size ≤ w7.heap.size) := by show _ ≤ _; rw [hW7]; simp
    have HBv1_7 : Hid ((w7).heap[qv1]? = some (.cells #[.int .i64 m, .string p, .slice oa n cap, .string b] 39)) := by show _ = _; rw [hW7, heap_setCell_other _ _ _ _ HNv1v3.out]; exact HBv1_6.out
    have HBv2_7 : Hid ((w7).heap[qv2]? = some (.cells #[.int .i64 st, .slice ob k cb, .string d] 27)) := by show _ = _; rw [hW7, heap_setCell_other _ _ _ _ HNv2v3.out]; exact HBv2_6.out
    have HBv3_7 : Hid ((w7).heap[qv3]? = some (.cells #[.string ⟨#[]⟩, .slice none 0 0, .slice none 0 0, .int .i64 0, .slice none 0 0, .string ⟨#[]⟩, .int .i64 0] 29)) := by show _ = _; rw [hW7]; have h := heap_set _ _ 2 _ _ _ (.slice none 0 0) HBv3_6.out; simpa using h
    clear hb6 HBv1_6 HBv2_6 HBv3_6 hW7
    obtain ⟨w8, hW8⟩ : ∃ W, W = (w7).setCell ⟨qv3, 3, none⟩ (.int .i64 0) := ⟨_, rfl⟩
    rw [← hW8]
    have hb8 : Below w.heap.size w w8 := by rw [hW8]; exact hb7.setCell (p := ⟨qv3, 3, none⟩) HGv3.out _
    have HM8 : Hid ((w7).heap.size ≤ w8.heap.size) := by show _ ≤ _; rw [hW8]; simp
    have HBv1_8 : Hid ((w8).heap[qv1]? = some (.cells #[.int .i64 m, .string p, .slice oa n cap, .string b] 39)) := by show _ = _; rw [hW8, heap_setCell_other _ _ _ _ HNv1v3.out]; exact HBv1_7.out
    have HBv2_8 : Hid ((w8).heap[qv2]? = some (.cells #[.int .i64 st, .slice ob k cb, .string d] 27)) := by show _ = _; rw [hW8, heap_setCell_other _ _ _ _ HNv2v3.out]; exact HBv2_7.out
    have HBv3_8 : Hid ((w8).heap[qv3]? = some (.cells #[.string ⟨#[]⟩, .slice none 0 0, .slice none 0 0, .int .i64 0, .slice none 0 0, .string ⟨#[]⟩, .int .i64 0] 29)) := by show _ = _; rw [hW8]; have h := heap_set _ _ 3 _ _ _ (.int .i64 0) HBv3_7.out; simpa using h
    clear hb7 HBv1_7 HBv2_7 HBv3_7 hW8
    obtain ⟨w9, hW9⟩ : ∃ W, W = (w8).setCell ⟨qv3, 4, none⟩ (.slice none 0 0) := ⟨_, rfl⟩
    rw [← hW9]
    have hb9 : Below w.heap.size w w9 := by rw [hW9]; exact hb8.setCell (p := ⟨qv3, 4, none⟩) HGv3.out _
    have HM9 : Hid ((w8).heap.size ≤ w9.heap.size) := by show _ ≤ _; rw [hW9]; simp
    have HBv1_9 : Hid ((w9).heap[qv1]? = some (.cells #[.int .i64 m, .string p, .slice oa n cap, .string b] 39)) := by show _ = _; rw [hW9, heap_setCell_other _ _ _ _ HNv1v3.out]; exact HBv1_8.out
    have HBv2_9 : Hid ((w9).heap[qv2]? = some (.cells #[.int .i64 st, .slice ob k cb, .string d] 27)) := by show _ = _; rw [hW9, heap_setCell_other _ _ _ _ HNv2v3.out]; exact HBv2_8.out
    have HBv3_9 : Hid ((w9).heap[qv3]? = some (.cells #[.string ⟨#[]⟩, .slice none 0 0, .slice none 0 0, .int .i64 0, .slice none 0 0, .string ⟨#[]⟩, .int .i64 0] 29)) := by show _ = _; rw [hW9]; have h := heap_set _ _ 4 _ _ _ (.slice none 0 0) HBv3_8.out; simpa using h
    clear hb8 HBv1_8 HBv2_8 HBv3_8 hW9
    obtain ⟨w10, hW10⟩ : ∃ W, W = (w9).setCell ⟨qv3, 5, none⟩ (.string ⟨#[]⟩) := ⟨_, rfl⟩
    rw [← hW10]
    have hb10 : Below w.heap.size w w10 := by rw [hW10]; exact hb9.setCell (p := ⟨qv3, 5, none⟩) HGv3.out _
    have HM10 : Hid ((w9).heap.size ≤ w10.heap.size) := by show _ ≤ _; rw [hW10]; simp
    have HBv1_10 : Hid ((w10).heap[qv1]? = some (.cells #[.int .i64 m, .string p, .slice oa n cap, .string b] 39)) := by show _ = _; rw [hW10, heap_setCell_other _ _ _ _ HNv1v3.out]; exact HBv1_9.out
    have HBv2_10 : Hid ((w10).heap[qv2]? = some (.cells #[.int .i64 st, .slice ob k cb, .string d] 27)) := by show _ = _; rw [hW10, heap_setCell_other _ _ _ _ HNv2v3.out]; exact HBv2_9.out
    have HBv3_10 : Hid ((w10).heap[qv3]? = some (.cells #[.string ⟨#[]⟩, .slice none 0 0, .slice none 0 0, .int .i64 0, .slice none 0 0, .string ⟨#[]⟩, .int .i64 0] 29)) := by show _ = _; rw [hW10]; have h := heap_set _ _ 5 _ _ _ (.string ⟨#[]⟩) HBv3_9.out; simpa using h
    clear hb9 HBv1_9 HBv2_9 HBv3_9 hW10
    obtain ⟨w11, hW11⟩ : ∃ W, W = (w10).setCell ⟨qv3, 6, none⟩ (.int .i64 0) := ⟨_, rfl⟩
    rw [← hW11]
    have hb11 : Below w.heap.size w w11 := by rw [hW11]; exact hb10.setCell (p := ⟨qv3, 6, none⟩) HGv3.out _
    have HM11 : Hid ((w10).heap.size ≤ w11.heap.size) := by show _ ≤ _; rw [hW11]; simp
    have HBv1_11 : Hid ((w11).heap[qv1]? = some (.cells #[.int .i64 m, .string p, .slice oa n cap, .string b] 39)) := by show _ = _; rw [hW11, heap_setCell_other _ _ _ _ HNv1v3.out]; exact HBv1_10.out
    have HBv2_11 : Hid ((w11).heap[qv2]? = some (.cells #[.int .i64 st, .slice ob k cb, .string d] 27)) := by show _ = _; rw [hW11, heap_setCell_other _ _ _ _ HNv2v3.out]; exact HBv2_10.out
    have HBv3_11 : Hid ((w11).heap[qv3]? = some (.cells #[.string ⟨#[]⟩, .slice none 0 0, .slice none 0 0, .int .i64 0, .slice none 0 0, .string ⟨#[]⟩, .int .i64 0] 29)) := by show _ = _; rw [hW11]; have h := heap_set _ _ 6 _ _ _ (.int .i64 0) HBv3_10.out; simpa using h
    clear hb10 HBv1_10 HBv2_10 HBv3_10 hW11
    have kv3_0 : (w11).cell? ⟨qv3, 0, none⟩ = some (.string ⟨#[]⟩) := (cell_of HBv3_11.out 0).trans rfl
    have kv3_1 : (w11).cell? ⟨qv3, 1, none⟩ = some (.slice none 0 0) := (cell_of HBv3_11.out 1).trans rfl
    have kv3_2 : (w11).cell? ⟨qv3, 2, none⟩ = some (.slice none 0 0) := (cell_of HBv3_11.out 2).trans rfl
    have kv3_3 : (w11).cell? ⟨qv3, 3, none⟩ = some (.int .i64 0) := (cell_of HBv3_11.out 3).trans rfl
    have kv3_4 : (w11).cell? ⟨qv3, 4, none⟩ = some (.slice none 0 0) := (cell_of HBv3_11.out 4).trans rfl
    have kv3_5 : (w11).cell? ⟨qv3, 5, none⟩ = some (.string ⟨#[]⟩) := (cell_of HBv3_11.out 5).trans rfl
    have kv3_6 : (w11).cell? ⟨qv3, 6, none⟩ = some (.int .i64 0) := (cell_of HBv3_11.out 6).trans rfl
    refine bodyPost_ret (v := .tuple #[.agg #[.string ⟨#[]⟩, .slice none 0 0, .slice none 0 0, .int .i64 0, .slice none 0 0, .string ⟨#[]⟩, .int .i64 0], .bool false]) (by simp [results, Tryz.results17, go_sem, kv3_0, kv3_1, kv3_2, kv3_3, kv3_4, kv3_5, kv3_6]) rfl ?_
    exact ⟨hb11, .inr ⟨HF.out, rfl⟩⟩
  | true =>
    have HMK : Hid (MayP m p fs b st gs d) := htu1.1 rfl
    clear htu1
    have cv2_1 : (w4).cell? ⟨qv2, 1, none⟩ = some (.slice ob k cb) := (cell_of HBv2_4.out 1).trans rfl
    go_wp2_with fail
    refine (implVaryOf_any _ k base2 gs _ (HV2.out _ hb4) (by omega) HC2.out HG3.out).mono ?_
    rintro e w5 ⟨vv, rfl, ownX, bw⟩
    obtain ⟨oX, pX, rfl⟩ := slice_of_owns ownX
    rw [HVL.out] at ownX ⊢
    have hb5 : Below w.heap.size w (w5) := hb4.trans (bw.mono hb4.size)
    have HM5 : Hid ((w4).heap.size ≤ (w5).heap.size) := bw.size
    have HBv1_5 : Hid ((w5).heap[qv1]? = some (.cells #[.int .i64 m, .string p, .slice oa n cap, .string b] 39)) := blk_below HBv1_4.out bw
    have HBv2_5 : Hid ((w5).heap[qv2]? = some (.cells #[.int .i64 st, .slice ob k cb, .string d] 27)) := blk_below HBv2_4.out bw
    have HBv3_5 : Hid ((w5).heap[qv3]? = some (.cells #[.string ⟨#[]⟩, .slice none 0 0, .slice none 0 0, .int .i64 0, .slice none 0 0, .string ⟨#[]⟩, .int .i64 0] 29)) := blk_below HBv3_4.out bw
    have HOX_5 : Hid ((w5).ownsRow w.heap.size 9 1 (.slice oX vl.length pX) vl.length (vl.map Value.string)) := owns_wide ownX hb4.size
    have LOX : Hid (∀ g, (Value.ownBlock (.slice oX vl.length pX)) = some g → (w4).heap.size ≤ g) := fun g hg => owns_ge ownX hg
    have HIX : Hid (∀ g, (Value.ownBlock (.slice oX vl.length pX)) = some g → g < (w5).heap.size) := fun g hg => owns_lt ownX hg
    clear ownX
    clear hb4 HBv1_4 HBv2_4 HBv3_4 bw
    clear cv2_1
    go_upto_region 4 with fail
    have HSS : Hid (∀ W, Below w5.heap.size w5 W → W.heap[qv1]? = some (.cells #[.int .i64 m, .string p, .slice oa n cap, .string b] 39) ∧ W.heap[qv2]? = some (.cells #[.int .i64 st, .slice ob k cb, .string d] 27)) := fun W h => ⟨blk_below HBv1_5.out h, blk_below HBv2_5.out h⟩
    go_cut [9] (fun sx wx => ∃ (q : Nat) (oY : Option Addr) (pY : Nat) (oG : Option Addr) (pG : Nat), sx = .pointer (some ⟨q, 0, none⟩) ∧ Hid (Below w5.heap.size w5 wx ∧ wx.heap[q]? = some (.cells #[.string p, .slice oX vl.length pX, .slice oY yl.length pY, .int .i64 st, .slice oG k pG, .string d, .int .i64 t] 29) ∧ w5.heap.size ≤ q ∧ (wx).ownsRow w5.heap.size 9 1 (.slice oY yl.length pY) yl.length (yl.map Value.string) ∧ (wx).ownsRow w5.heap.size 131 2 (.slice oG k pG) k (flatF gs)))
    case first =>
      refine wp_region_held_drew (S := fun W => W.heap[qv1]? = some (.cells #[.int .i64 m, .string p, .slice oa n cap, .string b] 39) ∧ W.heap[qv2]? = some (.cells #[.int .i64 st, .slice ob k cb, .string d] 27)) (by kernel_rfl) (HSS.out _ (Below.refl _ _).drew) (fun _ => ?_)
      obtain ⟨w6, hX⟩ : ∃ X, X = w5.drew := ⟨_, rfl⟩
      have bw : Below w5.heap.size w5 w6 := by rw [hX]; exact (Below.refl _ _).drew
      rw [← hX]
      have hb6 : Below w.heap.size w (w6) := hb5.trans (bw.mono hb5.size)
      have HM6 : Hid ((w5).heap.size ≤ (w6).heap.size) := bw.size
      have HOX_6 : Hid ((w6).ownsRow w.heap.size 9 1 (.slice oX vl.length pX) vl.length (vl.map Value.string)) := owns_below HOX_5.out bw (fun g hg => owns_lt HOX_5.out hg)
      have HBv1_6 : Hid ((w6).heap[qv1]? = some (.cells #[.int .i64 m, .string p, .slice oa n cap, .string b] 39)) := blk_below HBv1_5.out bw
      have HBv2_6 : Hid ((w6).heap[qv2]? = some (.cells #[.int .i64 st, .slice ob k cb, .string d] 27)) := blk_below HBv2_5.out bw
      have HBv3_6 : Hid ((w6).heap[qv3]? = some (.cells #[.string ⟨#[]⟩, .slice none 0 0, .slice none 0 0, .int .i64 0, .slice none 0 0, .string ⟨#[]⟩, .int .i64 0] 29)) := blk_below HBv3_5.out bw
      have HX_6 : Hid (Below w5.heap.size w5 w6) := bw
      clear bw hX
      refine wpAnyH_takeD (i := 0) (v := .pointer (some ⟨qv1, 1, none⟩)) (some 18) rfl rfl (by kernel_rfl) (by kernel_rfl) (by kernel_rfl) (fun _ _ _ h => h) (Or.inl ⟨by rfl, by intro W _; go_simp⟩) (HSS.out _ HX_6.out) ?_
      simp only [Act.put, List.setIfInBounds_toArray, List.set_cons_zero, List.set_cons_succ]
      refine wpAnyH_takeD (i := 1) (v := .string p) (some 19) rfl rfl (by kernel_rfl) (by kernel_rfl) (by kernel_rfl) (fun _ _ _ h => h) (Or.inl ⟨by rfl, by intro W hW; obtain ⟨hhv1, hhv2⟩ := hW; have y1 := (cell_of hhv1 1).trans rfl; go_simp⟩) (HSS.out _ HX_6.out) ?_
      simp only [Act.put, List.setIfInBounds_toArray, List.set_cons_zero, List.set_cons_succ]
      refine wpAnyH_takeD (i := 3) (v := .slice oX vl.length pX) (some 21) rfl rfl (by kernel_rfl) (by kernel_rfl) (by kernel_rfl) (fun _ _ _ h => h) (Or.inl ⟨by rfl, by intro W _; go_simp⟩) (HSS.out _ HX_6.out) ?_
      simp only [Act.put, List.setIfInBounds_toArray, List.set_cons_zero, List.set_cons_succ]
      refine wpAnyH_takeD (i := 4) (v := .slice oX vl.length pX) (some 22) rfl rfl (by kernel_rfl) (by kernel_rfl) (by kernel_rfl) (fun _ _ _ h => h) (Or.inl ⟨by rfl, by intro W _; go_simp⟩) (HSS.out _ HX_6.out) ?_
      simp only [Act.put, List.setIfInBounds_toArray, List.set_cons_zero, List.set_cons_succ]
      refine wpAnyH_takeD (i := 5) (v := .pointer (some ⟨qv1, 2, none⟩)) (some 23) rfl rfl (by kernel_rfl) (by kernel_rfl) (by kernel_rfl) (fun _ _ _ h => h) (Or.inl ⟨by rfl, by intro W _; go_simp⟩) (HSS.out _ HX_6.out) ?_
      simp only [Act.put, List.setIfInBounds_toArray, List.set_cons_zero, List.set_cons_succ]
      refine wpAnyH_takeD (i := 6) (v := .slice oa n cap) (some 24) rfl rfl (by kernel_rfl) (by kernel_rfl) (by kernel_rfl) (fun _ _ _ h => h) (Or.inl ⟨by rfl, by intro W hW; obtain ⟨hhv1, hhv2⟩ := hW; have y2 := (cell_of hhv1 2).trans rfl; go_simp⟩) (HSS.out _ HX_6.out) ?_
      simp only [Act.put, List.setIfInBounds_toArray, List.set_cons_zero, List.set_cons_succ]
      refine wpAnyH_takeD (i := 8) (v := .agg #[.int .i64 st, .slice ob k cb, .string d]) (some 26) rfl rfl (by kernel_rfl) (by kernel_rfl) (by kernel_rfl) (fun _ _ _ h => h) (Or.inl ⟨by rfl, by intro W hW; obtain ⟨hhv1, hhv2⟩ := hW; have y0 := (cell_of hhv2 0).trans rfl; have y1 := (cell_of hhv2 1).trans rfl; have y2 := (cell_of hhv2 2).trans rfl; go_simp⟩) (HSS.out _ HX_6.out) ?_
      simp only [Act.put, List.setIfInBounds_toArray, List.set_cons_zero, List.set_cons_succ]
      refine wpAnyH_takeD (i := 10) (v := .int .i64 t) (some 28) rfl rfl (by kernel_rfl) (by kernel_rfl) (by kernel_rfl) (fun _ _ _ h => h) (Or.inl ⟨by rfl, by intro W _; go_simp⟩) (HSS.out _ HX_6.out) ?_
      simp only [Act.put, List.setIfInBounds_toArray, List.set_cons_zero, List.set_cons_succ]
      refine wpAnyH_ready (rs := [2, 12]) (by kernel_rfl) (by simp) ?_
      refine AllReadyH.cons rfl (fun K hK => ?_) (AllReadyH.cons rfl (fun K hK => ?_) AllReadyH.nil)
      · go_simp
        refine (clone_any p _ (by have := HMK.out.1.1.2.1.2.2.1; omega)).mono ?_
        rintro e w7 ⟨rfl, bw⟩
        have hb7 : Below w.heap.size w (w7) := hb6.trans (bw.mono hb6.size)
        have HM7 : Hid ((w6).heap.size ≤ (w7).heap.size) := bw.size
        have HOX_7 : Hid ((w7).ownsRow w.heap.size 9 1 (.slice oX vl.length pX) vl.length (vl.map Value.string)) := owns_below HOX_6.out bw (fun g hg => owns_lt HOX_6.out hg)
        have HBv1_7 : Hid ((w7).heap[qv1]? = some (.cells #[.int .i64 m, .string p, .slice oa n cap, .string b] 39)) := blk_below HBv1_6.out bw
        have HBv2_7 : Hid ((w7).heap[qv2]? = some (.cells #[.int .i64 st, .slice ob k cb, .string d] 27)) := blk_below HBv2_6.out bw
        have HBv3_7 : Hid ((w7).heap[qv3]? = some (.cells #[.string ⟨#[]⟩, .slice none 0 0, .slice none 0 0, .int .i64 0, .slice none 0 0, .string ⟨#[]⟩, .int .i64 0] 29)) := blk_below HBv3_6.out bw
        clear hb6 HOX_6 HBv1_6 HBv2_6 HBv3_6
        have HX_7 : Hid (Below w5.heap.size w5 w7) := HX_6.out.trans (bw.mono HX_6.out.size)
        refine hK.out _ _ (HSS.out _ HX_7.out) (fun _ => ?_)
        clear hK K bw HX_6
        refine wpAnyH_ready (rs := [7, 12]) (by kernel_rfl) (by simp) ?_
        refine AllReadyH.cons rfl (fun K hK => ?_) (AllReadyH.cons rfl (fun K hK => ?_) AllReadyH.nil)
        · go_simp
          refine (implValuesOf_any _ _ _ vl _ n base fs _ (texts_view HOX_7.out) HVZ.out.1 (HV1.out _ hb7) (by omega) HC1.out).mono ?_
          rintro e w8 ⟨vv, rfl, ownY, bw⟩
          obtain ⟨oY, pY, rfl⟩ := slice_of_owns ownY
          rw [HYL.out] at ownY ⊢
          have hb8 : Below w.heap.size w (w8) := hb7.trans (bw.mono hb7.size)
          have HM8 : Hid ((w7).heap.size ≤ (w8).heap.size) := bw.size
          have HOX_8 : Hid ((w8).ownsRow w.heap.size 9 1 (.slice oX vl.length pX) vl.length (vl.map Value.string)) := owns_below HOX_7.out bw (fun g hg => owns_lt HOX_7.out hg)
          have HBv1_8 : Hid ((w8).heap[qv1]? = some (.cells #[.int .i64 m, .string p, .slice oa n cap, .string b] 39)) := blk_below HBv1_7.out bw
          have HBv2_8 : Hid ((w8).heap[qv2]? = some (.cells #[.int .i64 st, .slice ob k cb, .string d] 27)) := blk_below HBv2_7.out bw
          have HBv3_8 : Hid ((w8).heap[qv3]? = some (.cells #[.string ⟨#[]⟩, .slice none 0 0, .slice none 0 0, .int .i64 0, .slice none 0 0, .string ⟨#[]⟩, .int .i64 0] 29)) := blk_below HBv3_7.out bw
          have HOY_8 : Hid ((w8).ownsRow w.heap.size 9 1 (.slice oY yl.length pY) yl.length (yl.map Value.string)) := owns_wide ownY hb7.size
          have LOY : Hid (∀ g, (Value.ownBlock (.slice oY yl.length pY)) = some g → (w7).heap.size ≤ g) := fun g hg => owns_ge ownY hg
          have HIY : Hid (∀ g, (Value.ownBlock (.slice oY yl.length pY)) = some g → g < (w8).heap.size) := fun g hg => owns_lt ownY hg
          clear ownY
          clear hb7 HOX_7 HBv1_7 HBv2_7 HBv3_7
          have HX_8 : Hid (Below w5.heap.size w5 w8) := HX_7.out.trans (bw.mono HX_7.out.size)
          have HRXY_8 : Hid ((w8).ownsRow w5.heap.size 9 1 (.slice oY yl.length pY) yl.length (yl.map Value.string)) := owns_lift HOY_8.out (fun g hg => Nat.le_trans HX_7.out.size (LOY.out g hg))
          refine hK.out _ _ (HSS.out _ HX_8.out) (fun _ => ?_)
          clear hK K bw HX_7
          refine wpAnyH_ready (rs := [9, 12]) (by kernel_rfl) (by simp) ?_
          refine AllReadyH.cons rfl (fun K hK => ?_) (AllReadyH.cons rfl (fun K hK => ?_) AllReadyH.nil)
          · go_simp
            refine (copiedAnswer_any st _ d k base2 gs _ (HV2.out _ hb8) (by omega) HC2.out (by have := HMK.out.1.2.1.2.2; omega)).mono ?_
            rintro e w9 ⟨vv, rfl, ownG, bw⟩
            obtain ⟨oG, pG, rfl⟩ := slice_of_owns ownG
            rw [HLG.out] at ownG ⊢
            have hb9 : Below w.heap.size w (w9) := hb8.trans (bw.mono hb8.size)
            have HM9 : Hid ((w8).heap.size ≤ (w9).heap.size) := bw.size
            have HOX_9 : Hid ((w9).ownsRow w.heap.size 9 1 (.slice oX vl.length pX) vl.length (vl.map Value.string)) := owns_below HOX_8.out bw (fun g hg => owns_lt HOX_8.out hg)
            have HOY_9 : Hid ((w9).ownsRow w.heap.size 9 1 (.slice oY yl.length pY) yl.length (yl.map Value.string)) := owns_below HOY_8.out bw (fun g hg => owns_lt HOY_8.out hg)
            have HBv1_9 : Hid ((w9).heap[qv1]? = some (.cells #[.int .i64 m, .string p, .slice oa n cap, .string b] 39)) := blk_below HBv1_8.out bw
            have HBv2_9 : Hid ((w9).heap[qv2]? = some (.cells #[.int .i64 st, .slice ob k cb, .string d] 27)) := blk_below HBv2_8.out bw
            have HBv3_9 : Hid ((w9).heap[qv3]? = some (.cells #[.string ⟨#[]⟩, .slice none 0 0, .slice none 0 0, .int .i64 0, .slice none 0 0, .string ⟨#[]⟩, .int .i64 0] 29)) := blk_below HBv3_8.out bw
            have HOG_9 : Hid ((w9).ownsRow w.heap.size 131 2 (.slice oG k pG) k (flatF gs)) := owns_wide ownG hb8.size
            have LOG : Hid (∀ g, (Value.ownBlock (.slice oG k pG)) = some g → (w8).heap.size ≤ g) := fun g hg => owns_ge ownG hg
            have HIG : Hid (∀ g, (Value.ownBlock (.slice oG k pG)) = some g → g < (w9).heap.size) := fun g hg => owns_lt ownG hg
            clear ownG
            clear hb8 HOX_8 HOY_8 HBv1_8 HBv2_8 HBv3_8
            have HX_9 : Hid (Below w5.heap.size w5 w9) := HX_8.out.trans (bw.mono HX_8.out.size)
            have HRXY_9 : Hid ((w9).ownsRow w5.heap.size 9 1 (.slice oY yl.length pY) yl.length (yl.map Value.string)) := owns_below HRXY_8.out bw (fun g hg => owns_lt HRXY_8.out hg)
            have HRXG_9 : Hid ((w9).ownsRow w5.heap.size 131 2 (.slice oG k pG) k (flatF gs)) := owns_lift HOG_9.out (fun g hg => Nat.le_trans HX_8.out.size (LOG.out g hg))
            refine hK.out _ _ (HSS.out _ HX_9.out) (fun _ => ?_)
            clear hK K bw HX_8
            refine wpAnyH_takeD (i := 11) (v := .agg #[.string p, .slice oX vl.length pX, .slice oY yl.length pY, .int .i64 st, .slice oG k pG, .string d, .int .i64 t]) (some 29) rfl rfl (by kernel_rfl) (by kernel_rfl) (by kernel_rfl) (fun _ _ _ h => h) (Or.inl ⟨by rfl, by intro W _; go_simp⟩) (HSS.out _ HX_9.out) ?_
            simp only [Act.put, List.setIfInBounds_toArray, List.set_cons_zero, List.set_cons_succ]
            refine wpAnyH_ready (rs := [12]) (by kernel_rfl) (by simp) ?_
            refine AllReadyH.cons rfl (fun K hK => ?_) AllReadyH.nil
            go_simp
            have HXA : Hid (Below w5.heap.size w5 (w9.alloc (.cells #[.string ⟨#[]⟩, .slice none 0 0, .slice none 0 0, .int .i64 0, .slice none 0 0, .string ⟨#[]⟩, .int .i64 0] 29))) := HX_9.out.alloc HX_9.out.size _
            refine hK.out _ _ (HSS.out _ HXA.out) (fun _ => ?_)
            clear hK K HXA
            obtain ⟨pa, ho⟩ : ∃ o, o = w9.heap.size := ⟨_, rfl⟩
            obtain ⟨w10, hXj⟩ : ∃ X, X = w9.alloc (.cells #[.string ⟨#[]⟩, .slice none 0 0, .slice none 0 0, .int .i64 0, .slice none 0 0, .string ⟨#[]⟩, .int .i64 0] 29) := ⟨_, rfl⟩
            rw [← ho, ← hXj]
            have HGA : Hid (w5.heap.size ≤ pa) := by show _ ≤ _; rw [ho]; exact HX_9.out.size
            have bw : Below w9.heap.size w9 w10 := by rw [hXj]; exact (Below.refl _ _).alloc (Nat.le_refl _) _
            have hb10 : Below w.heap.size w (w10) := hb9.trans (bw.mono hb9.size)
            have HM10 : Hid ((w9).heap.size ≤ (w10).heap.size) := bw.size
            have HOX_10 : Hid ((w10).ownsRow w.heap.size 9 1 (.slice oX vl.length pX) vl.length (vl.map Value.string)) := owns_below HOX_9.out bw (fun g hg => owns_lt HOX_9.out hg)
            have HOY_10 : Hid ((w10).ownsRow w.heap.size 9 1 (.slice oY yl.length pY) yl.length (yl.map Value.string)) := owns_below HOY_9.out bw (fun g hg => owns_lt HOY_9.out hg)
            have HOG_10 : Hid ((w10).ownsRow w.heap.size 131 2 (.slice oG k pG) k (flatF gs)) := owns_below HOG_9.out bw (fun g hg => owns_lt HOG_9.out hg)
            have HBv1_10 : Hid ((w10).heap[qv1]? = some (.cells #[.int .i64 m, .string p, .slice oa n cap, .string b] 39)) := blk_below HBv1_9.out bw
            have HBv2_10 : Hid ((w10).heap[qv2]? = some (.cells #[.int .i64 st, .slice ob k cb, .string d] 27)) := blk_below HBv2_9.out bw
            have HBv3_10 : Hid ((w10).heap[qv3]? = some (.cells #[.string ⟨#[]⟩, .slice none 0 0, .slice none 0 0, .int .i64 0, .slice none 0 0, .string ⟨#[]⟩, .int .i64 0] 29)) := blk_below HBv3_9.out bw
            have HX_10 : Hid (Below w5.heap.size w5 w10) := HX_9.out.trans (bw.mono HX_9.out.size)
            have HRXY_10 : Hid ((w10).ownsRow w5.heap.size 9 1 (.slice oY yl.length pY) yl.length (yl.map Value.string)) := owns_below HRXY_9.out bw (fun g hg => owns_lt HRXY_9.out hg)
            have HRXG_10 : Hid ((w10).ownsRow w5.heap.size 131 2 (.slice oG k pG) k (flatF gs)) := owns_below HRXG_9.out bw (fun g hg => owns_lt HRXG_9.out hg)
            have HPA_10 : Hid (w10.heap[pa]? = some (.cells #[.string ⟨#[]⟩, .slice none 0 0, .slice none 0 0, .int .i64 0, .slice none 0 0, .string ⟨#[]⟩, .int .i64 0] 29)) := by show _ = _; rw [hXj, ho]; exact heap_alloc_new _ _
            clear hb9 HOX_9 HOY_9 HOG_9 HBv1_9 HBv2_9 HBv3_9 bw ho hXj HX_9
            refine wpAnyH_ready (rs := [13]) (by kernel_rfl) (by simp) ?_
            refine AllReadyH.cons rfl (fun K hK => ?_) AllReadyH.nil
            have ce0 : w10.cell? ⟨pa, 0, none⟩ = some (.string ⟨#[]⟩) := (cell_of HPA_10.out 0).trans rfl
            have fe0 : w10.frozen? ⟨pa, 0, none⟩ = false := frozen_of HPA_10.out 0
            have ce1 : w10.cell? ⟨pa, 1, none⟩ = some (.slice none 0 0) := (cell_of HPA_10.out 1).trans rfl
            have fe1 : w10.frozen? ⟨pa, 1, none⟩ = false := frozen_of HPA_10.out 1
            have ce2 : w10.cell? ⟨pa, 2, none⟩ = some (.slice none 0 0) := (cell_of HPA_10.out 2).trans rfl
            have fe2 : w10.frozen? ⟨pa, 2, none⟩ = false := frozen_of HPA_10.out 2
            have ce3 : w10.cell? ⟨pa, 3, none⟩ = some (.int .i64 0) := (cell_of HPA_10.out 3).trans rfl
            have fe3 : w10.frozen? ⟨pa, 3, none⟩ = false := frozen_of HPA_10.out 3
            have ce4 : w10.cell? ⟨pa, 4, none⟩ = some (.slice none 0 0) := (cell_of HPA_10.out 4).trans rfl
            have fe4 : w10.frozen? ⟨pa, 4, none⟩ = false := frozen_of HPA_10.out 4
            have ce5 : w10.cell? ⟨pa, 5, none⟩ = some (.string ⟨#[]⟩) := (cell_of HPA_10.out 5).trans rfl
            have fe5 : w10.frozen? ⟨pa, 5, none⟩ = false := frozen_of HPA_10.out 5
            have ce6 : w10.cell? ⟨pa, 6, none⟩ = some (.int .i64 0) := (cell_of HPA_10.out 6).trans rfl
            have fe6 : w10.frozen? ⟨pa, 6, none⟩ = false := frozen_of HPA_10.out 6
            obtain ⟨w11, hY⟩ : ∃ Y, Y = (((((((w10.setCell ⟨pa, 0, none⟩ (.string p)).setCell ⟨pa, 1, none⟩ (.slice oX vl.length pX)).setCell ⟨pa, 2, none⟩ (.slice oY yl.length pY)).setCell ⟨pa, 3, none⟩ (.int .i64 st)).setCell ⟨pa, 4, none⟩ (.slice oG k pG)).setCell ⟨pa, 5, none⟩ (.string d)).setCell ⟨pa, 6, none⟩ (.int .i64 t)) := ⟨_, rfl⟩
            have HY : Hid ((((((((w10.setCell ⟨pa, 0, none⟩ (.string p)).setCell ⟨pa, 1, none⟩ (.slice oX vl.length pX)).setCell ⟨pa, 2, none⟩ (.slice oY yl.length pY)).setCell ⟨pa, 3, none⟩ (.int .i64 st)).setCell ⟨pa, 4, none⟩ (.slice oG k pG)).setCell ⟨pa, 5, none⟩ (.string d)).setCell ⟨pa, 6, none⟩ (.int .i64 t)) = w11) := hY.symm
            have HX_11 : Hid (Below w5.heap.size w5 w11) := by show Below _ _ _; rw [hY]; exact (((((((HX_10.out.setCell (p := ⟨pa, 0, none⟩) HGA.out _).setCell (p := ⟨pa, 1, none⟩) HGA.out _).setCell (p := ⟨pa, 2, none⟩) HGA.out _).setCell (p := ⟨pa, 3, none⟩) HGA.out _).setCell (p := ⟨pa, 4, none⟩) HGA.out _).setCell (p := ⟨pa, 5, none⟩) HGA.out _).setCell (p := ⟨pa, 6, none⟩) HGA.out _)
            have HPA_11 : Hid (w11.heap[pa]? = some (.cells #[.string p, .slice oX vl.length pX, .slice oY yl.length pY, .int .i64 st, .slice oG k pG, .string d, .int .i64 t] 29)) := by show _ = _; rw [hY]; have h := (heap_set _ pa 6 _ _ _ (.int .i64 t) (heap_set _ pa 5 _ _ _ (.string d) (heap_set _ pa 4 _ _ _ (.slice oG k pG) (heap_set _ pa 3 _ _ _ (.int .i64 st) (heap_set _ pa 2 _ _ _ (.slice oY yl.length pY) (heap_set _ pa 1 _ _ _ (.slice oX vl.length pX) (heap_set _ pa 0 _ _ _ (.string p) HPA_10.out))))))); simpa using h
            have HRXY_11 : Hid ((w11).ownsRow w5.heap.size 9 1 (.slice oY yl.length pY) yl.length (yl.map Value.string)) := by show World.ownsRow _ _ _ _ _ _ _; rw [hY]; exact owns_same HRXY_10.out (fun g hg => by have hne := own_ne HRXY_10.out HPA_10.out (by decide) g hg; rw [heap_setCell_other _ _ g _ hne, heap_setCell_other _ _ g _ hne, heap_setCell_other _ _ g _ hne, heap_setCell_other _ _ g _ hne, heap_setCell_other _ _ g _ hne, heap_setCell_other _ _ g _ hne, heap_setCell_other _ _ g _ hne])
            have HRXG_11 : Hid ((w11).ownsRow w5.heap.size 131 2 (.slice oG k pG) k (flatF gs)) := by show World.ownsRow _ _ _ _ _ _ _; rw [hY]; exact owns_same HRXG_10.out (fun g hg => by have hne := own_ne HRXG_10.out HPA_10.out (by decide) g hg; rw [heap_setCell_other _ _ g _ hne, heap_setCell_other _ _ g _ hne, heap_setCell_other _ _ g _ hne, heap_setCell_other _ _ g _ hne, heap_setCell_other _ _ g _ hne, heap_setCell_other _ _ g _ hne, heap_setCell_other _ _ g _ hne])
            clear hY hb10 HOX_10 HOY_10 HOG_10 HBv1_10 HBv2_10 HBv3_10
            go_simp
            rw [HY.out]
            refine hK.out _ _ (HSS.out _ HX_11.out) (fun _ => ?_)
            clear hK K HY ce0 fe0 ce1 fe1 ce2 fe2 ce3 fe3 ce4 fe4 ce5 fe5 ce6 fe6
            refine wpAnyH_done (by kernel_rfl) ?_ _
            go_wp2_with fail
            go_meet
            exact ⟨pa, oY, pY, oG, pG, rfl, ⟨HX_11.out, HPA_11.out, HGA.out, HRXY_11.out, HRXG_11.out⟩⟩
          · go_simp
            have HXA : Hid (Below w5.heap.size w5 (w8.alloc (.cells #[.string ⟨#[]⟩, .slice none 0 0, .slice none 0 0, .int .i64 0, .slice none 0 0, .string ⟨#[]⟩, .int .i64 0] 29))) := HX_8.out.alloc HX_8.out.size _
            refine hK.out _ _ (HSS.out _ HXA.out) (fun _ => ?_)
            clear hK K HXA
            obtain ⟨pa, ho⟩ : ∃ o, o = w8.heap.size := ⟨_, rfl⟩
            obtain ⟨w9, hXj⟩ : ∃ X, X = w8.alloc (.cells #[.string ⟨#[]⟩, .slice none 0 0, .slice none 0 0, .int .i64 0, .slice none 0 0, .string ⟨#[]⟩, .int .i64 0] 29) := ⟨_, rfl⟩
            rw [← ho, ← hXj]
            have HGA : Hid (w5.heap.size ≤ pa) := by show _ ≤ _; rw [ho]; exact HX_8.out.size
            have bw : Below w8.heap.size w8 w9 := by rw [hXj]; exact (Below.refl _ _).alloc (Nat.le_refl _) _
            have hb9 : Below w.heap.size w (w9) := hb8.trans (bw.mono hb8.size)
            have HM9 : Hid ((w8).heap.size ≤ (w9).heap.size) := bw.size
            have HOX_9 : Hid ((w9).ownsRow w.heap.size 9 1 (.slice oX vl.length pX) vl.length (vl.map Value.string)) := owns_below HOX_8.out bw (fun g hg => owns_lt HOX_8.out hg)
            have HOY_9 : Hid ((w9).ownsRow w.heap.size 9 1 (.slice oY yl.length pY) yl.length (yl.map Value.string)) := owns_below HOY_8.out bw (fun g hg => owns_lt HOY_8.out hg)
            have HBv1_9 : Hid ((w9).heap[qv1]? = some (.cells #[.int .i64 m, .string p, .slice oa n cap, .string b] 39)) := blk_below HBv1_8.out bw
            have HBv2_9 : Hid ((w9).heap[qv2]? = some (.cells #[.int .i64 st, .slice ob k cb, .string d] 27)) := blk_below HBv2_8.out bw
            have HBv3_9 : Hid ((w9).heap[qv3]? = some (.cells #[.string ⟨#[]⟩, .slice none 0 0, .slice none 0 0, .int .i64 0, .slice none 0 0, .string ⟨#[]⟩, .int .i64 0] 29)) := blk_below HBv3_8.out bw
            have HX_9 : Hid (Below w5.heap.size w5 w9) := HX_8.out.trans (bw.mono HX_8.out.size)
            have HRXY_9 : Hid ((w9).ownsRow w5.heap.size 9 1 (.slice oY yl.length pY) yl.length (yl.map Value.string)) := owns_below HRXY_8.out bw (fun g hg => owns_lt HRXY_8.out hg)
            have HPA_9 : Hid (w9.heap[pa]? = some (.cells #[.string ⟨#[]⟩, .slice none 0 0, .slice none 0 0, .int .i64 0, .slice none 0 0, .string ⟨#[]⟩, .int .i64 0] 29)) := by show _ = _; rw [hXj, ho]; exact heap_alloc_new _ _
            clear hb8 HOX_8 HOY_8 HBv1_8 HBv2_8 HBv3_8 bw ho hXj HX_8
            refine wpAnyH_ready (rs := [9]) (by kernel_rfl) (by simp) ?_
            refine AllReadyH.cons rfl (fun K hK => ?_) AllReadyH.nil
            go_simp
            refine (copiedAnswer_any st _ d k base2 gs _ (HV2.out _ hb9) (by omega) HC2.out (by have := HMK.out.1.2.1.2.2; omega)).mono ?_
            rintro e w10 ⟨vv, rfl, ownG, bw⟩
            obtain ⟨oG, pG, rfl⟩ := slice_of_owns ownG
            rw [HLG.out] at ownG ⊢
            have hb10 : Below w.heap.size w (w10) := hb9.trans (bw.mono hb9.size)
            have HM10 : Hid ((w9).heap.size ≤ (w10).heap.size) := bw.size
            have HOX_10 : Hid ((w10).ownsRow w.heap.size 9 1 (.slice oX vl.length pX) vl.length (vl.map Value.string)) := owns_below HOX_9.out bw (fun g hg => owns_lt HOX_9.out hg)
            have HOY_10 : Hid ((w10).ownsRow w.heap.size 9 1 (.slice oY yl.length pY) yl.length (yl.map Value.string)) := owns_below HOY_9.out bw (fun g hg => owns_lt HOY_9.out hg)
            have HBv1_10 : Hid ((w10).heap[qv1]? = some (.cells #[.int .i64 m, .string p, .slice oa n cap, .string b] 39)) := blk_below HBv1_9.out bw
            have HBv2_10 : Hid ((w10).heap[qv2]? = some (.cells #[.int .i64 st, .slice ob k cb, .string d] 27)) := blk_below HBv2_9.out bw
            have HBv3_10 : Hid ((w10).heap[qv3]? = some (.cells #[.string ⟨#[]⟩, .slice none 0 0, .slice none 0 0, .int .i64 0, .slice none 0 0, .string ⟨#[]⟩, .int .i64 0] 29)) := blk_below HBv3_9.out bw
            have HOG_10 : Hid ((w10).ownsRow w.heap.size 131 2 (.slice oG k pG) k (flatF gs)) := owns_wide ownG hb9.size
            have LOG : Hid (∀ g, (Value.ownBlock (.slice oG k pG)) = some g → (w9).heap.size ≤ g) := fun g hg => owns_ge ownG hg
            have HIG : Hid (∀ g, (Value.ownBlock (.slice oG k pG)) = some g → g < (w10).heap.size) := fun g hg => owns_lt ownG hg
            clear ownG
            clear hb9 HOX_9 HOY_9 HBv1_9 HBv2_9 HBv3_9
            have HX_10 : Hid (Below w5.heap.size w5 w10) := HX_9.out.trans (bw.mono HX_9.out.size)
            have HPA_10 : Hid (w10.heap[pa]? = some (.cells #[.string ⟨#[]⟩, .slice none 0 0, .slice none 0 0, .int .i64 0, .slice none 0 0, .string ⟨#[]⟩, .int .i64 0] 29)) := blk_below HPA_9.out bw
            have HRXY_10 : Hid ((w10).ownsRow w5.heap.size 9 1 (.slice oY yl.length pY) yl.length (yl.map Value.string)) := owns_below HRXY_9.out bw (fun g hg => owns_lt HRXY_9.out hg)
            have HRXG_10 : Hid ((w10).ownsRow w5.heap.size 131 2 (.slice oG k pG) k (flatF gs)) := owns_lift HOG_10.out (fun g hg => Nat.le_trans HX_9.out.size (LOG.out g hg))
            refine hK.out _ _ (HSS.out _ HX_10.out) (fun _ => ?_)
            clear hK K bw HX_9
            refine wpAnyH_takeD (i := 11) (v := .agg #[.string p, .slice oX vl.length pX, .slice oY yl.length pY, .int .i64 st, .slice oG k pG, .string d, .int .i64 t]) (some 29) rfl rfl (by kernel_rfl) (by kernel_rfl) (by kernel_rfl) (fun _ _ _ h => h) (Or.inl ⟨by rfl, by intro W _; go_simp⟩) (HSS.out _ HX_10.out) ?_
            simp only [Act.put, List.setIfInBounds_toArray, List.set_cons_zero, List.set_cons_succ]
            refine wpAnyH_ready (rs := [13]) (by kernel_rfl) (by simp) ?_
            refine AllReadyH.cons rfl (fun K hK => ?_) AllReadyH.nil
            have ce0 : w10.cell? ⟨pa, 0, none⟩ = some (.string ⟨#[]⟩) := (cell_of HPA_10.out 0).trans rfl
            have fe0 : w10.frozen? ⟨pa, 0, none⟩ = false := frozen_of HPA_10.out 0
            have ce1 : w10.cell? ⟨pa, 1, none⟩ = some (.slice none 0 0) := (cell_of HPA_10.out 1).trans rfl
            have fe1 : w10.frozen? ⟨pa, 1, none⟩ = false := frozen_of HPA_10.out 1
            have ce2 : w10.cell? ⟨pa, 2, none⟩ = some (.slice none 0 0) := (cell_of HPA_10.out 2).trans rfl
            have fe2 : w10.frozen? ⟨pa, 2, none⟩ = false := frozen_of HPA_10.out 2
            have ce3 : w10.cell? ⟨pa, 3, none⟩ = some (.int .i64 0) := (cell_of HPA_10.out 3).trans rfl
            have fe3 : w10.frozen? ⟨pa, 3, none⟩ = false := frozen_of HPA_10.out 3
            have ce4 : w10.cell? ⟨pa, 4, none⟩ = some (.slice none 0 0) := (cell_of HPA_10.out 4).trans rfl
            have fe4 : w10.frozen? ⟨pa, 4, none⟩ = false := frozen_of HPA_10.out 4
            have ce5 : w10.cell? ⟨pa, 5, none⟩ = some (.string ⟨#[]⟩) := (cell_of HPA_10.out 5).trans rfl
            have fe5 : w10.frozen? ⟨pa, 5, none⟩ = false := frozen_of HPA_10.out 5
            have ce6 : w10.cell? ⟨pa, 6, none⟩ = some (.int .i64 0) := (cell_of HPA_10.out 6).trans rfl
            have fe6 : w10.frozen? ⟨pa, 6, none⟩ = false := frozen_of HPA_10.out 6
            obtain ⟨w11, hY⟩ : ∃ Y, Y = (((((((w10.setCell ⟨pa, 0, none⟩ (.string p)).setCell ⟨pa, 1, none⟩ (.slice oX vl.length pX)).setCell ⟨pa, 2, none⟩ (.slice oY yl.length pY)).setCell ⟨pa, 3, none⟩ (.int .i64 st)).setCell ⟨pa, 4, none⟩ (.slice oG k pG)).setCell ⟨pa, 5, none⟩ (.string d)).setCell ⟨pa, 6, none⟩ (.int .i64 t)) := ⟨_, rfl⟩
            have HY : Hid ((((((((w10.setCell ⟨pa, 0, none⟩ (.string p)).setCell ⟨pa, 1, none⟩ (.slice oX vl.length pX)).setCell ⟨pa, 2, none⟩ (.slice oY yl.length pY)).setCell ⟨pa, 3, none⟩ (.int .i64 st)).setCell ⟨pa, 4, none⟩ (.slice oG k pG)).setCell ⟨pa, 5, none⟩ (.string d)).setCell ⟨pa, 6, none⟩ (.int .i64 t)) = w11) := hY.symm
            have HX_11 : Hid (Below w5.heap.size w5 w11) := by show Below _ _ _; rw [hY]; exact (((((((HX_10.out.setCell (p := ⟨pa, 0, none⟩) HGA.out _).setCell (p := ⟨pa, 1, none⟩) HGA.out _).setCell (p := ⟨pa, 2, none⟩) HGA.out _).setCell (p := ⟨pa, 3, none⟩) HGA.out _).setCell (p := ⟨pa, 4, none⟩) HGA.out _).setCell (p := ⟨pa, 5, none⟩) HGA.out _).setCell (p := ⟨pa, 6, none⟩) HGA.out _)
            have HPA_11 : Hid (w11.heap[pa]? = some (.cells #[.string p, .slice oX vl.length pX, .slice oY yl.length pY, .int .i64 st, .slice oG k pG, .string d, .int .i64 t] 29)) := by show _ = _; rw [hY]; have h := (heap_set _ pa 6 _ _ _ (.int .i64 t) (heap_set _ pa 5 _ _ _ (.string d) (heap_set _ pa 4 _ _ _ (.slice oG k pG) (heap_set _ pa 3 _ _ _ (.int .i64 st) (heap_set _ pa 2 _ _ _ (.slice oY yl.length pY) (heap_set _ pa 1 _ _ _ (.slice oX vl.length pX) (heap_set _ pa 0 _ _ _ (.string p) HPA_10.out))))))); simpa using h
            have HRXY_11 : Hid ((w11).ownsRow w5.heap.size 9 1 (.slice oY yl.length pY) yl.length (yl.map Value.string)) := by show World.ownsRow _ _ _ _ _ _ _; rw [hY]; exact owns_same HRXY_10.out (fun g hg => by have hne := own_ne HRXY_10.out HPA_10.out (by decide) g hg; rw [heap_setCell_other _ _ g _ hne, heap_setCell_other _ _ g _ hne, heap_setCell_other _ _ g _ hne, heap_setCell_other _ _ g _ hne, heap_setCell_other _ _ g _ hne, heap_setCell_other _ _ g _ hne, heap_setCell_other _ _ g _ hne])
            have HRXG_11 : Hid ((w11).ownsRow w5.heap.size 131 2 (.slice oG k pG) k (flatF gs)) := by show World.ownsRow _ _ _ _ _ _ _; rw [hY]; exact owns_same HRXG_10.out (fun g hg => by have hne := own_ne HRXG_10.out HPA_10.out (by decide) g hg; rw [heap_setCell_other _ _ g _ hne, heap_setCell_other _ _ g _ hne, heap_setCell_other _ _ g _ hne, heap_setCell_other _ _ g _ hne, heap_setCell_other _ _ g _ hne, heap_setCell_other _ _ g _ hne, heap_setCell_other _ _ g _ hne])
            clear hY hb10 HOX_10 HOY_10 HOG_10 HBv1_10 HBv2_10 HBv3_10
            go_simp
            rw [HY.out]
            refine hK.out _ _ (HSS.out _ HX_11.out) (fun _ => ?_)
            clear hK K HY ce0 fe0 ce1 fe1 ce2 fe2 ce3 fe3 ce4 fe4 ce5 fe5 ce6 fe6
            refine wpAnyH_done (by kernel_rfl) ?_ _
            go_wp2_with fail
            go_meet
            exact ⟨pa, oY, pY, oG, pG, rfl, ⟨HX_11.out, HPA_11.out, HGA.out, HRXY_11.out, HRXG_11.out⟩⟩
        · go_simp
          have HXA : Hid (Below w5.heap.size w5 (w7.alloc (.cells #[.string ⟨#[]⟩, .slice none 0 0, .slice none 0 0, .int .i64 0, .slice none 0 0, .string ⟨#[]⟩, .int .i64 0] 29))) := HX_7.out.alloc HX_7.out.size _
          refine hK.out _ _ (HSS.out _ HXA.out) (fun _ => ?_)
          clear hK K HXA
          obtain ⟨pa, ho⟩ : ∃ o, o = w7.heap.size := ⟨_, rfl⟩
          obtain ⟨w8, hXj⟩ : ∃ X, X = w7.alloc (.cells #[.string ⟨#[]⟩, .slice none 0 0, .slice none 0 0, .int .i64 0, .slice none 0 0, .string ⟨#[]⟩, .int .i64 0] 29) := ⟨_, rfl⟩
          rw [← ho, ← hXj]
          have HGA : Hid (w5.heap.size ≤ pa) := by show _ ≤ _; rw [ho]; exact HX_7.out.size
          have bw : Below w7.heap.size w7 w8 := by rw [hXj]; exact (Below.refl _ _).alloc (Nat.le_refl _) _
          have hb8 : Below w.heap.size w (w8) := hb7.trans (bw.mono hb7.size)
          have HM8 : Hid ((w7).heap.size ≤ (w8).heap.size) := bw.size
          have HOX_8 : Hid ((w8).ownsRow w.heap.size 9 1 (.slice oX vl.length pX) vl.length (vl.map Value.string)) := owns_below HOX_7.out bw (fun g hg => owns_lt HOX_7.out hg)
          have HBv1_8 : Hid ((w8).heap[qv1]? = some (.cells #[.int .i64 m, .string p, .slice oa n cap, .string b] 39)) := blk_below HBv1_7.out bw
          have HBv2_8 : Hid ((w8).heap[qv2]? = some (.cells #[.int .i64 st, .slice ob k cb, .string d] 27)) := blk_below HBv2_7.out bw
          have HBv3_8 : Hid ((w8).heap[qv3]? = some (.cells #[.string ⟨#[]⟩, .slice none 0 0, .slice none 0 0, .int .i64 0, .slice none 0 0, .string ⟨#[]⟩, .int .i64 0] 29)) := blk_below HBv3_7.out bw
          have HX_8 : Hid (Below w5.heap.size w5 w8) := HX_7.out.trans (bw.mono HX_7.out.size)
          have HPA_8 : Hid (w8.heap[pa]? = some (.cells #[.string ⟨#[]⟩, .slice none 0 0, .slice none 0 0, .int .i64 0, .slice none 0 0, .string ⟨#[]⟩, .int .i64 0] 29)) := by show _ = _; rw [hXj, ho]; exact heap_alloc_new _ _
          clear hb7 HOX_7 HBv1_7 HBv2_7 HBv3_7 bw ho hXj HX_7
          refine wpAnyH_ready (rs := [7]) (by kernel_rfl) (by simp) ?_
          refine AllReadyH.cons rfl (fun K hK => ?_) AllReadyH.nil
          go_simp
          refine (implValuesOf_any _ _ _ vl _ n base fs _ (texts_view HOX_8.out) HVZ.out.1 (HV1.out _ hb8) (by omega) HC1.out).mono ?_
          rintro e w9 ⟨vv, rfl, ownY, bw⟩
          obtain ⟨oY, pY, rfl⟩ := slice_of_owns ownY
          rw [HYL.out] at ownY ⊢
          have hb9 : Below w.heap.size w (w9) := hb8.trans (bw.mono hb8.size)
          have HM9 : Hid ((w8).heap.size ≤ (w9).heap.size) := bw.size
          have HOX_9 : Hid ((w9).ownsRow w.heap.size 9 1 (.slice oX vl.length pX) vl.length (vl.map Value.string)) := owns_below HOX_8.out bw (fun g hg => owns_lt HOX_8.out hg)
          have HBv1_9 : Hid ((w9).heap[qv1]? = some (.cells #[.int .i64 m, .string p, .slice oa n cap, .string b] 39)) := blk_below HBv1_8.out bw
          have HBv2_9 : Hid ((w9).heap[qv2]? = some (.cells #[.int .i64 st, .slice ob k cb, .string d] 27)) := blk_below HBv2_8.out bw
          have HBv3_9 : Hid ((w9).heap[qv3]? = some (.cells #[.string ⟨#[]⟩, .slice none 0 0, .slice none 0 0, .int .i64 0, .slice none 0 0, .string ⟨#[]⟩, .int .i64 0] 29)) := blk_below HBv3_8.out bw
          have HOY_9 : Hid ((w9).ownsRow w.heap.size 9 1 (.slice oY yl.length pY) yl.length (yl.map Value.string)) := owns_wide ownY hb8.size
          have LOY : Hid (∀ g, (Value.ownBlock (.slice oY yl.length pY)) = some g → (w8).heap.size ≤ g) := fun g hg => owns_ge ownY hg
          have HIY : Hid (∀ g, (Value.ownBlock (.slice oY yl.length pY)) = some g → g < (w9).heap.size) := fun g hg => owns_lt ownY hg
          clear ownY
          clear hb8 HOX_8 HBv1_8 HBv2_8 HBv3_8
          have HX_9 : Hid (Below w5.heap.size w5 w9) := HX_8.out.trans (bw.mono HX_8.out.size)
          have HPA_9 : Hid (w9.heap[pa]? = some (.cells #[.string ⟨#[]⟩, .slice none 0 0, .slice none 0 0, .int .i64 0, .slice none 0 0, .string ⟨#[]⟩, .int .i64 0] 29)) := blk_below HPA_8.out bw
          have HRXY_9 : Hid ((w9).ownsRow w5.heap.size 9 1 (.slice oY yl.length pY) yl.length (yl.map Value.string)) := owns_lift HOY_9.out (fun g hg => Nat.le_trans HX_8.out.size (LOY.out g hg))
          refine hK.out _ _ (HSS.out _ HX_9.out) (fun _ => ?_)
          clear hK K bw HX_8
          refine wpAnyH_ready (rs := [9]) (by kernel_rfl) (by simp) ?_
          refine AllReadyH.cons rfl (fun K hK => ?_) AllReadyH.nil
          go_simp
          refine (copiedAnswer_any st _ d k base2 gs _ (HV2.out _ hb9) (by omega) HC2.out (by have := HMK.out.1.2.1.2.2; omega)).mono ?_
          rintro e w10 ⟨vv, rfl, ownG, bw⟩
          obtain ⟨oG, pG, rfl⟩ := slice_of_owns ownG
          rw [HLG.out] at ownG ⊢
          have hb10 : Below w.heap.size w (w10) := hb9.trans (bw.mono hb9.size)
          have HM10 : Hid ((w9).heap.size ≤ (w10).heap.size) := bw.size
          have HOX_10 : Hid ((w10).ownsRow w.heap.size 9 1 (.slice oX vl.length pX) vl.length (vl.map Value.string)) := owns_below HOX_9.out bw (fun g hg => owns_lt HOX_9.out hg)
          have HOY_10 : Hid ((w10).ownsRow w.heap.size 9 1 (.slice oY yl.length pY) yl.length (yl.map Value.string)) := owns_below HOY_9.out bw (fun g hg => owns_lt HOY_9.out hg)
          have HBv1_10 : Hid ((w10).heap[qv1]? = some (.cells #[.int .i64 m, .string p, .slice oa n cap, .string b] 39)) := blk_below HBv1_9.out bw
          have HBv2_10 : Hid ((w10).heap[qv2]? = some (.cells #[.int .i64 st, .slice ob k cb, .string d] 27)) := blk_below HBv2_9.out bw
          have HBv3_10 : Hid ((w10).heap[qv3]? = some (.cells #[.string ⟨#[]⟩, .slice none 0 0, .slice none 0 0, .int .i64 0, .slice none 0 0, .string ⟨#[]⟩, .int .i64 0] 29)) := blk_below HBv3_9.out bw
          have HOG_10 : Hid ((w10).ownsRow w.heap.size 131 2 (.slice oG k pG) k (flatF gs)) := owns_wide ownG hb9.size
          have LOG : Hid (∀ g, (Value.ownBlock (.slice oG k pG)) = some g → (w9).heap.size ≤ g) := fun g hg => owns_ge ownG hg
          have HIG : Hid (∀ g, (Value.ownBlock (.slice oG k pG)) = some g → g < (w10).heap.size) := fun g hg => owns_lt ownG hg
          clear ownG
          clear hb9 HOX_9 HOY_9 HBv1_9 HBv2_9 HBv3_9
          have HX_10 : Hid (Below w5.heap.size w5 w10) := HX_9.out.trans (bw.mono HX_9.out.size)
          have HPA_10 : Hid (w10.heap[pa]? = some (.cells #[.string ⟨#[]⟩, .slice none 0 0, .slice none 0 0, .int .i64 0, .slice none 0 0, .string ⟨#[]⟩, .int .i64 0] 29)) := blk_below HPA_9.out bw
          have HRXY_10 : Hid ((w10).ownsRow w5.heap.size 9 1 (.slice oY yl.length pY) yl.length (yl.map Value.string)) := owns_below HRXY_9.out bw (fun g hg => owns_lt HRXY_9.out hg)
          have HRXG_10 : Hid ((w10).ownsRow w5.heap.size 131 2 (.slice oG k pG) k (flatF gs)) := owns_lift HOG_10.out (fun g hg => Nat.le_trans HX_9.out.size (LOG.out g hg))
          refine hK.out _ _ (HSS.out _ HX_10.out) (fun _ => ?_)
          clear hK K bw HX_9
          refine wpAnyH_takeD (i := 11) (v := .agg #[.string p, .slice oX vl.length pX, .slice oY yl.length pY, .int .i64 st, .slice oG k pG, .string d, .int .i64 t]) (some 29) rfl rfl (by kernel_rfl) (by kernel_rfl) (by kernel_rfl) (fun _ _ _ h => h) (Or.inl ⟨by rfl, by intro W _; go_simp⟩) (HSS.out _ HX_10.out) ?_
          simp only [Act.put, List.setIfInBounds_toArray, List.set_cons_zero, List.set_cons_succ]
          refine wpAnyH_ready (rs := [13]) (by kernel_rfl) (by simp) ?_
          refine AllReadyH.cons rfl (fun K hK => ?_) AllReadyH.nil
          have ce0 : w10.cell? ⟨pa, 0, none⟩ = some (.string ⟨#[]⟩) := (cell_of HPA_10.out 0).trans rfl
          have fe0 : w10.frozen? ⟨pa, 0, none⟩ = false := frozen_of HPA_10.out 0
          have ce1 : w10.cell? ⟨pa, 1, none⟩ = some (.slice none 0 0) := (cell_of HPA_10.out 1).trans rfl
          have fe1 : w10.frozen? ⟨pa, 1, none⟩ = false := frozen_of HPA_10.out 1
          have ce2 : w10.cell? ⟨pa, 2, none⟩ = some (.slice none 0 0) := (cell_of HPA_10.out 2).trans rfl
          have fe2 : w10.frozen? ⟨pa, 2, none⟩ = false := frozen_of HPA_10.out 2
          have ce3 : w10.cell? ⟨pa, 3, none⟩ = some (.int .i64 0) := (cell_of HPA_10.out 3).trans rfl
          have fe3 : w10.frozen? ⟨pa, 3, none⟩ = false := frozen_of HPA_10.out 3
          have ce4 : w10.cell? ⟨pa, 4, none⟩ = some (.slice none 0 0) := (cell_of HPA_10.out 4).trans rfl
          have fe4 : w10.frozen? ⟨pa, 4, none⟩ = false := frozen_of HPA_10.out 4
          have ce5 : w10.cell? ⟨pa, 5, none⟩ = some (.string ⟨#[]⟩) := (cell_of HPA_10.out 5).trans rfl
          have fe5 : w10.frozen? ⟨pa, 5, none⟩ = false := frozen_of HPA_10.out 5
          have ce6 : w10.cell? ⟨pa, 6, none⟩ = some (.int .i64 0) := (cell_of HPA_10.out 6).trans rfl
          have fe6 : w10.frozen? ⟨pa, 6, none⟩ = false := frozen_of HPA_10.out 6
          obtain ⟨w11, hY⟩ : ∃ Y, Y = (((((((w10.setCell ⟨pa, 0, none⟩ (.string p)).setCell ⟨pa, 1, none⟩ (.slice oX vl.length pX)).setCell ⟨pa, 2, none⟩ (.slice oY yl.length pY)).setCell ⟨pa, 3, none⟩ (.int .i64 st)).setCell ⟨pa, 4, none⟩ (.slice oG k pG)).setCell ⟨pa, 5, none⟩ (.string d)).setCell ⟨pa, 6, none⟩ (.int .i64 t)) := ⟨_, rfl⟩
          have HY : Hid ((((((((w10.setCell ⟨pa, 0, none⟩ (.string p)).setCell ⟨pa, 1, none⟩ (.slice oX vl.length pX)).setCell ⟨pa, 2, none⟩ (.slice oY yl.length pY)).setCell ⟨pa, 3, none⟩ (.int .i64 st)).setCell ⟨pa, 4, none⟩ (.slice oG k pG)).setCell ⟨pa, 5, none⟩ (.string d)).setCell ⟨pa, 6, none⟩ (.int .i64 t)) = w11) := hY.symm
          have HX_11 : Hid (Below w5.heap.size w5 w11) := by show Below _ _ _; rw [hY]; exact (((((((HX_10.out.setCell (p := ⟨pa, 0, none⟩) HGA.out _).setCell (p := ⟨pa, 1, none⟩) HGA.out _).setCell (p := ⟨pa, 2, none⟩) HGA.out _).setCell (p := ⟨pa, 3, none⟩) HGA.out _).setCell (p := ⟨pa, 4, none⟩) HGA.out _).setCell (p := ⟨pa, 5, none⟩) HGA.out _).setCell (p := ⟨pa, 6, none⟩) HGA.out _)
          have HPA_11 : Hid (w11.heap[pa]? = some (.cells #[.string p, .slice oX vl.length pX, .slice oY yl.length pY, .int .i64 st, .slice oG k pG, .string d, .int .i64 t] 29)) := by show _ = _; rw [hY]; have h := (heap_set _ pa 6 _ _ _ (.int .i64 t) (heap_set _ pa 5 _ _ _ (.string d) (heap_set _ pa 4 _ _ _ (.slice oG k pG) (heap_set _ pa 3 _ _ _ (.int .i64 st) (heap_set _ pa 2 _ _ _ (.slice oY yl.length pY) (heap_set _ pa 1 _ _ _ (.slice oX vl.length pX) (heap_set _ pa 0 _ _ _ (.string p) HPA_10.out))))))); simpa using h
          have HRXY_11 : Hid ((w11).ownsRow w5.heap.size 9 1 (.slice oY yl.length pY) yl.length (yl.map Value.string)) := by show World.ownsRow _ _ _ _ _ _ _; rw [hY]; exact owns_same HRXY_10.out (fun g hg => by have hne := own_ne HRXY_10.out HPA_10.out (by decide) g hg; rw [heap_setCell_other _ _ g _ hne, heap_setCell_other _ _ g _ hne, heap_setCell_other _ _ g _ hne, heap_setCell_other _ _ g _ hne, heap_setCell_other _ _ g _ hne, heap_setCell_other _ _ g _ hne, heap_setCell_other _ _ g _ hne])
          have HRXG_11 : Hid ((w11).ownsRow w5.heap.size 131 2 (.slice oG k pG) k (flatF gs)) := by show World.ownsRow _ _ _ _ _ _ _; rw [hY]; exact owns_same HRXG_10.out (fun g hg => by have hne := own_ne HRXG_10.out HPA_10.out (by decide) g hg; rw [heap_setCell_other _ _ g _ hne, heap_setCell_other _ _ g _ hne, heap_setCell_other _ _ g _ hne, heap_setCell_other _ _ g _ hne, heap_setCell_other _ _ g _ hne, heap_setCell_other _ _ g _ hne, heap_setCell_other _ _ g _ hne])
          clear hY hb10 HOX_10 HOY_10 HOG_10 HBv1_10 HBv2_10 HBv3_10
          go_simp
          rw [HY.out]
          refine hK.out _ _ (HSS.out _ HX_11.out) (fun _ => ?_)
          clear hK K HY ce0 fe0 ce1 fe1 ce2 fe2 ce3 fe3 ce4 fe4 ce5 fe5 ce6 fe6
          refine wpAnyH_done (by kernel_rfl) ?_ _
          go_wp2_with fail
          go_meet
          exact ⟨pa, oY, pY, oG, pG, rfl, ⟨HX_11.out, HPA_11.out, HGA.out, HRXY_11.out, HRXG_11.out⟩⟩
      · go_simp
        have HXA : Hid (Below w5.heap.size w5 (w6.alloc (.cells #[.string ⟨#[]⟩, .slice none 0 0, .slice none 0 0, .int .i64 0, .slice none 0 0, .string ⟨#[]⟩, .int .i64 0] 29))) := HX_6.out.alloc HX_6.out.size _
        refine hK.out _ _ (HSS.out _ HXA.out) (fun _ => ?_)
        clear hK K HXA
        obtain ⟨pa, ho⟩ : ∃ o, o = w6.heap.size := ⟨_, rfl⟩
        obtain ⟨w7, hXj⟩ : ∃ X, X = w6.alloc (.cells #[.string ⟨#[]⟩, .slice none 0 0, .slice none 0 0, .int .i64 0, .slice none 0 0, .string ⟨#[]⟩, .int .i64 0] 29) := ⟨_, rfl⟩
        rw [← ho, ← hXj]
        have HGA : Hid (w5.heap.size ≤ pa) := by show _ ≤ _; rw [ho]; exact HX_6.out.size
        have bw : Below w6.heap.size w6 w7 := by rw [hXj]; exact (Below.refl _ _).alloc (Nat.le_refl _) _
        have hb7 : Below w.heap.size w (w7) := hb6.trans (bw.mono hb6.size)
        have HM7 : Hid ((w6).heap.size ≤ (w7).heap.size) := bw.size
        have HOX_7 : Hid ((w7).ownsRow w.heap.size 9 1 (.slice oX vl.length pX) vl.length (vl.map Value.string)) := owns_below HOX_6.out bw (fun g hg => owns_lt HOX_6.out hg)
        have HBv1_7 : Hid ((w7).heap[qv1]? = some (.cells #[.int .i64 m, .string p, .slice oa n cap, .string b] 39)) := blk_below HBv1_6.out bw
        have HBv2_7 : Hid ((w7).heap[qv2]? = some (.cells #[.int .i64 st, .slice ob k cb, .string d] 27)) := blk_below HBv2_6.out bw
        have HBv3_7 : Hid ((w7).heap[qv3]? = some (.cells #[.string ⟨#[]⟩, .slice none 0 0, .slice none 0 0, .int .i64 0, .slice none 0 0, .string ⟨#[]⟩, .int .i64 0] 29)) := blk_below HBv3_6.out bw
        have HX_7 : Hid (Below w5.heap.size w5 w7) := HX_6.out.trans (bw.mono HX_6.out.size)
        have HPA_7 : Hid (w7.heap[pa]? = some (.cells #[.string ⟨#[]⟩, .slice none 0 0, .slice none 0 0, .int .i64 0, .slice none 0 0, .string ⟨#[]⟩, .int .i64 0] 29)) := by show _ = _; rw [hXj, ho]; exact heap_alloc_new _ _
        clear hb6 HOX_6 HBv1_6 HBv2_6 HBv3_6 bw ho hXj HX_6
        refine wpAnyH_ready (rs := [2]) (by kernel_rfl) (by simp) ?_
        refine AllReadyH.cons rfl (fun K hK => ?_) AllReadyH.nil
        go_simp
        refine (clone_any p _ (by have := HMK.out.1.1.2.1.2.2.1; omega)).mono ?_
        rintro e w8 ⟨rfl, bw⟩
        have hb8 : Below w.heap.size w (w8) := hb7.trans (bw.mono hb7.size)
        have HM8 : Hid ((w7).heap.size ≤ (w8).heap.size) := bw.size
        have HOX_8 : Hid ((w8).ownsRow w.heap.size 9 1 (.slice oX vl.length pX) vl.length (vl.map Value.string)) := owns_below HOX_7.out bw (fun g hg => owns_lt HOX_7.out hg)
        have HBv1_8 : Hid ((w8).heap[qv1]? = some (.cells #[.int .i64 m, .string p, .slice oa n cap, .string b] 39)) := blk_below HBv1_7.out bw
        have HBv2_8 : Hid ((w8).heap[qv2]? = some (.cells #[.int .i64 st, .slice ob k cb, .string d] 27)) := blk_below HBv2_7.out bw
        have HBv3_8 : Hid ((w8).heap[qv3]? = some (.cells #[.string ⟨#[]⟩, .slice none 0 0, .slice none 0 0, .int .i64 0, .slice none 0 0, .string ⟨#[]⟩, .int .i64 0] 29)) := blk_below HBv3_7.out bw
        clear hb7 HOX_7 HBv1_7 HBv2_7 HBv3_7
        have HX_8 : Hid (Below w5.heap.size w5 w8) := HX_7.out.trans (bw.mono HX_7.out.size)
        have HPA_8 : Hid (w8.heap[pa]? = some (.cells #[.string ⟨#[]⟩, .slice none 0 0, .slice none 0 0, .int .i64 0, .slice none 0 0, .string ⟨#[]⟩, .int .i64 0] 29)) := blk_below HPA_7.out bw
        refine hK.out _ _ (HSS.out _ HX_8.out) (fun _ => ?_)
        clear hK K bw HX_7
        refine wpAnyH_ready (rs := [7]) (by kernel_rfl) (by simp) ?_
        refine AllReadyH.cons rfl (fun K hK => ?_) AllReadyH.nil
        go_simp
        refine (implValuesOf_any _ _ _ vl _ n base fs _ (texts_view HOX_8.out) HVZ.out.1 (HV1.out _ hb8) (by omega) HC1.out).mono ?_
        rintro e w9 ⟨vv, rfl, ownY, bw⟩
        obtain ⟨oY, pY, rfl⟩ := slice_of_owns ownY
        rw [HYL.out] at ownY ⊢
        have hb9 : Below w.heap.size w (w9) := hb8.trans (bw.mono hb8.size)
        have HM9 : Hid ((w8).heap.size ≤ (w9).heap.size) := bw.size
        have HOX_9 : Hid ((w9).ownsRow w.heap.size 9 1 (.slice oX vl.length pX) vl.length (vl.map Value.string)) := owns_below HOX_8.out bw (fun g hg => owns_lt HOX_8.out hg)
        have HBv1_9 : Hid ((w9).heap[qv1]? = some (.cells #[.int .i64 m, .string p, .slice oa n cap, .string b] 39)) := blk_below HBv1_8.out bw
        have HBv2_9 : Hid ((w9).heap[qv2]? = some (.cells #[.int .i64 st, .slice ob k cb, .string d] 27)) := blk_below HBv2_8.out bw
        have HBv3_9 : Hid ((w9).heap[qv3]? = some (.cells #[.string ⟨#[]⟩, .slice none 0 0, .slice none 0 0, .int .i64 0, .slice none 0 0, .string ⟨#[]⟩, .int .i64 0] 29)) := blk_below HBv3_8.out bw
        have HOY_9 : Hid ((w9).ownsRow w.heap.size 9 1 (.slice oY yl.length pY) yl.length (yl.map Value.string)) := owns_wide ownY hb8.size
        have LOY : Hid (∀ g, (Value.ownBlock (.slice oY yl.length pY)) = some g → (w8).heap.size ≤ g) := fun g hg => owns_ge ownY hg
        have HIY : Hid (∀ g, (Value.ownBlock (.slice oY yl.length pY)) = some g → g < (w9).heap.size) := fun g hg => owns_lt ownY hg
        clear ownY
        clear hb8 HOX_8 HBv1_8 HBv2_8 HBv3_8
        have HX_9 : Hid (Below w5.heap.size w5 w9) := HX_8.out.trans (bw.mono HX_8.out.size)
        have HPA_9 : Hid (w9.heap[pa]? = some (.cells #[.string ⟨#[]⟩, .slice none 0 0, .slice none 0 0, .int .i64 0, .slice none 0 0, .string ⟨#[]⟩, .int .i64 0] 29)) := blk_below HPA_8.out bw
        have HRXY_9 : Hid ((w9).ownsRow w5.heap.size 9 1 (.slice oY yl.length pY) yl.length (yl.map Value.string)) := owns_lift HOY_9.out (fun g hg => Nat.le_trans HX_8.out.size (LOY.out g hg))
        refine hK.out _ _ (HSS.out _ HX_9.out) (fun _ => ?_)
        clear hK K bw HX_8
        refine wpAnyH_ready (rs := [9]) (by kernel_rfl) (by simp) ?_
        refine AllReadyH.cons rfl (fun K hK => ?_) AllReadyH.nil
        go_simp
        refine (copiedAnswer_any st _ d k base2 gs _ (HV2.out _ hb9) (by omega) HC2.out (by have := HMK.out.1.2.1.2.2; omega)).mono ?_
        rintro e w10 ⟨vv, rfl, ownG, bw⟩
        obtain ⟨oG, pG, rfl⟩ := slice_of_owns ownG
        rw [HLG.out] at ownG ⊢
        have hb10 : Below w.heap.size w (w10) := hb9.trans (bw.mono hb9.size)
        have HM10 : Hid ((w9).heap.size ≤ (w10).heap.size) := bw.size
        have HOX_10 : Hid ((w10).ownsRow w.heap.size 9 1 (.slice oX vl.length pX) vl.length (vl.map Value.string)) := owns_below HOX_9.out bw (fun g hg => owns_lt HOX_9.out hg)
        have HOY_10 : Hid ((w10).ownsRow w.heap.size 9 1 (.slice oY yl.length pY) yl.length (yl.map Value.string)) := owns_below HOY_9.out bw (fun g hg => owns_lt HOY_9.out hg)
        have HBv1_10 : Hid ((w10).heap[qv1]? = some (.cells #[.int .i64 m, .string p, .slice oa n cap, .string b] 39)) := blk_below HBv1_9.out bw
        have HBv2_10 : Hid ((w10).heap[qv2]? = some (.cells #[.int .i64 st, .slice ob k cb, .string d] 27)) := blk_below HBv2_9.out bw
        have HBv3_10 : Hid ((w10).heap[qv3]? = some (.cells #[.string ⟨#[]⟩, .slice none 0 0, .slice none 0 0, .int .i64 0, .slice none 0 0, .string ⟨#[]⟩, .int .i64 0] 29)) := blk_below HBv3_9.out bw
        have HOG_10 : Hid ((w10).ownsRow w.heap.size 131 2 (.slice oG k pG) k (flatF gs)) := owns_wide ownG hb9.size
        have LOG : Hid (∀ g, (Value.ownBlock (.slice oG k pG)) = some g → (w9).heap.size ≤ g) := fun g hg => owns_ge ownG hg
        have HIG : Hid (∀ g, (Value.ownBlock (.slice oG k pG)) = some g → g < (w10).heap.size) := fun g hg => owns_lt ownG hg
        clear ownG
        clear hb9 HOX_9 HOY_9 HBv1_9 HBv2_9 HBv3_9
        have HX_10 : Hid (Below w5.heap.size w5 w10) := HX_9.out.trans (bw.mono HX_9.out.size)
        have HPA_10 : Hid (w10.heap[pa]? = some (.cells #[.string ⟨#[]⟩, .slice none 0 0, .slice none 0 0, .int .i64 0, .slice none 0 0, .string ⟨#[]⟩, .int .i64 0] 29)) := blk_below HPA_9.out bw
        have HRXY_10 : Hid ((w10).ownsRow w5.heap.size 9 1 (.slice oY yl.length pY) yl.length (yl.map Value.string)) := owns_below HRXY_9.out bw (fun g hg => owns_lt HRXY_9.out hg)
        have HRXG_10 : Hid ((w10).ownsRow w5.heap.size 131 2 (.slice oG k pG) k (flatF gs)) := owns_lift HOG_10.out (fun g hg => Nat.le_trans HX_9.out.size (LOG.out g hg))
        refine hK.out _ _ (HSS.out _ HX_10.out) (fun _ => ?_)
        clear hK K bw HX_9
        refine wpAnyH_takeD (i := 11) (v := .agg #[.string p, .slice oX vl.length pX, .slice oY yl.length pY, .int .i64 st, .slice oG k pG, .string d, .int .i64 t]) (some 29) rfl rfl (by kernel_rfl) (by kernel_rfl) (by kernel_rfl) (fun _ _ _ h => h) (Or.inl ⟨by rfl, by intro W _; go_simp⟩) (HSS.out _ HX_10.out) ?_
        simp only [Act.put, List.setIfInBounds_toArray, List.set_cons_zero, List.set_cons_succ]
        refine wpAnyH_ready (rs := [13]) (by kernel_rfl) (by simp) ?_
        refine AllReadyH.cons rfl (fun K hK => ?_) AllReadyH.nil
        have ce0 : w10.cell? ⟨pa, 0, none⟩ = some (.string ⟨#[]⟩) := (cell_of HPA_10.out 0).trans rfl
        have fe0 : w10.frozen? ⟨pa, 0, none⟩ = false := frozen_of HPA_10.out 0
        have ce1 : w10.cell? ⟨pa, 1, none⟩ = some (.slice none 0 0) := (cell_of HPA_10.out 1).trans rfl
        have fe1 : w10.frozen? ⟨pa, 1, none⟩ = false := frozen_of HPA_10.out 1
        have ce2 : w10.cell? ⟨pa, 2, none⟩ = some (.slice none 0 0) := (cell_of HPA_10.out 2).trans rfl
        have fe2 : w10.frozen? ⟨pa, 2, none⟩ = false := frozen_of HPA_10.out 2
        have ce3 : w10.cell? ⟨pa, 3, none⟩ = some (.int .i64 0) := (cell_of HPA_10.out 3).trans rfl
        have fe3 : w10.frozen? ⟨pa, 3, none⟩ = false := frozen_of HPA_10.out 3
        have ce4 : w10.cell? ⟨pa, 4, none⟩ = some (.slice none 0 0) := (cell_of HPA_10.out 4).trans rfl
        have fe4 : w10.frozen? ⟨pa, 4, none⟩ = false := frozen_of HPA_10.out 4
        have ce5 : w10.cell? ⟨pa, 5, none⟩ = some (.string ⟨#[]⟩) := (cell_of HPA_10.out 5).trans rfl
        have fe5 : w10.frozen? ⟨pa, 5, none⟩ = false := frozen_of HPA_10.out 5
        have ce6 : w10.cell? ⟨pa, 6, none⟩ = some (.int .i64 0) := (cell_of HPA_10.out 6).trans rfl
        have fe6 : w10.frozen? ⟨pa, 6, none⟩ = false := frozen_of HPA_10.out 6
        obtain ⟨w11, hY⟩ : ∃ Y, Y = (((((((w10.setCell ⟨pa, 0, none⟩ (.string p)).setCell ⟨pa, 1, none⟩ (.slice oX vl.length pX)).setCell ⟨pa, 2, none⟩ (.slice oY yl.length pY)).setCell ⟨pa, 3, none⟩ (.int .i64 st)).setCell ⟨pa, 4, none⟩ (.slice oG k pG)).setCell ⟨pa, 5, none⟩ (.string d)).setCell ⟨pa, 6, none⟩ (.int .i64 t)) := ⟨_, rfl⟩
        have HY : Hid ((((((((w10.setCell ⟨pa, 0, none⟩ (.string p)).setCell ⟨pa, 1, none⟩ (.slice oX vl.length pX)).setCell ⟨pa, 2, none⟩ (.slice oY yl.length pY)).setCell ⟨pa, 3, none⟩ (.int .i64 st)).setCell ⟨pa, 4, none⟩ (.slice oG k pG)).setCell ⟨pa, 5, none⟩ (.string d)).setCell ⟨pa, 6, none⟩ (.int .i64 t)) = w11) := hY.symm
        have HX_11 : Hid (Below w5.heap.size w5 w11) := by show Below _ _ _; rw [hY]; exact (((((((HX_10.out.setCell (p := ⟨pa, 0, none⟩) HGA.out _).setCell (p := ⟨pa, 1, none⟩) HGA.out _).setCell (p := ⟨pa, 2, none⟩) HGA.out _).setCell (p := ⟨pa, 3, none⟩) HGA.out _).setCell (p := ⟨pa, 4, none⟩) HGA.out _).setCell (p := ⟨pa, 5, none⟩) HGA.out _).setCell (p := ⟨pa, 6, none⟩) HGA.out _)
        have HPA_11 : Hid (w11.heap[pa]? = some (.cells #[.string p, .slice oX vl.length pX, .slice oY yl.length pY, .int .i64 st, .slice oG k pG, .string d, .int .i64 t] 29)) := by show _ = _; rw [hY]; have h := (heap_set _ pa 6 _ _ _ (.int .i64 t) (heap_set _ pa 5 _ _ _ (.string d) (heap_set _ pa 4 _ _ _ (.slice oG k pG) (heap_set _ pa 3 _ _ _ (.int .i64 st) (heap_set _ pa 2 _ _ _ (.slice oY yl.length pY) (heap_set _ pa 1 _ _ _ (.slice oX vl.length pX) (heap_set _ pa 0 _ _ _ (.string p) HPA_10.out))))))); simpa using h
        have HRXY_11 : Hid ((w11).ownsRow w5.heap.size 9 1 (.slice oY yl.length pY) yl.length (yl.map Value.string)) := by show World.ownsRow _ _ _ _ _ _ _; rw [hY]; exact owns_same HRXY_10.out (fun g hg => by have hne := own_ne HRXY_10.out HPA_10.out (by decide) g hg; rw [heap_setCell_other _ _ g _ hne, heap_setCell_other _ _ g _ hne, heap_setCell_other _ _ g _ hne, heap_setCell_other _ _ g _ hne, heap_setCell_other _ _ g _ hne, heap_setCell_other _ _ g _ hne, heap_setCell_other _ _ g _ hne])
        have HRXG_11 : Hid ((w11).ownsRow w5.heap.size 131 2 (.slice oG k pG) k (flatF gs)) := by show World.ownsRow _ _ _ _ _ _ _; rw [hY]; exact owns_same HRXG_10.out (fun g hg => by have hne := own_ne HRXG_10.out HPA_10.out (by decide) g hg; rw [heap_setCell_other _ _ g _ hne, heap_setCell_other _ _ g _ hne, heap_setCell_other _ _ g _ hne, heap_setCell_other _ _ g _ hne, heap_setCell_other _ _ g _ hne, heap_setCell_other _ _ g _ hne, heap_setCell_other _ _ g _ hne])
        clear hY hb10 HOX_10 HOY_10 HOG_10 HBv1_10 HBv2_10 HBv3_10
        go_simp
        rw [HY.out]
        refine hK.out _ _ (HSS.out _ HX_11.out) (fun _ => ?_)
        clear hK K HY ce0 fe0 ce1 fe1 ce2 fe2 ce3 fe3 ce4 fe4 ce5 fe5 ce6 fe6
        refine wpAnyH_done (by kernel_rfl) ?_ _
        go_wp2_with fail
        go_meet
        exact ⟨pa, oY, pY, oG, pG, rfl, ⟨HX_11.out, HPA_11.out, HGA.out, HRXY_11.out, HRXG_11.out⟩⟩
    case rest =>
    obtain ⟨qv4, oY, pY, oG, pG, hsx, HF⟩ := hcut
    rw [hsx]
    obtain ⟨w6, hwj⟩ : ∃ W, W = wc := ⟨_, rfl⟩
    rw [← hwj] at HF ⊢
    clear hsx hwj HSS
    obtain ⟨bw, hcell, hga, ownY, ownG⟩ := HF.out
    have HNv1v4 : Hid (qv1 ≠ qv4) := fun e => by have h1 := (Array.getElem?_eq_some_iff.1 HBv1_5.out).1; omega
    have HNv2v4 : Hid (qv2 ≠ qv4) := fun e => by have h1 := (Array.getElem?_eq_some_iff.1 HBv2_5.out).1; omega
    have HNv3v4 : Hid (qv3 ≠ qv4) := fun e => by have h1 := (Array.getElem?_eq_some_iff.1 HBv3_5.out).1; omega
    have hb6 : Below w.heap.size w (w6) := hb5.trans (bw.mono hb5.size)
    have HM6 : Hid ((w5).heap.size ≤ (w6).heap.size) := bw.size
    have HOX_6 : Hid ((w6).ownsRow w.heap.size 9 1 (.slice oX vl.length pX) vl.length (vl.map Value.string)) := owns_below HOX_5.out bw (fun g hg => owns_lt HOX_5.out hg)
    have HBv1_6 : Hid ((w6).heap[qv1]? = some (.cells #[.int .i64 m, .string p, .slice oa n cap, .string b] 39)) := blk_below HBv1_5.out bw
    have HBv2_6 : Hid ((w6).heap[qv2]? = some (.cells #[.int .i64 st, .slice ob k cb, .string d] 27)) := blk_below HBv2_5.out bw
    have HBv3_6 : Hid ((w6).heap[qv3]? = some (.cells #[.string ⟨#[]⟩, .slice none 0 0, .slice none 0 0, .int .i64 0, .slice none 0 0, .string ⟨#[]⟩, .int .i64 0] 29)) := blk_below HBv3_5.out bw
    have HOY_6 : Hid ((w6).ownsRow w.heap.size 9 1 (.slice oY yl.length pY) yl.length (yl.map Value.string)) := owns_wide ownY hb5.size
    have LOY : Hid (∀ g, (Value.ownBlock (.slice oY yl.length pY)) = some g → (w5).heap.size ≤ g) := fun g hg => owns_ge ownY hg
    have HIY : Hid (∀ g, (Value.ownBlock (.slice oY yl.length pY)) = some g → g < (w6).heap.size) := fun g hg => owns_lt ownY hg
    have HOG_6 : Hid ((w6).ownsRow w.heap.size 131 2 (.slice oG k pG) k (flatF gs)) := owns_wide ownG hb5.size
    have LOG : Hid (∀ g, (Value.ownBlock (.slice oG k pG)) = some g → (w5).heap.size ≤ g) := fun g hg => owns_ge ownG hg
    have HIG : Hid (∀ g, (Value.ownBlock (.slice oG k pG)) = some g → g < (w6).heap.size) := fun g hg => owns_lt ownG hg
    have HBv4_6 : Hid ((w6).heap[qv4]? = some (.cells #[.string p, .slice oX vl.length pX, .slice oY yl.length pY, .int .i64 st, .slice oG k pG, .string d, .int .i64 t] 29)) := hcell
    have HGv4 : Hid (w.heap.size ≤ qv4) := Nat.le_trans hb5.size hga
    clear hb5 HOX_5 HBv1_5 HBv2_5 HBv3_5 bw hcell hga HF ownY ownG
    have cv4_0 : (w6).cell? ⟨qv4, 0, none⟩ = some (.string p) := (cell_of HBv4_6.out 0).trans rfl
    have cv4_1 : (w6).cell? ⟨qv4, 1, none⟩ = some (.slice oX vl.length pX) := (cell_of HBv4_6.out 1).trans rfl
    have cv4_2 : (w6).cell? ⟨qv4, 2, none⟩ = some (.slice oY yl.length pY) := (cell_of HBv4_6.out 2).trans rfl
    have cv4_3 : (w6).cell? ⟨qv4, 3, none⟩ = some (.int .i64 st) := (cell_of HBv4_6.out 3).trans rfl
    have cv4_4 : (w6).cell? ⟨qv4, 4, none⟩ = some (.slice oG k pG) := (cell_of HBv4_6.out 4).trans rfl
    have cv4_5 : (w6).cell? ⟨qv4, 5, none⟩ = some (.string d) := (cell_of HBv4_6.out 5).trans rfl
    have cv4_6 : (w6).cell? ⟨qv4, 6, none⟩ = some (.int .i64 t) := (cell_of HBv4_6.out 6).trans rfl
    go_wp2_with fail
    refine (implObjOk_any p _ vl.length _ vl _ yl.length _ yl st _ k _ gs d t _ (texts_view HOX_6.out) (texts_view HOY_6.out) (FieldsV.of_owns HOG_6.out) (by have := HVZ.out.1; omega) (by have := HVZ.out.1; have := HYZ.out.1; omega) (by omega) HVZ.out.2 HYZ.out.2 HS2.out HC2.out HPM.out HDM.out HG3.out).mono ?_
    rintro e w7 ⟨u2, rfl, htu2, bw⟩
    have hb7 : Below w.heap.size w (w7) := hb6.trans (bw.mono hb6.size)
    have HM7 : Hid ((w6).heap.size ≤ (w7).heap.size) := bw.size
    have HOX_7 : Hid ((w7).ownsRow w.heap.size 9 1 (.slice oX vl.length pX) vl.length (vl.map Value.string)) := owns_below HOX_6.out bw (fun g hg => owns_lt HOX_6.out hg)
    have HOY_7 : Hid ((w7).ownsRow w.heap.size 9 1 (.slice oY yl.length pY) yl.length (yl.map Value.string)) := owns_below HOY_6.out bw (fun g hg => owns_lt HOY_6.out hg)
    have HOG_7 : Hid ((w7).ownsRow w.heap.size 131 2 (.slice oG k pG) k (flatF gs)) := owns_below HOG_6.out bw (fun g hg => owns_lt HOG_6.out hg)
    have HBv1_7 : Hid ((w7).heap[qv1]? = some (.cells #[.int .i64 m, .string p, .slice oa n cap, .string b] 39)) := blk_below HBv1_6.out bw
    have HBv2_7 : Hid ((w7).heap[qv2]? = some (.cells #[.int .i64 st, .slice ob k cb, .string d] 27)) := blk_below HBv2_6.out bw
    have HBv3_7 : Hid ((w7).heap[qv3]? = some (.cells #[.string ⟨#[]⟩, .slice none 0 0, .slice none 0 0, .int .i64 0, .slice none 0 0, .string ⟨#[]⟩, .int .i64 0] 29)) := blk_below HBv3_6.out bw
    have HBv4_7 : Hid ((w7).heap[qv4]? = some (.cells #[.string p, .slice oX vl.length pX, .slice oY yl.length pY, .int .i64 st, .slice oG k pG, .string d, .int .i64 t] 29)) := blk_below HBv4_6.out bw
    clear hb6 HOX_6 HOY_6 HOG_6 HBv1_6 HBv2_6 HBv3_6 HBv4_6 bw
    clear cv4_0 cv4_1 cv4_2 cv4_3 cv4_4 cv4_5 cv4_6
    cases u2 with
    | false =>
      have HF : Hid (¬ (MayP m p fs b st gs d ∧ ObjP p vl yl st gs d t)) := fun h => nomatch htu2.2 h.2
      clear htu2
      have cv3_0 : (w7).cell? ⟨qv3, 0, none⟩ = some (.string ⟨#[]⟩) := (cell_of HBv3_7.out 0).trans rfl
      have fcv3_0 : (w7).frozen? ⟨qv3, 0, none⟩ = false := frozen_of HBv3_7.out 0
      have cv3_1 : (w7).cell? ⟨qv3, 1, none⟩ = some (.slice none 0 0) := (cell_of HBv3_7.out 1).trans rfl
      have fcv3_1 : (w7).frozen? ⟨qv3, 1, none⟩ = false := frozen_of HBv3_7.out 1
      have cv3_2 : (w7).cell? ⟨qv3, 2, none⟩ = some (.slice none 0 0) := (cell_of HBv3_7.out 2).trans rfl
      have fcv3_2 : (w7).frozen? ⟨qv3, 2, none⟩ = false := frozen_of HBv3_7.out 2
      have cv3_3 : (w7).cell? ⟨qv3, 3, none⟩ = some (.int .i64 0) := (cell_of HBv3_7.out 3).trans rfl
      have fcv3_3 : (w7).frozen? ⟨qv3, 3, none⟩ = false := frozen_of HBv3_7.out 3
      have cv3_4 : (w7).cell? ⟨qv3, 4, none⟩ = some (.slice none 0 0) := (cell_of HBv3_7.out 4).trans rfl
      have fcv3_4 : (w7).frozen? ⟨qv3, 4, none⟩ = false := frozen_of HBv3_7.out 4
      have cv3_5 : (w7).cell? ⟨qv3, 5, none⟩ = some (.string ⟨#[]⟩) := (cell_of HBv3_7.out 5).trans rfl
      have fcv3_5 : (w7).frozen? ⟨qv3, 5, none⟩ = false := frozen_of HBv3_7.out 5
      have cv3_6 : (w7).cell? ⟨qv3, 6, none⟩ = some (.int .i64 0) := (cell_of HBv3_7.out 6).trans rfl
      have fcv3_6 : (w7).frozen? ⟨qv3, 6, none⟩ = false := frozen_of HBv3_7.out 6
      go_wp2_with fail
      obtain ⟨w8, hW8⟩ : ∃ W, W = (w7).setCell ⟨qv3, 0, none⟩ (.string ⟨#[]⟩) := ⟨_, rfl⟩
      rw [← hW8]
      have hb8 : Below w.heap.size w w8 := by rw [hW8]; exact hb7.setCell (p := ⟨qv3, 0, none⟩) HGv3.out _
      have HM8 : Hid ((w7).heap.size ≤ w8.heap.size) := by show _ ≤ _; rw [hW8]; simp
      have HOX_8 : Hid ((w8).ownsRow w.heap.size 9 1 (.slice oX vl.length pX) vl.length (vl.map Value.string)) := by show World.ownsRow _ _ _ _ _ _ _; rw [hW8]; exact owns_same HOX_7.out (fun g hg => heap_setCell_other _ _ g _ (own_ne HOX_7.out HBv3_7.out (by decide) g hg))
      have HOY_8 : Hid ((w8).ownsRow w.heap.size 9 1 (.slice oY yl.length pY) yl.length (yl.map Value.string)) := by show World.ownsRow _ _ _ _ _ _ _; rw [hW8]; exact owns_same HOY_7.out (fun g hg => heap_setCell_other _ _ g _ (own_ne HOY_7.out HBv3_7.out (by decide) g hg))
      have HOG_8 : Hid ((w8).ownsRow w.heap.size 131 2 (.slice oG k pG) k (flatF gs)) := by show World.ownsRow _ _ _ _ _ _ _; rw [hW8]; exact owns_same HOG_7.out (fun g hg => heap_setCell_other _ _ g _ (own_ne HOG_7.out HBv3_7.out (by decide) g hg))
      have HBv1_8 : Hid ((w8).heap[qv1]? = some (.cells #[.int .i64 m, .string p, .slice oa n cap, .string b] 39)) := by show _ = _; rw [hW8, heap_setCell_other _ _ _ _ HNv1v3.out]; exact HBv1_7.out
      have HBv2_8 : Hid ((w8).heap[qv2]? = some (.cells #[.int .i64 st, .slice ob k cb, .string d] 27)) := by show _ = _; rw [hW8, heap_setCell_other _ _ _ _ HNv2v3.out]; exact HBv2_7.out
      have HBv4_8 : Hid ((w8).heap[qv4]? = some (.cells #[.string p, .slice oX vl.length pX, .slice oY yl.length pY, .int .i64 st, .slice oG k pG, .string d, .int .i64 t] 29)) := by show _ = _; rw [hW8, heap_setCell_other _ _ _ _ HNv3v4.out.symm]; exact HBv4_7.out
      have HBv3_8 : Hid ((w8).heap[qv3]? = some (.cells #[.string ⟨#[]⟩, .slice none 0 0, .slice none 0 0, .int .i64 0, .slice none 0 0, .string ⟨#[]⟩, .int .i64 0] 29)) := by show _ = _; rw [hW8]; have h := heap_set _ _ 0 _ _ _ (.string ⟨#[]⟩) HBv3_7.out; simpa using h
      clear hb7 HOX_7 HOY_7 HOG_7 HBv1_7 HBv2_7 HBv3_7 HBv4_7 hW8
      obtain ⟨w9, hW9⟩ : ∃ W, W = (w8).setCell ⟨qv3, 1, none⟩ (.slice none 0 0) := ⟨_, rfl⟩
      rw [← hW9]
      have hb9 : Below w.heap.size w w9 := by rw [hW9]; exact hb8.setCell (p := ⟨qv3, 1, none⟩) HGv3.out _
      have HM9 : Hid ((w8).heap.size ≤ w9.heap.size) := by show _ ≤ _; rw [hW9]; simp
      have HOX_9 : Hid ((w9).ownsRow w.heap.size 9 1 (.slice oX vl.length pX) vl.length (vl.map Value.string)) := by show World.ownsRow _ _ _ _ _ _ _; rw [hW9]; exact owns_same HOX_8.out (fun g hg => heap_setCell_other _ _ g _ (own_ne HOX_8.out HBv3_8.out (by decide) g hg))
      have HOY_9 : Hid ((w9).ownsRow w.heap.size 9 1 (.slice oY yl.length pY) yl.length (yl.map Value.string)) := by show World.ownsRow _ _ _ _ _ _ _; rw [hW9]; exact owns_same HOY_8.out (fun g hg => heap_setCell_other _ _ g _ (own_ne HOY_8.out HBv3_8.out (by decide) g hg))
      have HOG_9 : Hid ((w9).ownsRow w.heap.size 131 2 (.slice oG k pG) k (flatF gs)) := by show World.ownsRow _ _ _ _ _ _ _; rw [hW9]; exact owns_same HOG_8.out (fun g hg => heap_setCell_other _ _ g _ (own_ne HOG_8.out HBv3_8.out (by decide) g hg))
      have HBv1_9 : Hid ((w9).heap[qv1]? = some (.cells #[.int .i64 m, .string p, .slice oa n cap, .string b] 39)) := by show _ = _; rw [hW9, heap_setCell_other _ _ _ _ HNv1v3.out]; exact HBv1_8.out
      have HBv2_9 : Hid ((w9).heap[qv2]? = some (.cells #[.int .i64 st, .slice ob k cb, .string d] 27)) := by show _ = _; rw [hW9, heap_setCell_other _ _ _ _ HNv2v3.out]; exact HBv2_8.out
      have HBv4_9 : Hid ((w9).heap[qv4]? = some (.cells #[.string p, .slice oX vl.length pX, .slice oY yl.length pY, .int .i64 st, .slice oG k pG, .string d, .int .i64 t] 29)) := by show _ = _; rw [hW9, heap_setCell_other _ _ _ _ HNv3v4.out.symm]; exact HBv4_8.out
      have HBv3_9 : Hid ((w9).heap[qv3]? = some (.cells #[.string ⟨#[]⟩, .slice none 0 0, .slice none 0 0, .int .i64 0, .slice none 0 0, .string ⟨#[]⟩, .int .i64 0] 29)) := by show _ = _; rw [hW9]; have h := heap_set _ _ 1 _ _ _ (.slice none 0 0) HBv3_8.out; simpa using h
      clear hb8 HOX_8 HOY_8 HOG_8 HBv1_8 HBv2_8 HBv3_8 HBv4_8 hW9
      obtain ⟨w10, hW10⟩ : ∃ W, W = (w9).setCell ⟨qv3, 2, none⟩ (.slice none 0 0) := ⟨_, rfl⟩
      rw [← hW10]
      have hb10 : Below w.heap.size w w10 := by rw [hW10]; exact hb9.setCell (p := ⟨qv3, 2, none⟩) HGv3.out _
      have HM10 : Hid ((w9).heap.size ≤ w10.heap.size) := by show _ ≤ _; rw [hW10]; simp
      have HOX_10 : Hid ((w10).ownsRow w.heap.size 9 1 (.slice oX vl.length pX) vl.length (vl.map Value.string)) := by show World.ownsRow _ _ _ _ _ _ _; rw [hW10]; exact owns_same HOX_9.out (fun g hg => heap_setCell_other _ _ g _ (own_ne HOX_9.out HBv3_9.out (by decide) g hg))
      have HOY_10 : Hid ((w10).ownsRow w.heap.size 9 1 (.slice oY yl.length pY) yl.length (yl.map Value.string)) := by show World.ownsRow _ _ _ _ _ _ _; rw [hW10]; exact owns_same HOY_9.out (fun g hg => heap_setCell_other _ _ g _ (own_ne HOY_9.out HBv3_9.out (by decide) g hg))
      have HOG_10 : Hid ((w10).ownsRow w.heap.size 131 2 (.slice oG k pG) k (flatF gs)) := by show World.ownsRow _ _ _ _ _ _ _; rw [hW10]; exact owns_same HOG_9.out (fun g hg => heap_setCell_other _ _ g _ (own_ne HOG_9.out HBv3_9.out (by decide) g hg))
      have HBv1_10 : Hid ((w10).heap[qv1]? = some (.cells #[.int .i64 m, .string p, .slice oa n cap, .string b] 39)) := by show _ = _; rw [hW10, heap_setCell_other _ _ _ _ HNv1v3.out]; exact HBv1_9.out
      have HBv2_10 : Hid ((w10).heap[qv2]? = some (.cells #[.int .i64 st, .slice ob k cb, .string d] 27)) := by show _ = _; rw [hW10, heap_setCell_other _ _ _ _ HNv2v3.out]; exact HBv2_9.out
      have HBv4_10 : Hid ((w10).heap[qv4]? = some (.cells #[.string p, .slice oX vl.length pX, .slice oY yl.length pY, .int .i64 st, .slice oG k pG, .string d, .int .i64 t] 29)) := by show _ = _; rw [hW10, heap_setCell_other _ _ _ _ HNv3v4.out.symm]; exact HBv4_9.out
      have HBv3_10 : Hid ((w10).heap[qv3]? = some (.cells #[.string ⟨#[]⟩, .slice none 0 0, .slice none 0 0, .int .i64 0, .slice none 0 0, .string ⟨#[]⟩, .int .i64 0] 29)) := by show _ = _; rw [hW10]; have h := heap_set _ _ 2 _ _ _ (.slice none 0 0) HBv3_9.out; simpa using h
      clear hb9 HOX_9 HOY_9 HOG_9 HBv1_9 HBv2_9 HBv3_9 HBv4_9 hW10
      obtain ⟨w11, hW11⟩ : ∃ W, W = (w10).setCell ⟨qv3, 3, none⟩ (.int .i64 0) := ⟨_, rfl⟩
      rw [← hW11]
      have hb11 : Below w.heap.size w w11 := by rw [hW11]; exact hb10.setCell (p := ⟨qv3, 3, none⟩) HGv3.out _
      have HM11 : Hid ((w10).heap.size ≤ w11.heap.size) := by show _ ≤ _; rw [hW11]; simp
      have HOX_11 : Hid ((w11).ownsRow w.heap.size 9 1 (.slice oX vl.length pX) vl.length (vl.map Value.string)) := by show World.ownsRow _ _ _ _ _ _ _; rw [hW11]; exact owns_same HOX_10.out (fun g hg => heap_setCell_other _ _ g _ (own_ne HOX_10.out HBv3_10.out (by decide) g hg))
      have HOY_11 : Hid ((w11).ownsRow w.heap.size 9 1 (.slice oY yl.length pY) yl.length (yl.map Value.string)) := by show World.ownsRow _ _ _ _ _ _ _; rw [hW11]; exact owns_same HOY_10.out (fun g hg => heap_setCell_other _ _ g _ (own_ne HOY_10.out HBv3_10.out (by decide) g hg))
      have HOG_11 : Hid ((w11).ownsRow w.heap.size 131 2 (.slice oG k pG) k (flatF gs)) := by show World.ownsRow _ _ _ _ _ _ _; rw [hW11]; exact owns_same HOG_10.out (fun g hg => heap_setCell_other _ _ g _ (own_ne HOG_10.out HBv3_10.out (by decide) g hg))
      have HBv1_11 : Hid ((w11).heap[qv1]? = some (.cells #[.int .i64 m, .string p, .slice oa n cap, .string b] 39)) := by show _ = _; rw [hW11, heap_setCell_other _ _ _ _ HNv1v3.out]; exact HBv1_10.out
      have HBv2_11 : Hid ((w11).heap[qv2]? = some (.cells #[.int .i64 st, .slice ob k cb, .string d] 27)) := by show _ = _; rw [hW11, heap_setCell_other _ _ _ _ HNv2v3.out]; exact HBv2_10.out
      have HBv4_11 : Hid ((w11).heap[qv4]? = some (.cells #[.string p, .slice oX vl.length pX, .slice oY yl.length pY, .int .i64 st, .slice oG k pG, .string d, .int .i64 t] 29)) := by show _ = _; rw [hW11, heap_setCell_other _ _ _ _ HNv3v4.out.symm]; exact HBv4_10.out
      have HBv3_11 : Hid ((w11).heap[qv3]? = some (.cells #[.string ⟨#[]⟩, .slice none 0 0, .slice none 0 0, .int .i64 0, .slice none 0 0, .string ⟨#[]⟩, .int .i64 0] 29)) := by show _ = _; rw [hW11]; have h := heap_set _ _ 3 _ _ _ (.int .i64 0) HBv3_10.out; simpa using h
      clear hb10 HOX_10 HOY_10 HOG_10 HBv1_10 HBv2_10 HBv3_10 HBv4_10 hW11
      obtain ⟨w12, hW12⟩ : ∃ W, W = (w11).setCell ⟨qv3, 4, none⟩ (.slice none 0 0) := ⟨_, rfl⟩
      rw [← hW12]
      have hb12 : Below w.heap.size w w12 := by rw [hW12]; exact hb11.setCell (p := ⟨qv3, 4, none⟩) HGv3.out _
      have HM12 : Hid ((w11).heap.size ≤ w12.heap.size) := by show _ ≤ _; rw [hW12]; simp
      have HOX_12 : Hid ((w12).ownsRow w.heap.size 9 1 (.slice oX vl.length pX) vl.length (vl.map Value.string)) := by show World.ownsRow _ _ _ _ _ _ _; rw [hW12]; exact owns_same HOX_11.out (fun g hg => heap_setCell_other _ _ g _ (own_ne HOX_11.out HBv3_11.out (by decide) g hg))
      have HOY_12 : Hid ((w12).ownsRow w.heap.size 9 1 (.slice oY yl.length pY) yl.length (yl.map Value.string)) := by show World.ownsRow _ _ _ _ _ _ _; rw [hW12]; exact owns_same HOY_11.out (fun g hg => heap_setCell_other _ _ g _ (own_ne HOY_11.out HBv3_11.out (by decide) g hg))
      have HOG_12 : Hid ((w12).ownsRow w.heap.size 131 2 (.slice oG k pG) k (flatF gs)) := by show World.ownsRow _ _ _ _ _ _ _; rw [hW12]; exact owns_same HOG_11.out (fun g hg => heap_setCell_other _ _ g _ (own_ne HOG_11.out HBv3_11.out (by decide) g hg))
      have HBv1_12 : Hid ((w12).heap[qv1]? = some (.cells #[.int .i64 m, .string p, .slice oa n cap, .string b] 39)) := by show _ = _; rw [hW12, heap_setCell_other _ _ _ _ HNv1v3.out]; exact HBv1_11.out
      have HBv2_12 : Hid ((w12).heap[qv2]? = some (.cells #[.int .i64 st, .slice ob k cb, .string d] 27)) := by show _ = _; rw [hW12, heap_setCell_other _ _ _ _ HNv2v3.out]; exact HBv2_11.out
      have HBv4_12 : Hid ((w12).heap[qv4]? = some (.cells #[.string p, .slice oX vl.length pX, .slice oY yl.length pY, .int .i64 st, .slice oG k pG, .string d, .int .i64 t] 29)) := by show _ = _; rw [hW12, heap_setCell_other _ _ _ _ HNv3v4.out.symm]; exact HBv4_11.out
      have HBv3_12 : Hid ((w12).heap[qv3]? = some (.cells #[.string ⟨#[]⟩, .slice none 0 0, .slice none 0 0, .int .i64 0, .slice none 0 0, .string ⟨#[]⟩, .int .i64 0] 29)) := by show _ = _; rw [hW12]; have h := heap_set _ _ 4 _ _ _ (.slice none 0 0) HBv3_11.out; simpa using h
      clear hb11 HOX_11 HOY_11 HOG_11 HBv1_11 HBv2_11 HBv3_11 HBv4_11 hW12
      obtain ⟨w13, hW13⟩ : ∃ W, W = (w12).setCell ⟨qv3, 5, none⟩ (.string ⟨#[]⟩) := ⟨_, rfl⟩
      rw [← hW13]
      have hb13 : Below w.heap.size w w13 := by rw [hW13]; exact hb12.setCell (p := ⟨qv3, 5, none⟩) HGv3.out _
      have HM13 : Hid ((w12).heap.size ≤ w13.heap.size) := by show _ ≤ _; rw [hW13]; simp
      have HOX_13 : Hid ((w13).ownsRow w.heap.size 9 1 (.slice oX vl.length pX) vl.length (vl.map Value.string)) := by show World.ownsRow _ _ _ _ _ _ _; rw [hW13]; exact owns_same HOX_12.out (fun g hg => heap_setCell_other _ _ g _ (own_ne HOX_12.out HBv3_12.out (by decide) g hg))
      have HOY_13 : Hid ((w13).ownsRow w.heap.size 9 1 (.slice oY yl.length pY) yl.length (yl.map Value.string)) := by show World.ownsRow _ _ _ _ _ _ _; rw [hW13]; exact owns_same HOY_12.out (fun g hg => heap_setCell_other _ _ g _ (own_ne HOY_12.out HBv3_12.out (by decide) g hg))
      have HOG_13 : Hid ((w13).ownsRow w.heap.size 131 2 (.slice oG k pG) k (flatF gs)) := by show World.ownsRow _ _ _ _ _ _ _; rw [hW13]; exact owns_same HOG_12.out (fun g hg => heap_setCell_other _ _ g _ (own_ne HOG_12.out HBv3_12.out (by decide) g hg))
      have HBv1_13 : Hid ((w13).heap[qv1]? = some (.cells #[.int .i64 m, .string p, .slice oa n cap, .string b] 39)) := by show _ = _; rw [hW13, heap_setCell_other _ _ _ _ HNv1v3.out]; exact HBv1_12.out
      have HBv2_13 : Hid ((w13).heap[qv2]? = some (.cells #[.int .i64 st, .slice ob k cb, .string d] 27)) := by show _ = _; rw [hW13, heap_setCell_other _ _ _ _ HNv2v3.out]; exact HBv2_12.out
      have HBv4_13 : Hid ((w13).heap[qv4]? = some (.cells #[.string p, .slice oX vl.length pX, .slice oY yl.length pY, .int .i64 st, .slice oG k pG, .string d, .int .i64 t] 29)) := by show _ = _; rw [hW13, heap_setCell_other _ _ _ _ HNv3v4.out.symm]; exact HBv4_12.out
      have HBv3_13 : Hid ((w13).heap[qv3]? = some (.cells #[.string ⟨#[]⟩, .slice none 0 0, .slice none 0 0, .int .i64 0, .slice none 0 0, .string ⟨#[]⟩, .int .i64 0] 29)) := by show _ = _; rw [hW13]; have h := heap_set _ _ 5 _ _ _ (.string ⟨#[]⟩) HBv3_12.out; simpa using h
      clear hb12 HOX_12 HOY_12 HOG_12 HBv1_12 HBv2_12 HBv3_12 HBv4_12 hW13
      obtain ⟨w14, hW14⟩ : ∃ W, W = (w13).setCell ⟨qv3, 6, none⟩ (.int .i64 0) := ⟨_, rfl⟩
      rw [← hW14]
      have hb14 : Below w.heap.size w w14 := by rw [hW14]; exact hb13.setCell (p := ⟨qv3, 6, none⟩) HGv3.out _
      have HM14 : Hid ((w13).heap.size ≤ w14.heap.size) := by show _ ≤ _; rw [hW14]; simp
      have HOX_14 : Hid ((w14).ownsRow w.heap.size 9 1 (.slice oX vl.length pX) vl.length (vl.map Value.string)) := by show World.ownsRow _ _ _ _ _ _ _; rw [hW14]; exact owns_same HOX_13.out (fun g hg => heap_setCell_other _ _ g _ (own_ne HOX_13.out HBv3_13.out (by decide) g hg))
      have HOY_14 : Hid ((w14).ownsRow w.heap.size 9 1 (.slice oY yl.length pY) yl.length (yl.map Value.string)) := by show World.ownsRow _ _ _ _ _ _ _; rw [hW14]; exact owns_same HOY_13.out (fun g hg => heap_setCell_other _ _ g _ (own_ne HOY_13.out HBv3_13.out (by decide) g hg))
      have HOG_14 : Hid ((w14).ownsRow w.heap.size 131 2 (.slice oG k pG) k (flatF gs)) := by show World.ownsRow _ _ _ _ _ _ _; rw [hW14]; exact owns_same HOG_13.out (fun g hg => heap_setCell_other _ _ g _ (own_ne HOG_13.out HBv3_13.out (by decide) g hg))
      have HBv1_14 : Hid ((w14).heap[qv1]? = some (.cells #[.int .i64 m, .string p, .slice oa n cap, .string b] 39)) := by show _ = _; rw [hW14, heap_setCell_other _ _ _ _ HNv1v3.out]; exact HBv1_13.out
      have HBv2_14 : Hid ((w14).heap[qv2]? = some (.cells #[.int .i64 st, .slice ob k cb, .string d] 27)) := by show _ = _; rw [hW14, heap_setCell_other _ _ _ _ HNv2v3.out]; exact HBv2_13.out
      have HBv4_14 : Hid ((w14).heap[qv4]? = some (.cells #[.string p, .slice oX vl.length pX, .slice oY yl.length pY, .int .i64 st, .slice oG k pG, .string d, .int .i64 t] 29)) := by show _ = _; rw [hW14, heap_setCell_other _ _ _ _ HNv3v4.out.symm]; exact HBv4_13.out
      have HBv3_14 : Hid ((w14).heap[qv3]? = some (.cells #[.string ⟨#[]⟩, .slice none 0 0, .slice none 0 0, .int .i64 0, .slice none 0 0, .string ⟨#[]⟩, .int .i64 0] 29)) := by show _ = _; rw [hW14]; have h := heap_set _ _ 6 _ _ _ (.int .i64 0) HBv3_13.out; simpa using h
      clear hb13 HOX_13 HOY_13 HOG_13 HBv1_13 HBv2_13 HBv3_13 HBv4_13 hW14
      have kv3_0 : (w14).cell? ⟨qv3, 0, none⟩ = some (.string ⟨#[]⟩) := (cell_of HBv3_14.out 0).trans rfl
      have kv3_1 : (w14).cell? ⟨qv3, 1, none⟩ = some (.slice none 0 0) := (cell_of HBv3_14.out 1).trans rfl
      have kv3_2 : (w14).cell? ⟨qv3, 2, none⟩ = some (.slice none 0 0) := (cell_of HBv3_14.out 2).trans rfl
      have kv3_3 : (w14).cell? ⟨qv3, 3, none⟩ = some (.int .i64 0) := (cell_of HBv3_14.out 3).trans rfl
      have kv3_4 : (w14).cell? ⟨qv3, 4, none⟩ = some (.slice none 0 0) := (cell_of HBv3_14.out 4).trans rfl
      have kv3_5 : (w14).cell? ⟨qv3, 5, none⟩ = some (.string ⟨#[]⟩) := (cell_of HBv3_14.out 5).trans rfl
      have kv3_6 : (w14).cell? ⟨qv3, 6, none⟩ = some (.int .i64 0) := (cell_of HBv3_14.out 6).trans rfl
      refine bodyPost_ret (v := .tuple #[.agg #[.string ⟨#[]⟩, .slice none 0 0, .slice none 0 0, .int .i64 0, .slice none 0 0, .string ⟨#[]⟩, .int .i64 0], .bool false]) (by simp [results, Tryz.results17, go_sem, kv3_0, kv3_1, kv3_2, kv3_3, kv3_4, kv3_5, kv3_6]) rfl ?_
      exact ⟨hb14, .inr ⟨HF.out, rfl⟩⟩
    | true =>
      have HOK : Hid (ObjP p vl yl st gs d t) := htu2.1 rfl
      clear htu2
      have cv3_0 : (w7).cell? ⟨qv3, 0, none⟩ = some (.string ⟨#[]⟩) := (cell_of HBv3_7.out 0).trans rfl
      have fcv3_0 : (w7).frozen? ⟨qv3, 0, none⟩ = false := frozen_of HBv3_7.out 0
      have cv3_1 : (w7).cell? ⟨qv3, 1, none⟩ = some (.slice none 0 0) := (cell_of HBv3_7.out 1).trans rfl
      have fcv3_1 : (w7).frozen? ⟨qv3, 1, none⟩ = false := frozen_of HBv3_7.out 1
      have cv3_2 : (w7).cell? ⟨qv3, 2, none⟩ = some (.slice none 0 0) := (cell_of HBv3_7.out 2).trans rfl
      have fcv3_2 : (w7).frozen? ⟨qv3, 2, none⟩ = false := frozen_of HBv3_7.out 2
      have cv3_3 : (w7).cell? ⟨qv3, 3, none⟩ = some (.int .i64 0) := (cell_of HBv3_7.out 3).trans rfl
      have fcv3_3 : (w7).frozen? ⟨qv3, 3, none⟩ = false := frozen_of HBv3_7.out 3
      have cv3_4 : (w7).cell? ⟨qv3, 4, none⟩ = some (.slice none 0 0) := (cell_of HBv3_7.out 4).trans rfl
      have fcv3_4 : (w7).frozen? ⟨qv3, 4, none⟩ = false := frozen_of HBv3_7.out 4
      have cv3_5 : (w7).cell? ⟨qv3, 5, none⟩ = some (.string ⟨#[]⟩) := (cell_of HBv3_7.out 5).trans rfl
      have fcv3_5 : (w7).frozen? ⟨qv3, 5, none⟩ = false := frozen_of HBv3_7.out 5
      have cv3_6 : (w7).cell? ⟨qv3, 6, none⟩ = some (.int .i64 0) := (cell_of HBv3_7.out 6).trans rfl
      have fcv3_6 : (w7).frozen? ⟨qv3, 6, none⟩ = false := frozen_of HBv3_7.out 6
      have cv4_0 : (w7).cell? ⟨qv4, 0, none⟩ = some (.string p) := (cell_of HBv4_7.out 0).trans rfl
      have cv4_1 : (w7).cell? ⟨qv4, 1, none⟩ = some (.slice oX vl.length pX) := (cell_of HBv4_7.out 1).trans rfl
      have cv4_2 : (w7).cell? ⟨qv4, 2, none⟩ = some (.slice oY yl.length pY) := (cell_of HBv4_7.out 2).trans rfl
      have cv4_3 : (w7).cell? ⟨qv4, 3, none⟩ = some (.int .i64 st) := (cell_of HBv4_7.out 3).trans rfl
      have cv4_4 : (w7).cell? ⟨qv4, 4, none⟩ = some (.slice oG k pG) := (cell_of HBv4_7.out 4).trans rfl
      have cv4_5 : (w7).cell? ⟨qv4, 5, none⟩ = some (.string d) := (cell_of HBv4_7.out 5).trans rfl
      have cv4_6 : (w7).cell? ⟨qv4, 6, none⟩ = some (.int .i64 t) := (cell_of HBv4_7.out 6).trans rfl
      go_wp2_with fail
      obtain ⟨w8, hW8⟩ : ∃ W, W = (w7).setCell ⟨qv3, 0, none⟩ (.string p) := ⟨_, rfl⟩
      rw [← hW8]
      have hb8 : Below w.heap.size w w8 := by rw [hW8]; exact hb7.setCell (p := ⟨qv3, 0, none⟩) HGv3.out _
      have HM8 : Hid ((w7).heap.size ≤ w8.heap.size) := by show _ ≤ _; rw [hW8]; simp
      have HOX_8 : Hid ((w8).ownsRow w.heap.size 9 1 (.slice oX vl.length pX) vl.length (vl.map Value.string)) := by show World.ownsRow _ _ _ _ _ _ _; rw [hW8]; exact owns_same HOX_7.out (fun g hg => heap_setCell_other _ _ g _ (own_ne HOX_7.out HBv3_7.out (by decide) g hg))
      have HOY_8 : Hid ((w8).ownsRow w.heap.size 9 1 (.slice oY yl.length pY) yl.length (yl.map Value.string)) := by show World.ownsRow _ _ _ _ _ _ _; rw [hW8]; exact owns_same HOY_7.out (fun g hg => heap_setCell_other _ _ g _ (own_ne HOY_7.out HBv3_7.out (by decide) g hg))
      have HOG_8 : Hid ((w8).ownsRow w.heap.size 131 2 (.slice oG k pG) k (flatF gs)) := by show World.ownsRow _ _ _ _ _ _ _; rw [hW8]; exact owns_same HOG_7.out (fun g hg => heap_setCell_other _ _ g _ (own_ne HOG_7.out HBv3_7.out (by decide) g hg))
      have HBv1_8 : Hid ((w8).heap[qv1]? = some (.cells #[.int .i64 m, .string p, .slice oa n cap, .string b] 39)) := by show _ = _; rw [hW8, heap_setCell_other _ _ _ _ HNv1v3.out]; exact HBv1_7.out
      have HBv2_8 : Hid ((w8).heap[qv2]? = some (.cells #[.int .i64 st, .slice ob k cb, .string d] 27)) := by show _ = _; rw [hW8, heap_setCell_other _ _ _ _ HNv2v3.out]; exact HBv2_7.out
      have HBv4_8 : Hid ((w8).heap[qv4]? = some (.cells #[.string p, .slice oX vl.length pX, .slice oY yl.length pY, .int .i64 st, .slice oG k pG, .string d, .int .i64 t] 29)) := by show _ = _; rw [hW8, heap_setCell_other _ _ _ _ HNv3v4.out.symm]; exact HBv4_7.out
      have HBv3_8 : Hid ((w8).heap[qv3]? = some (.cells #[.string p, .slice none 0 0, .slice none 0 0, .int .i64 0, .slice none 0 0, .string ⟨#[]⟩, .int .i64 0] 29)) := by show _ = _; rw [hW8]; have h := heap_set _ _ 0 _ _ _ (.string p) HBv3_7.out; simpa using h
      clear hb7 HOX_7 HOY_7 HOG_7 HBv1_7 HBv2_7 HBv3_7 HBv4_7 hW8
      obtain ⟨w9, hW9⟩ : ∃ W, W = (w8).setCell ⟨qv3, 1, none⟩ (.slice oX vl.length pX) := ⟨_, rfl⟩
      rw [← hW9]
      have hb9 : Below w.heap.size w w9 := by rw [hW9]; exact hb8.setCell (p := ⟨qv3, 1, none⟩) HGv3.out _
      have HM9 : Hid ((w8).heap.size ≤ w9.heap.size) := by show _ ≤ _; rw [hW9]; simp
      have HOX_9 : Hid ((w9).ownsRow w.heap.size 9 1 (.slice oX vl.length pX) vl.length (vl.map Value.string)) := by show World.ownsRow _ _ _ _ _ _ _; rw [hW9]; exact owns_same HOX_8.out (fun g hg => heap_setCell_other _ _ g _ (own_ne HOX_8.out HBv3_8.out (by decide) g hg))
      have HOY_9 : Hid ((w9).ownsRow w.heap.size 9 1 (.slice oY yl.length pY) yl.length (yl.map Value.string)) := by show World.ownsRow _ _ _ _ _ _ _; rw [hW9]; exact owns_same HOY_8.out (fun g hg => heap_setCell_other _ _ g _ (own_ne HOY_8.out HBv3_8.out (by decide) g hg))
      have HOG_9 : Hid ((w9).ownsRow w.heap.size 131 2 (.slice oG k pG) k (flatF gs)) := by show World.ownsRow _ _ _ _ _ _ _; rw [hW9]; exact owns_same HOG_8.out (fun g hg => heap_setCell_other _ _ g _ (own_ne HOG_8.out HBv3_8.out (by decide) g hg))
      have HBv1_9 : Hid ((w9).heap[qv1]? = some (.cells #[.int .i64 m, .string p, .slice oa n cap, .string b] 39)) := by show _ = _; rw [hW9, heap_setCell_other _ _ _ _ HNv1v3.out]; exact HBv1_8.out
      have HBv2_9 : Hid ((w9).heap[qv2]? = some (.cells #[.int .i64 st, .slice ob k cb, .string d] 27)) := by show _ = _; rw [hW9, heap_setCell_other _ _ _ _ HNv2v3.out]; exact HBv2_8.out
      have HBv4_9 : Hid ((w9).heap[qv4]? = some (.cells #[.string p, .slice oX vl.length pX, .slice oY yl.length pY, .int .i64 st, .slice oG k pG, .string d, .int .i64 t] 29)) := by show _ = _; rw [hW9, heap_setCell_other _ _ _ _ HNv3v4.out.symm]; exact HBv4_8.out
      have HBv3_9 : Hid ((w9).heap[qv3]? = some (.cells #[.string p, .slice oX vl.length pX, .slice none 0 0, .int .i64 0, .slice none 0 0, .string ⟨#[]⟩, .int .i64 0] 29)) := by show _ = _; rw [hW9]; have h := heap_set _ _ 1 _ _ _ (.slice oX vl.length pX) HBv3_8.out; simpa using h
      clear hb8 HOX_8 HOY_8 HOG_8 HBv1_8 HBv2_8 HBv3_8 HBv4_8 hW9
      obtain ⟨w10, hW10⟩ : ∃ W, W = (w9).setCell ⟨qv3, 2, none⟩ (.slice oY yl.length pY) := ⟨_, rfl⟩
      rw [← hW10]
      have hb10 : Below w.heap.size w w10 := by rw [hW10]; exact hb9.setCell (p := ⟨qv3, 2, none⟩) HGv3.out _
      have HM10 : Hid ((w9).heap.size ≤ w10.heap.size) := by show _ ≤ _; rw [hW10]; simp
      have HOX_10 : Hid ((w10).ownsRow w.heap.size 9 1 (.slice oX vl.length pX) vl.length (vl.map Value.string)) := by show World.ownsRow _ _ _ _ _ _ _; rw [hW10]; exact owns_same HOX_9.out (fun g hg => heap_setCell_other _ _ g _ (own_ne HOX_9.out HBv3_9.out (by decide) g hg))
      have HOY_10 : Hid ((w10).ownsRow w.heap.size 9 1 (.slice oY yl.length pY) yl.length (yl.map Value.string)) := by show World.ownsRow _ _ _ _ _ _ _; rw [hW10]; exact owns_same HOY_9.out (fun g hg => heap_setCell_other _ _ g _ (own_ne HOY_9.out HBv3_9.out (by decide) g hg))
      have HOG_10 : Hid ((w10).ownsRow w.heap.size 131 2 (.slice oG k pG) k (flatF gs)) := by show World.ownsRow _ _ _ _ _ _ _; rw [hW10]; exact owns_same HOG_9.out (fun g hg => heap_setCell_other _ _ g _ (own_ne HOG_9.out HBv3_9.out (by decide) g hg))
      have HBv1_10 : Hid ((w10).heap[qv1]? = some (.cells #[.int .i64 m, .string p, .slice oa n cap, .string b] 39)) := by show _ = _; rw [hW10, heap_setCell_other _ _ _ _ HNv1v3.out]; exact HBv1_9.out
      have HBv2_10 : Hid ((w10).heap[qv2]? = some (.cells #[.int .i64 st, .slice ob k cb, .string d] 27)) := by show _ = _; rw [hW10, heap_setCell_other _ _ _ _ HNv2v3.out]; exact HBv2_9.out
      have HBv4_10 : Hid ((w10).heap[qv4]? = some (.cells #[.string p, .slice oX vl.length pX, .slice oY yl.length pY, .int .i64 st, .slice oG k pG, .string d, .int .i64 t] 29)) := by show _ = _; rw [hW10, heap_setCell_other _ _ _ _ HNv3v4.out.symm]; exact HBv4_9.out
      have HBv3_10 : Hid ((w10).heap[qv3]? = some (.cells #[.string p, .slice oX vl.length pX, .slice oY yl.length pY, .int .i64 0, .slice none 0 0, .string ⟨#[]⟩, .int .i64 0] 29)) := by show _ = _; rw [hW10]; have h := heap_set _ _ 2 _ _ _ (.slice oY yl.length pY) HBv3_9.out; simpa using h
      clear hb9 HOX_9 HOY_9 HOG_9 HBv1_9 HBv2_9 HBv3_9 HBv4_9 hW10
      obtain ⟨w11, hW11⟩ : ∃ W, W = (w10).setCell ⟨qv3, 3, none⟩ (.int .i64 st) := ⟨_, rfl⟩
      rw [← hW11]
      have hb11 : Below w.heap.size w w11 := by rw [hW11]; exact hb10.setCell (p := ⟨qv3, 3, none⟩) HGv3.out _
      have HM11 : Hid ((w10).heap.size ≤ w11.heap.size) := by show _ ≤ _; rw [hW11]; simp
      have HOX_11 : Hid ((w11).ownsRow w.heap.size 9 1 (.slice oX vl.length pX) vl.length (vl.map Value.string)) := by show World.ownsRow _ _ _ _ _ _ _; rw [hW11]; exact owns_same HOX_10.out (fun g hg => heap_setCell_other _ _ g _ (own_ne HOX_10.out HBv3_10.out (by decide) g hg))
      have HOY_11 : Hid ((w11).ownsRow w.heap.size 9 1 (.slice oY yl.length pY) yl.length (yl.map Value.string)) := by show World.ownsRow _ _ _ _ _ _ _; rw [hW11]; exact owns_same HOY_10.out (fun g hg => heap_setCell_other _ _ g _ (own_ne HOY_10.out HBv3_10.out (by decide) g hg))
      have HOG_11 : Hid ((w11).ownsRow w.heap.size 131 2 (.slice oG k pG) k (flatF gs)) := by show World.ownsRow _ _ _ _ _ _ _; rw [hW11]; exact owns_same HOG_10.out (fun g hg => heap_setCell_other _ _ g _ (own_ne HOG_10.out HBv3_10.out (by decide) g hg))
      have HBv1_11 : Hid ((w11).heap[qv1]? = some (.cells #[.int .i64 m, .string p, .slice oa n cap, .string b] 39)) := by show _ = _; rw [hW11, heap_setCell_other _ _ _ _ HNv1v3.out]; exact HBv1_10.out
      have HBv2_11 : Hid ((w11).heap[qv2]? = some (.cells #[.int .i64 st, .slice ob k cb, .string d] 27)) := by show _ = _; rw [hW11, heap_setCell_other _ _ _ _ HNv2v3.out]; exact HBv2_10.out
      have HBv4_11 : Hid ((w11).heap[qv4]? = some (.cells #[.string p, .slice oX vl.length pX, .slice oY yl.length pY, .int .i64 st, .slice oG k pG, .string d, .int .i64 t] 29)) := by show _ = _; rw [hW11, heap_setCell_other _ _ _ _ HNv3v4.out.symm]; exact HBv4_10.out
      have HBv3_11 : Hid ((w11).heap[qv3]? = some (.cells #[.string p, .slice oX vl.length pX, .slice oY yl.length pY, .int .i64 st, .slice none 0 0, .string ⟨#[]⟩, .int .i64 0] 29)) := by show _ = _; rw [hW11]; have h := heap_set _ _ 3 _ _ _ (.int .i64 st) HBv3_10.out; simpa using h
      clear hb10 HOX_10 HOY_10 HOG_10 HBv1_10 HBv2_10 HBv3_10 HBv4_10 hW11
      obtain ⟨w12, hW12⟩ : ∃ W, W = (w11).setCell ⟨qv3, 4, none⟩ (.slice oG k pG) := ⟨_, rfl⟩
      rw [← hW12]
      have hb12 : Below w.heap.size w w12 := by rw [hW12]; exact hb11.setCell (p := ⟨qv3, 4, none⟩) HGv3.out _
      have HM12 : Hid ((w11).heap.size ≤ w12.heap.size) := by show _ ≤ _; rw [hW12]; simp
      have HOX_12 : Hid ((w12).ownsRow w.heap.size 9 1 (.slice oX vl.length pX) vl.length (vl.map Value.string)) := by show World.ownsRow _ _ _ _ _ _ _; rw [hW12]; exact owns_same HOX_11.out (fun g hg => heap_setCell_other _ _ g _ (own_ne HOX_11.out HBv3_11.out (by decide) g hg))
      have HOY_12 : Hid ((w12).ownsRow w.heap.size 9 1 (.slice oY yl.length pY) yl.length (yl.map Value.string)) := by show World.ownsRow _ _ _ _ _ _ _; rw [hW12]; exact owns_same HOY_11.out (fun g hg => heap_setCell_other _ _ g _ (own_ne HOY_11.out HBv3_11.out (by decide) g hg))
      have HOG_12 : Hid ((w12).ownsRow w.heap.size 131 2 (.slice oG k pG) k (flatF gs)) := by show World.ownsRow _ _ _ _ _ _ _; rw [hW12]; exact owns_same HOG_11.out (fun g hg => heap_setCell_other _ _ g _ (own_ne HOG_11.out HBv3_11.out (by decide) g hg))
      have HBv1_12 : Hid ((w12).heap[qv1]? = some (.cells #[.int .i64 m, .string p, .slice oa n cap, .string b] 39)) := by show _ = _; rw [hW12, heap_setCell_other _ _ _ _ HNv1v3.out]; exact HBv1_11.out
      have HBv2_12 : Hid ((w12).heap[qv2]? = some (.cells #[.int .i64 st, .slice ob k cb, .string d] 27)) := by show _ = _; rw [hW12, heap_setCell_other _ _ _ _ HNv2v3.out]; exact HBv2_11.out
      have HBv4_12 : Hid ((w12).heap[qv4]? = some (.cells #[.string p, .slice oX vl.length pX, .slice oY yl.length pY, .int .i64 st, .slice oG k pG, .string d, .int .i64 t] 29)) := by show _ = _; rw [hW12, heap_setCell_other _ _ _ _ HNv3v4.out.symm]; exact HBv4_11.out
      have HBv3_12 : Hid ((w12).heap[qv3]? = some (.cells #[.string p, .slice oX vl.length pX, .slice oY yl.length pY, .int .i64 st, .slice oG k pG, .string ⟨#[]⟩, .int .i64 0] 29)) := by show _ = _; rw [hW12]; have h := heap_set _ _ 4 _ _ _ (.slice oG k pG) HBv3_11.out; simpa using h
      clear hb11 HOX_11 HOY_11 HOG_11 HBv1_11 HBv2_11 HBv3_11 HBv4_11 hW12
      obtain ⟨w13, hW13⟩ : ∃ W, W = (w12).setCell ⟨qv3, 5, none⟩ (.string d) := ⟨_, rfl⟩
      rw [← hW13]
      have hb13 : Below w.heap.size w w13 := by rw [hW13]; exact hb12.setCell (p := ⟨qv3, 5, none⟩) HGv3.out _
      have HM13 : Hid ((w12).heap.size ≤ w13.heap.size) := by show _ ≤ _; rw [hW13]; simp
      have HOX_13 : Hid ((w13).ownsRow w.heap.size 9 1 (.slice oX vl.length pX) vl.length (vl.map Value.string)) := by show World.ownsRow _ _ _ _ _ _ _; rw [hW13]; exact owns_same HOX_12.out (fun g hg => heap_setCell_other _ _ g _ (own_ne HOX_12.out HBv3_12.out (by decide) g hg))
      have HOY_13 : Hid ((w13).ownsRow w.heap.size 9 1 (.slice oY yl.length pY) yl.length (yl.map Value.string)) := by show World.ownsRow _ _ _ _ _ _ _; rw [hW13]; exact owns_same HOY_12.out (fun g hg => heap_setCell_other _ _ g _ (own_ne HOY_12.out HBv3_12.out (by decide) g hg))
      have HOG_13 : Hid ((w13).ownsRow w.heap.size 131 2 (.slice oG k pG) k (flatF gs)) := by show World.ownsRow _ _ _ _ _ _ _; rw [hW13]; exact owns_same HOG_12.out (fun g hg => heap_setCell_other _ _ g _ (own_ne HOG_12.out HBv3_12.out (by decide) g hg))
      have HBv1_13 : Hid ((w13).heap[qv1]? = some (.cells #[.int .i64 m, .string p, .slice oa n cap, .string b] 39)) := by show _ = _; rw [hW13, heap_setCell_other _ _ _ _ HNv1v3.out]; exact HBv1_12.out
      have HBv2_13 : Hid ((w13).heap[qv2]? = some (.cells #[.int .i64 st, .slice ob k cb, .string d] 27)) := by show _ = _; rw [hW13, heap_setCell_other _ _ _ _ HNv2v3.out]; exact HBv2_12.out
      have HBv4_13 : Hid ((w13).heap[qv4]? = some (.cells #[.string p, .slice oX vl.length pX, .slice oY yl.length pY, .int .i64 st, .slice oG k pG, .string d, .int .i64 t] 29)) := by show _ = _; rw [hW13, heap_setCell_other _ _ _ _ HNv3v4.out.symm]; exact HBv4_12.out
      have HBv3_13 : Hid ((w13).heap[qv3]? = some (.cells #[.string p, .slice oX vl.length pX, .slice oY yl.length pY, .int .i64 st, .slice oG k pG, .string d, .int .i64 0] 29)) := by show _ = _; rw [hW13]; have h := heap_set _ _ 5 _ _ _ (.string d) HBv3_12.out; simpa using h
      clear hb12 HOX_12 HOY_12 HOG_12 HBv1_12 HBv2_12 HBv3_12 HBv4_12 hW13
      obtain ⟨w14, hW14⟩ : ∃ W, W = (w13).setCell ⟨qv3, 6, none⟩ (.int .i64 t) := ⟨_, rfl⟩
      rw [← hW14]
      have hb14 : Below w.heap.size w w14 := by rw [hW14]; exact hb13.setCell (p := ⟨qv3, 6, none⟩) HGv3.out _
      have HM14 : Hid ((w13).heap.size ≤ w14.heap.size) := by show _ ≤ _; rw [hW14]; simp
      have HOX_14 : Hid ((w14).ownsRow w.heap.size 9 1 (.slice oX vl.length pX) vl.length (vl.map Value.string)) := by show World.ownsRow _ _ _ _ _ _ _; rw [hW14]; exact owns_same HOX_13.out (fun g hg => heap_setCell_other _ _ g _ (own_ne HOX_13.out HBv3_13.out (by decide) g hg))
      have HOY_14 : Hid ((w14).ownsRow w.heap.size 9 1 (.slice oY yl.length pY) yl.length (yl.map Value.string)) := by show World.ownsRow _ _ _ _ _ _ _; rw [hW14]; exact owns_same HOY_13.out (fun g hg => heap_setCell_other _ _ g _ (own_ne HOY_13.out HBv3_13.out (by decide) g hg))
      have HOG_14 : Hid ((w14).ownsRow w.heap.size 131 2 (.slice oG k pG) k (flatF gs)) := by show World.ownsRow _ _ _ _ _ _ _; rw [hW14]; exact owns_same HOG_13.out (fun g hg => heap_setCell_other _ _ g _ (own_ne HOG_13.out HBv3_13.out (by decide) g hg))
      have HBv1_14 : Hid ((w14).heap[qv1]? = some (.cells #[.int .i64 m, .string p, .slice oa n cap, .string b] 39)) := by show _ = _; rw [hW14, heap_setCell_other _ _ _ _ HNv1v3.out]; exact HBv1_13.out
      have HBv2_14 : Hid ((w14).heap[qv2]? = some (.cells #[.int .i64 st, .slice ob k cb, .string d] 27)) := by show _ = _; rw [hW14, heap_setCell_other _ _ _ _ HNv2v3.out]; exact HBv2_13.out
      have HBv4_14 : Hid ((w14).heap[qv4]? = some (.cells #[.string p, .slice oX vl.length pX, .slice oY yl.length pY, .int .i64 st, .slice oG k pG, .string d, .int .i64 t] 29)) := by show _ = _; rw [hW14, heap_setCell_other _ _ _ _ HNv3v4.out.symm]; exact HBv4_13.out
      have HBv3_14 : Hid ((w14).heap[qv3]? = some (.cells #[.string p, .slice oX vl.length pX, .slice oY yl.length pY, .int .i64 st, .slice oG k pG, .string d, .int .i64 t] 29)) := by show _ = _; rw [hW14]; have h := heap_set _ _ 6 _ _ _ (.int .i64 t) HBv3_13.out; simpa using h
      clear hb13 HOX_13 HOY_13 HOG_13 HBv1_13 HBv2_13 HBv3_13 HBv4_13 hW14
      have kv3_0 : (w14).cell? ⟨qv3, 0, none⟩ = some (.string p) := (cell_of HBv3_14.out 0).trans rfl
      have kv3_1 : (w14).cell? ⟨qv3, 1, none⟩ = some (.slice oX vl.length pX) := (cell_of HBv3_14.out 1).trans rfl
      have kv3_2 : (w14).cell? ⟨qv3, 2, none⟩ = some (.slice oY yl.length pY) := (cell_of HBv3_14.out 2).trans rfl
      have kv3_3 : (w14).cell? ⟨qv3, 3, none⟩ = some (.int .i64 st) := (cell_of HBv3_14.out 3).trans rfl
      have kv3_4 : (w14).cell? ⟨qv3, 4, none⟩ = some (.slice oG k pG) := (cell_of HBv3_14.out 4).trans rfl
      have kv3_5 : (w14).cell? ⟨qv3, 5, none⟩ = some (.string d) := (cell_of HBv3_14.out 5).trans rfl
      have kv3_6 : (w14).cell? ⟨qv3, 6, none⟩ = some (.int .i64 t) := (cell_of HBv3_14.out 6).trans rfl
      refine bodyPost_ret (v := .tuple #[.agg #[.string p, .slice oX vl.length pX, .slice oY yl.length pY, .int .i64 st, .slice oG k pG, .string d, .int .i64 t], .bool true]) (by simp [results, Tryz.results17, go_sem, kv3_0, kv3_1, kv3_2, kv3_3, kv3_4, kv3_5, kv3_6]) rfl ?_
      exact ⟨hb14, .inl ⟨⟨HMK.out, HOK.out⟩, _, _, _, rfl, ⟨HOX_14.out, HOY_14.out, HOG_14.out, fun g hg e => by have h1 := LOY.out g e; have h2 := HIX.out g hg; have := HM6.out; omega⟩⟩⟩

end Go.Proofs.YtdlhicdfldecgaaGreatDoor

namespace Go.Proofs.YtdlhicdfldecgaaGreatDoor
open Go.ChangeShapes Go.WideShapes Go.ChangeAt Go.RowKit

theorem gTabType : (Tryz.prog.globals[0]?).map (·.type) = some 180 := by kernel_rfl
theorem cells62 : Tryz.prog.cellsOf 180 = 20 := by kernel_rfl
theorem cells55 : Tryz.prog.cellsOf 172 = 1 := by kernel_rfl
theorem table {W : World} (h : laidMetH Tryz.prog Rows.fnObjectsRow.laid W) : TabOk W := by
  have h1 : laidMet Tryz.prog Rows.fnObjectsRow.laid W := h
  obtain ⟨ps, hl, _⟩ := h1
  obtain ⟨g1, t1, cs1, f1, p1, q1, _, _, _, _, hr1, _⟩ := hl
  obtain ⟨g2, t2, cs2, f2, p2, q2, _, _, _, _, hr2, _⟩ := hr1
  obtain ⟨g3, t3, cs3, f3, p3, q3, hg, ht, hvar, hd, _, _⟩ := hr2
  obtain rfl := Option.some.inj (gTab.symm.trans hg)
  obtain rfl := Option.some.inj (gTabType.symm.trans ht)
  unfold TabOk Lib.TabIs
  rw [hvar, ← Lib.cells_of_tab (zs := Lib.pow10Tab) Tryz.underlying180 Tryz.underlying172 cells55 cells62 hd]

/-- A world with the three tables as their initialisers lay them. -/
def withTables (w : World) : World :=
  { w with heap := ((w.heap.modify 0 fun
      | .cells _ t frozen => .cells #[.int .u64 1, .int .u64 10, .int .u64 100, .int .u64 1000, .int .u64 10000, .int .u64 100000, .int .u64 1000000, .int .u64 10000000, .int .u64 100000000, .int .u64 1000000000, .int .u64 10000000000, .int .u64 100000000000, .int .u64 1000000000000, .int .u64 10000000000000, .int .u64 100000000000000, .int .u64 1000000000000000, .int .u64 10000000000000000, .int .u64 100000000000000000, .int .u64 1000000000000000000, .int .u64 10000000000000000000] t frozen
      | o => o).modify 2 fun
      | .cells _ t frozen => .cells #[.int .u8 0, .int .u8 1, .int .u8 28, .int .u8 2, .int .u8 29, .int .u8 14, .int .u8 24, .int .u8 3, .int .u8 30, .int .u8 22, .int .u8 20, .int .u8 15, .int .u8 25, .int .u8 17, .int .u8 4, .int .u8 8, .int .u8 31, .int .u8 27, .int .u8 13, .int .u8 23, .int .u8 21, .int .u8 19, .int .u8 16, .int .u8 7, .int .u8 26, .int .u8 12, .int .u8 18, .int .u8 6, .int .u8 11, .int .u8 5, .int .u8 10, .int .u8 9] t frozen
      | o => o).modify 3 fun
      | .cells _ t frozen => .cells #[.int .u8 0, .int .u8 1, .int .u8 56, .int .u8 2, .int .u8 57, .int .u8 49, .int .u8 28, .int .u8 3, .int .u8 61, .int .u8 58, .int .u8 42, .int .u8 50, .int .u8 38, .int .u8 29, .int .u8 17, .int .u8 4, .int .u8 62, .int .u8 47, .int .u8 59, .int .u8 36, .int .u8 45, .int .u8 43, .int .u8 51, .int .u8 22, .int .u8 53, .int .u8 39, .int .u8 33, .int .u8 30, .int .u8 24, .int .u8 18, .int .u8 12, .int .u8 5, .int .u8 63, .int .u8 55, .int .u8 48, .int .u8 27, .int .u8 60, .int .u8 41, .int .u8 37, .int .u8 16, .int .u8 46, .int .u8 35, .int .u8 44, .int .u8 21, .int .u8 52, .int .u8 32, .int .u8 23, .int .u8 11, .int .u8 54, .int .u8 26, .int .u8 40, .int .u8 15, .int .u8 34, .int .u8 20, .int .u8 31, .int .u8 10, .int .u8 25, .int .u8 14, .int .u8 19, .int .u8 9, .int .u8 13, .int .u8 8, .int .u8 7, .int .u8 6] t frozen
      | o => o }
end Go.Proofs.YtdlhicdfldecgaaGreatDoor
