/- What the proof of FnExactBanText leans on: contracts of the program's and the specification's functions, and plain facts (part 3 of 3). -/
import Derived.Test.YtlmenolcgaakeaaDoorFnExactBanTextB
namespace Go.Proofs.YtlmenolcgaakeaaDoor
open Go.RowKit
open Go.Lib hiding intOf

theorem guardBan : Tryd.prog.eqGuardType Tryd.prog.depth 25 = false := by kernel_rfl
open Classical in
theorem eqBanIn (k k' : Int) (a a' b b' : ByteArray) (t t' : Int) (w : World) : (Op.equalIn 10000 25 (.agg #[.int .i64 k, .string a, .string b, .int .i64 t]) (.agg #[.int .i64 k', .string a', .string b', .int .i64 t'])).run Tryd.prog w = .ok (decide (k = k' ∧ a = a' ∧ b = b' ∧ t = t')) w := by
  have u3 := Tryd.underlying3
  have a3 := Tryd.isAgg3
  have z3 := Tryd.sizeOf3
  have u9 := Tryd.underlying9
  have a9 := Tryd.isAgg9
  have z9 := Tryd.sizeOf9
  have hS : Tryd.prog.underlying 25 = some (.struct (Tryd.prog.fieldsOf 25)) := by kernel_rfl
  have hp : Tryd.prog.stoodInHeld 25 = false := by kernel_rfl
  rw [show (10000 : Nat) = 9999 + 1 from rfl, run_equalIn_agg w 9999 25 _ _ hS hp]
  simp only [Program.fieldsOf, Tryd.underlying25]
  have ea : ∀ x y : ByteArray, (x.toList == y.toList) = decide (x = y) := fun x y => by
    by_cases h : x = y
    · rw [decide_eq_true h]; exact (text_beq _ _).2 h
    · rw [decide_eq_false h]; exact text_beq_no h
  go_simp
  by_cases h1 : k = k'
  · by_cases h2 : a = a'
    · by_cases h3 : b = b'
      · by_cases h4 : t = t'
        · simp [h1, h2, h3, h4]
        · simp [h1, h2, h3, h4]
      · simp [h1, h2, h3]
    · simp [h1, h2]
  · simp [h1]
open Classical in
theorem eqlBan (k k' : Int) (a a' b b' : ByteArray) (t t' : Int) (w : World) : (binOp .eql 25 (.agg #[.int .i64 k, .string a, .string b, .int .i64 t]) (.agg #[.int .i64 k', .string a', .string b', .int .i64 t'])).run Tryd.prog w = .ok (.bool (decide (k = k' ∧ a = a' ∧ b = b' ∧ t = t'))) w := by
  rw [run_eql_struct, eqBanIn]
  rfl
set_option maxHeartbeats 8000000 in
set_option maxRecDepth 100000 in
theorem implBanOk_1e (a : ByteArray) (t : Int) (w : World) (ha : a.size ≤ maxLen) :
    Calls Tryd.prog 10 #[.agg #[.int .i64 1, .string a, .string ⟨#[]⟩, .int .i64 t]] w fun e w' => BoolIs (BanP 1 a ⟨#[]⟩ t) w e w' := by
  classical
  have HAM : Hid (a.size ≤ maxLen) := ha
  have hnn : ∀ W : World, (binOp .neq 44 (.iface 67 (.agg #[.string a])) .nilIface).run Tryd.prog W = .ok (.bool true) W := fun _ => by kernel_rfl
  have hna : ∀ W : World, (nilAhead 157 67 (.agg #[.string a]) "loop.example/g00239/impl.right").run Tryd.prog W = .ok (some false) W := fun _ => by kernel_rfl
  have hmt : ∀ W : World, (method 157 67 (.agg #[.string a]) "loop.example/g00239/impl.right").run Tryd.prog W = .ok (101, .agg #[.string a]) W := fun _ => by kernel_rfl
  have hgb := guardBan
  have hqe : ∀ W : World, (binOp .eql 25 (.agg #[.int .i64 1, .string a, .string ⟨#[]⟩, .int .i64 t]) (.agg #[.int .i64 1, .string a, .string ⟨#[]⟩, .int .i64 t])).run Tryd.prog W = .ok (.bool true) W := fun W => by
    rw [eqlBan]
    first | (simp; done) | (have z := HB0.out; simp; exact fun e => z e.symm)
  clear ha
  have hb0 : Below w.heap.size w w := Below.refl _ _
  go_enter Tryd.func10, Tryd.ntmps10
  go_upto_region 1 with fail
  obtain ⟨qv1, hqv1⟩ : ∃ q, q = (w).heap.size := ⟨_, rfl⟩
  obtain ⟨w1, hW1⟩ : ∃ W, W = (w).alloc (.cells #[.int .i64 1, .string a, .string ⟨#[]⟩, .int .i64 t] 25) := ⟨_, rfl⟩
  have hz1 : (w).heap.size = qv1 := hqv1.symm
  first | rw [← hW1, ← hqv1] | rw [← hW1]
  have hs1 : w1.heap.size = qv1 + 1 := by rw [hW1, ← hz1]; simp
  have bw : Below (w).heap.size (w) w1 := by rw [hW1]; exact (Below.refl _ _).alloc (Nat.le_refl _) _
  have hb1 : Below w.heap.size w (w1) := hb0.trans (bw.mono hb0.size)
  have HM1 : Hid ((w).heap.size ≤ (w1).heap.size) := bw.size
  have HBv1_1 : Hid ((w1).heap[qv1]? = some (.cells #[.int .i64 1, .string a, .string ⟨#[]⟩, .int .i64 t] 25)) := by show _ = _; rw [hW1, ← hz1]; exact heap_alloc_new _ _
  have HGv1 : Hid (w.heap.size ≤ qv1) := by show _ ≤ _; rw [← hz1]; exact hb0.size
  clear hb0 bw hW1 hz1
  clear hs1 hqv1
  have cv1_0 : (w1).cell? ⟨qv1, 0, none⟩ = some (.int .i64 1) := (cell_of HBv1_1.out 0).trans rfl
  have cv1_1 : (w1).cell? ⟨qv1, 1, none⟩ = some (.string a) := (cell_of HBv1_1.out 1).trans rfl
  have cv1_2 : (w1).cell? ⟨qv1, 2, none⟩ = some (.string ⟨#[]⟩) := (cell_of HBv1_1.out 2).trans rfl
  have cv1_3 : (w1).cell? ⟨qv1, 3, none⟩ = some (.int .i64 t) := (cell_of HBv1_1.out 3).trans rfl
  go_wp2_with fail
  refine (ruleOf_1 a ⟨#[]⟩ t _).mono ?_
  rintro e w2 ⟨rfl, bw⟩
  have hb2 : Below w.heap.size w (w2) := hb1.trans (bw.mono hb1.size)
  have HM2 : Hid ((w1).heap.size ≤ (w2).heap.size) := bw.size
  have HBv1_2 : Hid ((w2).heap[qv1]? = some (.cells #[.int .i64 1, .string a, .string ⟨#[]⟩, .int .i64 t] 25)) := blk_below HBv1_1.out bw
  clear hb1 HBv1_1 bw
  clear cv1_0 cv1_1 cv1_2 cv1_3
  go_upto_region 2 with fail
  refine wp_region_held_drew (S := fun W => W.heap[qv1]? = some (.cells #[.int .i64 1, .string a, .string ⟨#[]⟩, .int .i64 t] 25)) (by kernel_rfl) HBv1_2.out (fun _ => ?_)
  obtain ⟨w3, hX⟩ : ∃ X, X = w2.drew := ⟨_, rfl⟩
  have bw : Below w2.heap.size w2 w3 := by rw [hX]; exact (Below.refl _ _).drew
  rw [← hX]
  have hb3 : Below w.heap.size w (w3) := hb2.trans (bw.mono hb2.size)
  have HM3 : Hid ((w2).heap.size ≤ (w3).heap.size) := bw.size
  have HBv1_3 : Hid ((w3).heap[qv1]? = some (.cells #[.int .i64 1, .string a, .string ⟨#[]⟩, .int .i64 t] 25)) := blk_below HBv1_2.out bw
  have hS3 : w3.heap[qv1]? = some (.cells #[.int .i64 1, .string a, .string ⟨#[]⟩, .int .i64 t] 25) := HBv1_3.out
  clear hb2 HBv1_2 bw hX
  refine wpAnyH_takeD (i := 0) (v := .iface 67 (.agg #[.string a])) (some 6) rfl rfl (by kernel_rfl) (by kernel_rfl) (by kernel_rfl) (fun _ _ _ h => h) (Or.inl ⟨by rfl, by intro W _; go_simp⟩) hS3 ?_
  simp only [Act.put, List.setIfInBounds_toArray, List.set_cons_zero, List.set_cons_succ]
  refine wpAnyH_takeD (i := 1) (v := .bool true) (some 7) rfl rfl (by kernel_rfl) (by kernel_rfl) (by kernel_rfl) (fun _ _ _ h => h) (Or.inl ⟨by rfl, by intro W _; go_simp⟩) hS3 ?_
  simp only [Act.put, List.setIfInBounds_toArray, List.set_cons_zero, List.set_cons_succ]
  refine wpAnyH_takeD (i := 2) (v := .bool true) (some 8) rfl rfl (by kernel_rfl) (by kernel_rfl) (by kernel_rfl) (fun _ _ _ h => h) (Or.inl ⟨by rfl, by intro W _; go_simp⟩) hS3 ?_
  simp only [Act.put, List.setIfInBounds_toArray, List.set_cons_zero, List.set_cons_succ]
  refine wpAnyH_takeD (i := 3) (v := .iface 67 (.agg #[.string a])) (some 9) rfl rfl (by kernel_rfl) (by kernel_rfl) (by kernel_rfl) (fun _ _ _ h => h) (Or.inl ⟨by rfl, by intro W _; go_simp⟩) hS3 ?_
  simp only [Act.put, List.setIfInBounds_toArray, List.set_cons_zero, List.set_cons_succ]
  refine wpAnyH_ready (rs := [4]) (by kernel_rfl) (by simp) ?_
  refine AllReadyH.cons rfl (fun K hK => ?_) AllReadyH.nil
  go_simp
  refine (right_1 a _ HAM.out).mono ?_
  rintro e w4 ⟨ur, rfl, htur, bw⟩
  have hb4 : Below w.heap.size w (w4) := hb3.trans (bw.mono hb3.size)
  have HM4 : Hid ((w3).heap.size ≤ (w4).heap.size) := bw.size
  have HBv1_4 : Hid ((w4).heap[qv1]? = some (.cells #[.int .i64 1, .string a, .string ⟨#[]⟩, .int .i64 t] 25)) := blk_below HBv1_3.out bw
  clear hb3 HBv1_3 bw
  have hS4 : w4.heap[qv1]? = some (.cells #[.int .i64 1, .string a, .string ⟨#[]⟩, .int .i64 t] 25) := HBv1_4.out
  refine hK.out _ _ hS4 (fun _ => ?_)
  clear hK K hS3
  refine wpAnyH_takeD (i := 5) (v := .bool ur) (some 11) rfl rfl (by kernel_rfl) (by kernel_rfl) (by kernel_rfl) (fun _ _ _ h => h) (Or.inl ⟨by rfl, by intro W _; go_simp⟩) hS4 ?_
  simp only [Act.put, List.setIfInBounds_toArray, List.set_cons_zero, List.set_cons_succ]
  refine wpAnyH_takeD (i := 6) (v := .bool ur) (some 12) rfl rfl (by kernel_rfl) (by kernel_rfl) (by kernel_rfl) (fun _ _ _ h => h) (Or.inl ⟨by rfl, by intro W _; go_simp⟩) hS4 ?_
  simp only [Act.put, List.setIfInBounds_toArray, List.set_cons_zero, List.set_cons_succ]
  cases ur with
  | false =>
    have Hur : Hid (¬ (PathOk a)) := fun h => nomatch htur.2 h
    clear htur
    refine wpAnyH_takeD (i := 7) (v := undef) (some 13) rfl rfl (by kernel_rfl) (by kernel_rfl) (by kernel_rfl) (fun _ _ _ h => h) (Or.inr ⟨by rfl, rfl⟩) hS4 ?_
    simp only [Act.put, List.setIfInBounds_toArray, List.set_cons_zero, List.set_cons_succ]
    refine wpAnyH_takeD (i := 8) (v := undef) (some 14) rfl rfl (by kernel_rfl) (by kernel_rfl) (by kernel_rfl) (fun _ _ _ h => h) (Or.inr ⟨by rfl, rfl⟩) hS4 ?_
    simp only [Act.put, List.setIfInBounds_toArray, List.set_cons_zero, List.set_cons_succ]
    refine wpAnyH_takeD (i := 9) (v := undef) (some 15) rfl rfl (by kernel_rfl) (by kernel_rfl) (by kernel_rfl) (fun _ _ _ h => h) (Or.inr ⟨by rfl, rfl⟩) hS4 ?_
    simp only [Act.put, List.setIfInBounds_toArray, List.set_cons_zero, List.set_cons_succ]
    refine wpAnyH_takeD (i := 10) (v := .bool false) (some 16) rfl rfl (by kernel_rfl) (by kernel_rfl) (by kernel_rfl) (fun _ _ _ h => h) (Or.inl ⟨by rfl, by intro W _; go_simp⟩) hS4 ?_
    simp only [Act.put, List.setIfInBounds_toArray, List.set_cons_zero, List.set_cons_succ]
    refine wpAnyH_takeD (i := 11) (v := .bool false) (some 17) rfl rfl (by kernel_rfl) (by kernel_rfl) (by kernel_rfl) (fun _ _ _ h => h) (Or.inl ⟨by rfl, by intro W _; go_simp⟩) hS4 ?_
    simp only [Act.put, List.setIfInBounds_toArray, List.set_cons_zero, List.set_cons_succ]
    refine wpAnyH_takeD (i := 12) (v := undef) (some 18) rfl rfl (by kernel_rfl) (by kernel_rfl) (by kernel_rfl) (fun _ _ _ h => h) (Or.inr ⟨by rfl, rfl⟩) hS4 ?_
    simp only [Act.put, List.setIfInBounds_toArray, List.set_cons_zero, List.set_cons_succ]
    refine wpAnyH_takeD (i := 13) (v := undef) (some 19) rfl rfl (by kernel_rfl) (by kernel_rfl) (by kernel_rfl) (fun _ _ _ h => h) (Or.inr ⟨by rfl, rfl⟩) hS4 ?_
    simp only [Act.put, List.setIfInBounds_toArray, List.set_cons_zero, List.set_cons_succ]
    refine wpAnyH_takeD (i := 14) (v := undef) (some 20) rfl rfl (by kernel_rfl) (by kernel_rfl) (by kernel_rfl) (fun _ _ _ h => h) (Or.inr ⟨by rfl, rfl⟩) hS4 ?_
    simp only [Act.put, List.setIfInBounds_toArray, List.set_cons_zero, List.set_cons_succ]
    refine wpAnyH_takeD (i := 15) (v := undef) (some 21) rfl rfl (by kernel_rfl) (by kernel_rfl) (by kernel_rfl) (fun _ _ _ h => h) (Or.inr ⟨by rfl, rfl⟩) hS4 ?_
    simp only [Act.put, List.setIfInBounds_toArray, List.set_cons_zero, List.set_cons_succ]
    refine wpAnyH_takeD (i := 16) (v := undef) (some 22) rfl rfl (by kernel_rfl) (by kernel_rfl) (by kernel_rfl) (fun _ _ _ h => h) (Or.inr ⟨by rfl, rfl⟩) hS4 ?_
    simp only [Act.put, List.setIfInBounds_toArray, List.set_cons_zero, List.set_cons_succ]
    refine wpAnyH_takeD (i := 17) (v := undef) (some 23) rfl rfl (by kernel_rfl) (by kernel_rfl) (by kernel_rfl) (fun _ _ _ h => h) (Or.inr ⟨by rfl, rfl⟩) hS4 ?_
    simp only [Act.put, List.setIfInBounds_toArray, List.set_cons_zero, List.set_cons_succ]
    refine wpAnyH_takeD (i := 18) (v := .bool false) (some 24) rfl rfl (by kernel_rfl) (by kernel_rfl) (by kernel_rfl) (fun _ _ _ h => h) (Or.inl ⟨by rfl, by intro W _; go_simp⟩) hS4 ?_
    simp only [Act.put, List.setIfInBounds_toArray, List.set_cons_zero, List.set_cons_succ]
    refine wpAnyH_takeD (i := 19) (v := .bool false) (some 2) rfl rfl (by kernel_rfl) (by kernel_rfl) (by kernel_rfl) (fun _ _ _ h => h) (Or.inl ⟨by rfl, by intro W _; go_simp⟩) hS4 ?_
    simp only [Act.put, List.setIfInBounds_toArray, List.set_cons_zero, List.set_cons_succ]
    clear hS4
    refine wpAnyH_done (by kernel_rfl) ?_ _
    go_wp2_with fail
    go_ret
    refine ⟨false, rfl, ?_, hb4⟩
    have zHur := Hur.out
    unfold BanP
    simp_all
  | true =>
    have Hur : Hid (PathOk a) := htur.1 rfl
    clear htur
    refine wpAnyH_takeD (i := 7) (v := .pointer (some ⟨qv1, 3, none⟩)) (some 13) rfl rfl (by kernel_rfl) (by kernel_rfl) (by kernel_rfl) (fun _ _ _ h => h) (Or.inl ⟨by rfl, by intro W _; go_simp⟩) hS4 ?_
    simp only [Act.put, List.setIfInBounds_toArray, List.set_cons_zero, List.set_cons_succ]
    refine wpAnyH_takeD (i := 8) (v := .int .i64 t) (some 14) rfl rfl (by kernel_rfl) (by kernel_rfl) (by kernel_rfl) (fun _ _ _ h => h) (Or.inl ⟨by rfl, by intro W hW; have hhv1 := hW; have y3 := (cell_of hhv1 3).trans rfl; go_simp⟩) hS4 ?_
    simp only [Act.put, List.setIfInBounds_toArray, List.set_cons_zero, List.set_cons_succ]
    refine wpAnyH_ready (rs := [9]) (by kernel_rfl) (by simp) ?_
    refine AllReadyH.cons rfl (fun K hK => ?_) AllReadyH.nil
    go_simp
    refine (timeOk_any t _).mono ?_
    rintro e w5 ⟨rfl, hwe⟩
    have bw : Below (w4).heap.size (w4) w5 := by rw [hwe]; exact Below.refl _ _
    clear hwe
    obtain ⟨ut, hut⟩ : ∃ u, u = decide ((0 : Int) ≤ t ∧ t ≤ 1000000) := ⟨_, rfl⟩
    rw [← hut]
    have hb5 : Below w.heap.size w (w5) := hb4.trans (bw.mono hb4.size)
    have HM5 : Hid ((w4).heap.size ≤ (w5).heap.size) := bw.size
    have HBv1_5 : Hid ((w5).heap[qv1]? = some (.cells #[.int .i64 1, .string a, .string ⟨#[]⟩, .int .i64 t] 25)) := blk_below HBv1_4.out bw
    clear hb4 HBv1_4 bw
    have hS5 : w5.heap[qv1]? = some (.cells #[.int .i64 1, .string a, .string ⟨#[]⟩, .int .i64 t] 25) := HBv1_5.out
    refine hK.out _ _ hS5 (fun _ => ?_)
    clear hK K hS4
    refine wpAnyH_takeD (i := 10) (v := .bool ut) (some 16) rfl rfl (by kernel_rfl) (by kernel_rfl) (by kernel_rfl) (fun _ _ _ h => h) (Or.inl ⟨by rfl, by intro W _; go_simp⟩) hS5 ?_
    simp only [Act.put, List.setIfInBounds_toArray, List.set_cons_zero, List.set_cons_succ]
    refine wpAnyH_takeD (i := 11) (v := .bool ut) (some 17) rfl rfl (by kernel_rfl) (by kernel_rfl) (by kernel_rfl) (fun _ _ _ h => h) (Or.inl ⟨by rfl, by intro W _; go_simp⟩) hS5 ?_
    simp only [Act.put, List.setIfInBounds_toArray, List.set_cons_zero, List.set_cons_succ]
    cases ut with
    | false =>
      have Hut : Hid (¬ (0 ≤ t ∧ t ≤ 1000000)) := (show ¬ (0 ≤ t ∧ t ≤ 1000000) from of_decide_eq_false hut.symm)
      clear hut
      refine wpAnyH_takeD (i := 12) (v := undef) (some 18) rfl rfl (by kernel_rfl) (by kernel_rfl) (by kernel_rfl) (fun _ _ _ h => h) (Or.inr ⟨by rfl, rfl⟩) hS5 ?_
      simp only [Act.put, List.setIfInBounds_toArray, List.set_cons_zero, List.set_cons_succ]
      refine wpAnyH_takeD (i := 13) (v := undef) (some 19) rfl rfl (by kernel_rfl) (by kernel_rfl) (by kernel_rfl) (fun _ _ _ h => h) (Or.inr ⟨by rfl, rfl⟩) hS5 ?_
      simp only [Act.put, List.setIfInBounds_toArray, List.set_cons_zero, List.set_cons_succ]
      refine wpAnyH_takeD (i := 14) (v := undef) (some 20) rfl rfl (by kernel_rfl) (by kernel_rfl) (by kernel_rfl) (fun _ _ _ h => h) (Or.inr ⟨by rfl, rfl⟩) hS5 ?_
      simp only [Act.put, List.setIfInBounds_toArray, List.set_cons_zero, List.set_cons_succ]
      refine wpAnyH_takeD (i := 15) (v := undef) (some 21) rfl rfl (by kernel_rfl) (by kernel_rfl) (by kernel_rfl) (fun _ _ _ h => h) (Or.inr ⟨by rfl, rfl⟩) hS5 ?_
      simp only [Act.put, List.setIfInBounds_toArray, List.set_cons_zero, List.set_cons_succ]
      refine wpAnyH_takeD (i := 16) (v := undef) (some 22) rfl rfl (by kernel_rfl) (by kernel_rfl) (by kernel_rfl) (fun _ _ _ h => h) (Or.inr ⟨by rfl, rfl⟩) hS5 ?_
      simp only [Act.put, List.setIfInBounds_toArray, List.set_cons_zero, List.set_cons_succ]
      refine wpAnyH_takeD (i := 17) (v := undef) (some 23) rfl rfl (by kernel_rfl) (by kernel_rfl) (by kernel_rfl) (fun _ _ _ h => h) (Or.inr ⟨by rfl, rfl⟩) hS5 ?_
      simp only [Act.put, List.setIfInBounds_toArray, List.set_cons_zero, List.set_cons_succ]
      refine wpAnyH_takeD (i := 18) (v := .bool false) (some 24) rfl rfl (by kernel_rfl) (by kernel_rfl) (by kernel_rfl) (fun _ _ _ h => h) (Or.inl ⟨by rfl, by intro W _; go_simp⟩) hS5 ?_
      simp only [Act.put, List.setIfInBounds_toArray, List.set_cons_zero, List.set_cons_succ]
      refine wpAnyH_takeD (i := 19) (v := .bool false) (some 2) rfl rfl (by kernel_rfl) (by kernel_rfl) (by kernel_rfl) (fun _ _ _ h => h) (Or.inl ⟨by rfl, by intro W _; go_simp⟩) hS5 ?_
      simp only [Act.put, List.setIfInBounds_toArray, List.set_cons_zero, List.set_cons_succ]
      clear hS5
      refine wpAnyH_done (by kernel_rfl) ?_ _
      go_wp2_with fail
      go_ret
      refine ⟨false, rfl, ?_, hb5⟩
      have zHur := Hur.out
      have zHut := Hut.out
      unfold BanP
      simp_all
    | true =>
      have Hut : Hid (0 ≤ t ∧ t ≤ 1000000) := (show 0 ≤ t ∧ t ≤ 1000000 from of_decide_eq_true hut.symm)
      clear hut
      refine wpAnyH_takeD (i := 12) (v := .iface 67 (.agg #[.string a])) (some 18) rfl rfl (by kernel_rfl) (by kernel_rfl) (by kernel_rfl) (fun _ _ _ h => h) (Or.inl ⟨by rfl, by intro W _; go_simp⟩) hS5 ?_
      simp only [Act.put, List.setIfInBounds_toArray, List.set_cons_zero, List.set_cons_succ]
      refine wpAnyH_takeD (i := 13) (v := .pointer (some ⟨qv1, 3, none⟩)) (some 19) rfl rfl (by kernel_rfl) (by kernel_rfl) (by kernel_rfl) (fun _ _ _ h => h) (Or.inl ⟨by rfl, by intro W _; go_simp⟩) hS5 ?_
      simp only [Act.put, List.setIfInBounds_toArray, List.set_cons_zero, List.set_cons_succ]
      refine wpAnyH_takeD (i := 14) (v := .int .i64 t) (some 20) rfl rfl (by kernel_rfl) (by kernel_rfl) (by kernel_rfl) (fun _ _ _ h => h) (Or.inl ⟨by rfl, by intro W hW; have hhv1 := hW; have y3 := (cell_of hhv1 3).trans rfl; go_simp⟩) hS5 ?_
      simp only [Act.put, List.setIfInBounds_toArray, List.set_cons_zero, List.set_cons_succ]
      refine wpAnyH_takeD (i := 16) (v := .agg #[.int .i64 1, .string a, .string ⟨#[]⟩, .int .i64 t]) (some 22) rfl rfl (by kernel_rfl) (by kernel_rfl) (by kernel_rfl) (fun _ _ _ h => h) (Or.inl ⟨by rfl, by intro W hW; have hhv1 := hW; have y0 := (cell_of hhv1 0).trans rfl; have y1 := (cell_of hhv1 1).trans rfl; have y2 := (cell_of hhv1 2).trans rfl; have y3 := (cell_of hhv1 3).trans rfl; go_simp⟩) hS5 ?_
      simp only [Act.put, List.setIfInBounds_toArray, List.set_cons_zero, List.set_cons_succ]
      refine wpAnyH_ready (rs := [15]) (by kernel_rfl) (by simp) ?_
      refine AllReadyH.cons rfl (fun K hK => ?_) AllReadyH.nil
      go_simp
      refine (banOf_1 a t _).mono ?_
      rintro e w6 ⟨rfl, bw⟩
      have hb6 : Below w.heap.size w (w6) := hb5.trans (bw.mono hb5.size)
      have HM6 : Hid ((w5).heap.size ≤ (w6).heap.size) := bw.size
      have HBv1_6 : Hid ((w6).heap[qv1]? = some (.cells #[.int .i64 1, .string a, .string ⟨#[]⟩, .int .i64 t] 25)) := blk_below HBv1_5.out bw
      clear hb5 HBv1_5 bw
      have hS6 : w6.heap[qv1]? = some (.cells #[.int .i64 1, .string a, .string ⟨#[]⟩, .int .i64 t] 25) := HBv1_6.out
      refine hK.out _ _ hS6 (fun _ => ?_)
      clear hK K hS5
      refine wpAnyH_takeD (i := 17) (v := .bool true) (some 23) rfl rfl (by kernel_rfl) (by kernel_rfl) (by kernel_rfl) (fun _ _ _ h => h) (Or.inl ⟨by rfl, by intro W _; go_simp⟩) hS6 ?_
      simp only [Act.put, List.setIfInBounds_toArray, List.set_cons_zero, List.set_cons_succ]
      refine wpAnyH_takeD (i := 18) (v := .bool true) (some 24) rfl rfl (by kernel_rfl) (by kernel_rfl) (by kernel_rfl) (fun _ _ _ h => h) (Or.inl ⟨by rfl, by intro W _; go_simp⟩) hS6 ?_
      simp only [Act.put, List.setIfInBounds_toArray, List.set_cons_zero, List.set_cons_succ]
      refine wpAnyH_takeD (i := 19) (v := .bool true) (some 2) rfl rfl (by kernel_rfl) (by kernel_rfl) (by kernel_rfl) (fun _ _ _ h => h) (Or.inl ⟨by rfl, by intro W _; go_simp⟩) hS6 ?_
      simp only [Act.put, List.setIfInBounds_toArray, List.set_cons_zero, List.set_cons_succ]
      clear hS6
      refine wpAnyH_done (by kernel_rfl) ?_ _
      go_wp2_with fail
      go_ret
      refine ⟨true, rfl, ?_, hb6⟩
      have zHur := Hur.out
      have zHut := Hut.out
      unfold BanP
      simp_all

set_option maxHeartbeats 8000000 in
set_option maxRecDepth 100000 in
theorem implBanOk_1n (a b : ByteArray) (t : Int) (w : World) (ha : a.size ≤ maxLen) (hb0 : ¬ b = ⟨#[]⟩) :
    Calls Tryd.prog 10 #[.agg #[.int .i64 1, .string a, .string b, .int .i64 t]] w fun e w' => BoolIs (BanP 1 a b t) w e w' := by
  classical
  have HAM : Hid (a.size ≤ maxLen) := ha
  have HB0 : Hid (¬ b = ⟨#[]⟩) := hb0
  have hnn : ∀ W : World, (binOp .neq 44 (.iface 67 (.agg #[.string a])) .nilIface).run Tryd.prog W = .ok (.bool true) W := fun _ => by kernel_rfl
  have hna : ∀ W : World, (nilAhead 157 67 (.agg #[.string a]) "loop.example/g00239/impl.right").run Tryd.prog W = .ok (some false) W := fun _ => by kernel_rfl
  have hmt : ∀ W : World, (method 157 67 (.agg #[.string a]) "loop.example/g00239/impl.right").run Tryd.prog W = .ok (101, .agg #[.string a]) W := fun _ => by kernel_rfl
  have hgb := guardBan
  have hqe : ∀ W : World, (binOp .eql 25 (.agg #[.int .i64 1, .string a, .string ⟨#[]⟩, .int .i64 t]) (.agg #[.int .i64 1, .string a, .string b, .int .i64 t])).run Tryd.prog W = .ok (.bool false) W := fun W => by
    rw [eqlBan]
    first | (simp; done) | (have z := HB0.out; simp; exact fun e => z e.symm)
  clear ha hb0
  have hb0 : Below w.heap.size w w := Below.refl _ _
  go_enter Tryd.func10, Tryd.ntmps10
  go_upto_region 1 with fail
  obtain ⟨qv1, hqv1⟩ : ∃ q, q = (w).heap.size := ⟨_, rfl⟩
  obtain ⟨w1, hW1⟩ : ∃ W, W = (w).alloc (.cells #[.int .i64 1, .string a, .string b, .int .i64 t] 25) := ⟨_, rfl⟩
  have hz1 : (w).heap.size = qv1 := hqv1.symm
  first | rw [← hW1, ← hqv1] | rw [← hW1]
  have hs1 : w1.heap.size = qv1 + 1 := by rw [hW1, ← hz1]; simp
  have bw : Below (w).heap.size (w) w1 := by rw [hW1]; exact (Below.refl _ _).alloc (Nat.le_refl _) _
  have hb1 : Below w.heap.size w (w1) := hb0.trans (bw.mono hb0.size)
  have HM1 : Hid ((w).heap.size ≤ (w1).heap.size) := bw.size
  have HBv1_1 : Hid ((w1).heap[qv1]? = some (.cells #[.int .i64 1, .string a, .string b, .int .i64 t] 25)) := by show _ = _; rw [hW1, ← hz1]; exact heap_alloc_new _ _
  have HGv1 : Hid (w.heap.size ≤ qv1) := by show _ ≤ _; rw [← hz1]; exact hb0.size
  clear hb0 bw hW1 hz1
  clear hs1 hqv1
  have cv1_0 : (w1).cell? ⟨qv1, 0, none⟩ = some (.int .i64 1) := (cell_of HBv1_1.out 0).trans rfl
  have cv1_1 : (w1).cell? ⟨qv1, 1, none⟩ = some (.string a) := (cell_of HBv1_1.out 1).trans rfl
  have cv1_2 : (w1).cell? ⟨qv1, 2, none⟩ = some (.string b) := (cell_of HBv1_1.out 2).trans rfl
  have cv1_3 : (w1).cell? ⟨qv1, 3, none⟩ = some (.int .i64 t) := (cell_of HBv1_1.out 3).trans rfl
  go_wp2_with fail
  refine (ruleOf_1 a b t _).mono ?_
  rintro e w2 ⟨rfl, bw⟩
  have hb2 : Below w.heap.size w (w2) := hb1.trans (bw.mono hb1.size)
  have HM2 : Hid ((w1).heap.size ≤ (w2).heap.size) := bw.size
  have HBv1_2 : Hid ((w2).heap[qv1]? = some (.cells #[.int .i64 1, .string a, .string b, .int .i64 t] 25)) := blk_below HBv1_1.out bw
  clear hb1 HBv1_1 bw
  clear cv1_0 cv1_1 cv1_2 cv1_3
  go_upto_region 2 with fail
  refine wp_region_held_drew (S := fun W => W.heap[qv1]? = some (.cells #[.int .i64 1, .string a, .string b, .int .i64 t] 25)) (by kernel_rfl) HBv1_2.out (fun _ => ?_)
  obtain ⟨w3, hX⟩ : ∃ X, X = w2.drew := ⟨_, rfl⟩
  have bw : Below w2.heap.size w2 w3 := by rw [hX]; exact (Below.refl _ _).drew
  rw [← hX]
  have hb3 : Below w.heap.size w (w3) := hb2.trans (bw.mono hb2.size)
  have HM3 : Hid ((w2).heap.size ≤ (w3).heap.size) := bw.size
  have HBv1_3 : Hid ((w3).heap[qv1]? = some (.cells #[.int .i64 1, .string a, .string b, .int .i64 t] 25)) := blk_below HBv1_2.out bw
  have hS3 : w3.heap[qv1]? = some (.cells #[.int .i64 1, .string a, .string b, .int .i64 t] 25) := HBv1_3.out
  clear hb2 HBv1_2 bw hX
  refine wpAnyH_takeD (i := 0) (v := .iface 67 (.agg #[.string a])) (some 6) rfl rfl (by kernel_rfl) (by kernel_rfl) (by kernel_rfl) (fun _ _ _ h => h) (Or.inl ⟨by rfl, by intro W _; go_simp⟩) hS3 ?_
  simp only [Act.put, List.setIfInBounds_toArray, List.set_cons_zero, List.set_cons_succ]
  refine wpAnyH_takeD (i := 1) (v := .bool true) (some 7) rfl rfl (by kernel_rfl) (by kernel_rfl) (by kernel_rfl) (fun _ _ _ h => h) (Or.inl ⟨by rfl, by intro W _; go_simp⟩) hS3 ?_
  simp only [Act.put, List.setIfInBounds_toArray, List.set_cons_zero, List.set_cons_succ]
  refine wpAnyH_takeD (i := 2) (v := .bool true) (some 8) rfl rfl (by kernel_rfl) (by kernel_rfl) (by kernel_rfl) (fun _ _ _ h => h) (Or.inl ⟨by rfl, by intro W _; go_simp⟩) hS3 ?_
  simp only [Act.put, List.setIfInBounds_toArray, List.set_cons_zero, List.set_cons_succ]
  refine wpAnyH_takeD (i := 3) (v := .iface 67 (.agg #[.string a])) (some 9) rfl rfl (by kernel_rfl) (by kernel_rfl) (by kernel_rfl) (fun _ _ _ h => h) (Or.inl ⟨by rfl, by intro W _; go_simp⟩) hS3 ?_
  simp only [Act.put, List.setIfInBounds_toArray, List.set_cons_zero, List.set_cons_succ]
  refine wpAnyH_ready (rs := [4]) (by kernel_rfl) (by simp) ?_
  refine AllReadyH.cons rfl (fun K hK => ?_) AllReadyH.nil
  go_simp
  refine (right_1 a _ HAM.out).mono ?_
  rintro e w4 ⟨ur, rfl, htur, bw⟩
  have hb4 : Below w.heap.size w (w4) := hb3.trans (bw.mono hb3.size)
  have HM4 : Hid ((w3).heap.size ≤ (w4).heap.size) := bw.size
  have HBv1_4 : Hid ((w4).heap[qv1]? = some (.cells #[.int .i64 1, .string a, .string b, .int .i64 t] 25)) := blk_below HBv1_3.out bw
  clear hb3 HBv1_3 bw
  have hS4 : w4.heap[qv1]? = some (.cells #[.int .i64 1, .string a, .string b, .int .i64 t] 25) := HBv1_4.out
  refine hK.out _ _ hS4 (fun _ => ?_)
  clear hK K hS3
  refine wpAnyH_takeD (i := 5) (v := .bool ur) (some 11) rfl rfl (by kernel_rfl) (by kernel_rfl) (by kernel_rfl) (fun _ _ _ h => h) (Or.inl ⟨by rfl, by intro W _; go_simp⟩) hS4 ?_
  simp only [Act.put, List.setIfInBounds_toArray, List.set_cons_zero, List.set_cons_succ]
  refine wpAnyH_takeD (i := 6) (v := .bool ur) (some 12) rfl rfl (by kernel_rfl) (by kernel_rfl) (by kernel_rfl) (fun _ _ _ h => h) (Or.inl ⟨by rfl, by intro W _; go_simp⟩) hS4 ?_
  simp only [Act.put, List.setIfInBounds_toArray, List.set_cons_zero, List.set_cons_succ]
  cases ur with
  | false =>
    have Hur : Hid (¬ (PathOk a)) := fun h => nomatch htur.2 h
    clear htur
    refine wpAnyH_takeD (i := 7) (v := undef) (some 13) rfl rfl (by kernel_rfl) (by kernel_rfl) (by kernel_rfl) (fun _ _ _ h => h) (Or.inr ⟨by rfl, rfl⟩) hS4 ?_
    simp only [Act.put, List.setIfInBounds_toArray, List.set_cons_zero, List.set_cons_succ]
    refine wpAnyH_takeD (i := 8) (v := undef) (some 14) rfl rfl (by kernel_rfl) (by kernel_rfl) (by kernel_rfl) (fun _ _ _ h => h) (Or.inr ⟨by rfl, rfl⟩) hS4 ?_
    simp only [Act.put, List.setIfInBounds_toArray, List.set_cons_zero, List.set_cons_succ]
    refine wpAnyH_takeD (i := 9) (v := undef) (some 15) rfl rfl (by kernel_rfl) (by kernel_rfl) (by kernel_rfl) (fun _ _ _ h => h) (Or.inr ⟨by rfl, rfl⟩) hS4 ?_
    simp only [Act.put, List.setIfInBounds_toArray, List.set_cons_zero, List.set_cons_succ]
    refine wpAnyH_takeD (i := 10) (v := .bool false) (some 16) rfl rfl (by kernel_rfl) (by kernel_rfl) (by kernel_rfl) (fun _ _ _ h => h) (Or.inl ⟨by rfl, by intro W _; go_simp⟩) hS4 ?_
    simp only [Act.put, List.setIfInBounds_toArray, List.set_cons_zero, List.set_cons_succ]
    refine wpAnyH_takeD (i := 11) (v := .bool false) (some 17) rfl rfl (by kernel_rfl) (by kernel_rfl) (by kernel_rfl) (fun _ _ _ h => h) (Or.inl ⟨by rfl, by intro W _; go_simp⟩) hS4 ?_
    simp only [Act.put, List.setIfInBounds_toArray, List.set_cons_zero, List.set_cons_succ]
    refine wpAnyH_takeD (i := 12) (v := undef) (some 18) rfl rfl (by kernel_rfl) (by kernel_rfl) (by kernel_rfl) (fun _ _ _ h => h) (Or.inr ⟨by rfl, rfl⟩) hS4 ?_
    simp only [Act.put, List.setIfInBounds_toArray, List.set_cons_zero, List.set_cons_succ]
    refine wpAnyH_takeD (i := 13) (v := undef) (some 19) rfl rfl (by kernel_rfl) (by kernel_rfl) (by kernel_rfl) (fun _ _ _ h => h) (Or.inr ⟨by rfl, rfl⟩) hS4 ?_
    simp only [Act.put, List.setIfInBounds_toArray, List.set_cons_zero, List.set_cons_succ]
    refine wpAnyH_takeD (i := 14) (v := undef) (some 20) rfl rfl (by kernel_rfl) (by kernel_rfl) (by kernel_rfl) (fun _ _ _ h => h) (Or.inr ⟨by rfl, rfl⟩) hS4 ?_
    simp only [Act.put, List.setIfInBounds_toArray, List.set_cons_zero, List.set_cons_succ]
    refine wpAnyH_takeD (i := 15) (v := undef) (some 21) rfl rfl (by kernel_rfl) (by kernel_rfl) (by kernel_rfl) (fun _ _ _ h => h) (Or.inr ⟨by rfl, rfl⟩) hS4 ?_
    simp only [Act.put, List.setIfInBounds_toArray, List.set_cons_zero, List.set_cons_succ]
    refine wpAnyH_takeD (i := 16) (v := undef) (some 22) rfl rfl (by kernel_rfl) (by kernel_rfl) (by kernel_rfl) (fun _ _ _ h => h) (Or.inr ⟨by rfl, rfl⟩) hS4 ?_
    simp only [Act.put, List.setIfInBounds_toArray, List.set_cons_zero, List.set_cons_succ]
    refine wpAnyH_takeD (i := 17) (v := undef) (some 23) rfl rfl (by kernel_rfl) (by kernel_rfl) (by kernel_rfl) (fun _ _ _ h => h) (Or.inr ⟨by rfl, rfl⟩) hS4 ?_
    simp only [Act.put, List.setIfInBounds_toArray, List.set_cons_zero, List.set_cons_succ]
    refine wpAnyH_takeD (i := 18) (v := .bool false) (some 24) rfl rfl (by kernel_rfl) (by kernel_rfl) (by kernel_rfl) (fun _ _ _ h => h) (Or.inl ⟨by rfl, by intro W _; go_simp⟩) hS4 ?_
    simp only [Act.put, List.setIfInBounds_toArray, List.set_cons_zero, List.set_cons_succ]
    refine wpAnyH_takeD (i := 19) (v := .bool false) (some 2) rfl rfl (by kernel_rfl) (by kernel_rfl) (by kernel_rfl) (fun _ _ _ h => h) (Or.inl ⟨by rfl, by intro W _; go_simp⟩) hS4 ?_
    simp only [Act.put, List.setIfInBounds_toArray, List.set_cons_zero, List.set_cons_succ]
    clear hS4
    refine wpAnyH_done (by kernel_rfl) ?_ _
    go_wp2_with fail
    go_ret
    refine ⟨false, rfl, ?_, hb4⟩
    have zHur := Hur.out
    have zHB := HB0.out
    unfold BanP
    simp_all
  | true =>
    have Hur : Hid (PathOk a) := htur.1 rfl
    clear htur
    refine wpAnyH_takeD (i := 7) (v := .pointer (some ⟨qv1, 3, none⟩)) (some 13) rfl rfl (by kernel_rfl) (by kernel_rfl) (by kernel_rfl) (fun _ _ _ h => h) (Or.inl ⟨by rfl, by intro W _; go_simp⟩) hS4 ?_
    simp only [Act.put, List.setIfInBounds_toArray, List.set_cons_zero, List.set_cons_succ]
    refine wpAnyH_takeD (i := 8) (v := .int .i64 t) (some 14) rfl rfl (by kernel_rfl) (by kernel_rfl) (by kernel_rfl) (fun _ _ _ h => h) (Or.inl ⟨by rfl, by intro W hW; have hhv1 := hW; have y3 := (cell_of hhv1 3).trans rfl; go_simp⟩) hS4 ?_
    simp only [Act.put, List.setIfInBounds_toArray, List.set_cons_zero, List.set_cons_succ]
    refine wpAnyH_ready (rs := [9]) (by kernel_rfl) (by simp) ?_
    refine AllReadyH.cons rfl (fun K hK => ?_) AllReadyH.nil
    go_simp
    refine (timeOk_any t _).mono ?_
    rintro e w5 ⟨rfl, hwe⟩
    have bw : Below (w4).heap.size (w4) w5 := by rw [hwe]; exact Below.refl _ _
    clear hwe
    obtain ⟨ut, hut⟩ : ∃ u, u = decide ((0 : Int) ≤ t ∧ t ≤ 1000000) := ⟨_, rfl⟩
    rw [← hut]
    have hb5 : Below w.heap.size w (w5) := hb4.trans (bw.mono hb4.size)
    have HM5 : Hid ((w4).heap.size ≤ (w5).heap.size) := bw.size
    have HBv1_5 : Hid ((w5).heap[qv1]? = some (.cells #[.int .i64 1, .string a, .string b, .int .i64 t] 25)) := blk_below HBv1_4.out bw
    clear hb4 HBv1_4 bw
    have hS5 : w5.heap[qv1]? = some (.cells #[.int .i64 1, .string a, .string b, .int .i64 t] 25) := HBv1_5.out
    refine hK.out _ _ hS5 (fun _ => ?_)
    clear hK K hS4
    refine wpAnyH_takeD (i := 10) (v := .bool ut) (some 16) rfl rfl (by kernel_rfl) (by kernel_rfl) (by kernel_rfl) (fun _ _ _ h => h) (Or.inl ⟨by rfl, by intro W _; go_simp⟩) hS5 ?_
    simp only [Act.put, List.setIfInBounds_toArray, List.set_cons_zero, List.set_cons_succ]
    refine wpAnyH_takeD (i := 11) (v := .bool ut) (some 17) rfl rfl (by kernel_rfl) (by kernel_rfl) (by kernel_rfl) (fun _ _ _ h => h) (Or.inl ⟨by rfl, by intro W _; go_simp⟩) hS5 ?_
    simp only [Act.put, List.setIfInBounds_toArray, List.set_cons_zero, List.set_cons_succ]
    cases ut with
    | false =>
      have Hut : Hid (¬ (0 ≤ t ∧ t ≤ 1000000)) := (show ¬ (0 ≤ t ∧ t ≤ 1000000) from of_decide_eq_false hut.symm)
      clear hut
      refine wpAnyH_takeD (i := 12) (v := undef) (some 18) rfl rfl (by kernel_rfl) (by kernel_rfl) (by kernel_rfl) (fun _ _ _ h => h) (Or.inr ⟨by rfl, rfl⟩) hS5 ?_
      simp only [Act.put, List.setIfInBounds_toArray, List.set_cons_zero, List.set_cons_succ]
      refine wpAnyH_takeD (i := 13) (v := undef) (some 19) rfl rfl (by kernel_rfl) (by kernel_rfl) (by kernel_rfl) (fun _ _ _ h => h) (Or.inr ⟨by rfl, rfl⟩) hS5 ?_
      simp only [Act.put, List.setIfInBounds_toArray, List.set_cons_zero, List.set_cons_succ]
      refine wpAnyH_takeD (i := 14) (v := undef) (some 20) rfl rfl (by kernel_rfl) (by kernel_rfl) (by kernel_rfl) (fun _ _ _ h => h) (Or.inr ⟨by rfl, rfl⟩) hS5 ?_
      simp only [Act.put, List.setIfInBounds_toArray, List.set_cons_zero, List.set_cons_succ]
      refine wpAnyH_takeD (i := 15) (v := undef) (some 21) rfl rfl (by kernel_rfl) (by kernel_rfl) (by kernel_rfl) (fun _ _ _ h => h) (Or.inr ⟨by rfl, rfl⟩) hS5 ?_
      simp only [Act.put, List.setIfInBounds_toArray, List.set_cons_zero, List.set_cons_succ]
      refine wpAnyH_takeD (i := 16) (v := undef) (some 22) rfl rfl (by kernel_rfl) (by kernel_rfl) (by kernel_rfl) (fun _ _ _ h => h) (Or.inr ⟨by rfl, rfl⟩) hS5 ?_
      simp only [Act.put, List.setIfInBounds_toArray, List.set_cons_zero, List.set_cons_succ]
      refine wpAnyH_takeD (i := 17) (v := undef) (some 23) rfl rfl (by kernel_rfl) (by kernel_rfl) (by kernel_rfl) (fun _ _ _ h => h) (Or.inr ⟨by rfl, rfl⟩) hS5 ?_
      simp only [Act.put, List.setIfInBounds_toArray, List.set_cons_zero, List.set_cons_succ]
      refine wpAnyH_takeD (i := 18) (v := .bool false) (some 24) rfl rfl (by kernel_rfl) (by kernel_rfl) (by kernel_rfl) (fun _ _ _ h => h) (Or.inl ⟨by rfl, by intro W _; go_simp⟩) hS5 ?_
      simp only [Act.put, List.setIfInBounds_toArray, List.set_cons_zero, List.set_cons_succ]
      refine wpAnyH_takeD (i := 19) (v := .bool false) (some 2) rfl rfl (by kernel_rfl) (by kernel_rfl) (by kernel_rfl) (fun _ _ _ h => h) (Or.inl ⟨by rfl, by intro W _; go_simp⟩) hS5 ?_
      simp only [Act.put, List.setIfInBounds_toArray, List.set_cons_zero, List.set_cons_succ]
      clear hS5
      refine wpAnyH_done (by kernel_rfl) ?_ _
      go_wp2_with fail
      go_ret
      refine ⟨false, rfl, ?_, hb5⟩
      have zHur := Hur.out
      have zHut := Hut.out
      have zHB := HB0.out
      unfold BanP
      simp_all
    | true =>
      have Hut : Hid (0 ≤ t ∧ t ≤ 1000000) := (show 0 ≤ t ∧ t ≤ 1000000 from of_decide_eq_true hut.symm)
      clear hut
      refine wpAnyH_takeD (i := 12) (v := .iface 67 (.agg #[.string a])) (some 18) rfl rfl (by kernel_rfl) (by kernel_rfl) (by kernel_rfl) (fun _ _ _ h => h) (Or.inl ⟨by rfl, by intro W _; go_simp⟩) hS5 ?_
      simp only [Act.put, List.setIfInBounds_toArray, List.set_cons_zero, List.set_cons_succ]
      refine wpAnyH_takeD (i := 13) (v := .pointer (some ⟨qv1, 3, none⟩)) (some 19) rfl rfl (by kernel_rfl) (by kernel_rfl) (by kernel_rfl) (fun _ _ _ h => h) (Or.inl ⟨by rfl, by intro W _; go_simp⟩) hS5 ?_
      simp only [Act.put, List.setIfInBounds_toArray, List.set_cons_zero, List.set_cons_succ]
      refine wpAnyH_takeD (i := 14) (v := .int .i64 t) (some 20) rfl rfl (by kernel_rfl) (by kernel_rfl) (by kernel_rfl) (fun _ _ _ h => h) (Or.inl ⟨by rfl, by intro W hW; have hhv1 := hW; have y3 := (cell_of hhv1 3).trans rfl; go_simp⟩) hS5 ?_
      simp only [Act.put, List.setIfInBounds_toArray, List.set_cons_zero, List.set_cons_succ]
      refine wpAnyH_takeD (i := 16) (v := .agg #[.int .i64 1, .string a, .string b, .int .i64 t]) (some 22) rfl rfl (by kernel_rfl) (by kernel_rfl) (by kernel_rfl) (fun _ _ _ h => h) (Or.inl ⟨by rfl, by intro W hW; have hhv1 := hW; have y0 := (cell_of hhv1 0).trans rfl; have y1 := (cell_of hhv1 1).trans rfl; have y2 := (cell_of hhv1 2).trans rfl; have y3 := (cell_of hhv1 3).trans rfl; go_simp⟩) hS5 ?_
      simp only [Act.put, List.setIfInBounds_toArray, List.set_cons_zero, List.set_cons_succ]
      refine wpAnyH_ready (rs := [15]) (by kernel_rfl) (by simp) ?_
      refine AllReadyH.cons rfl (fun K hK => ?_) AllReadyH.nil
      go_simp
      refine (banOf_1 a t _).mono ?_
      rintro e w6 ⟨rfl, bw⟩
      have hb6 : Below w.heap.size w (w6) := hb5.trans (bw.mono hb5.size)
      have HM6 : Hid ((w5).heap.size ≤ (w6).heap.size) := bw.size
      have HBv1_6 : Hid ((w6).heap[qv1]? = some (.cells #[.int .i64 1, .string a, .string b, .int .i64 t] 25)) := blk_below HBv1_5.out bw
      clear hb5 HBv1_5 bw
      have hS6 : w6.heap[qv1]? = some (.cells #[.int .i64 1, .string a, .string b, .int .i64 t] 25) := HBv1_6.out
      refine hK.out _ _ hS6 (fun _ => ?_)
      clear hK K hS5
      refine wpAnyH_takeD (i := 17) (v := .bool false) (some 23) rfl rfl (by kernel_rfl) (by kernel_rfl) (by kernel_rfl) (fun _ _ _ h => h) (Or.inl ⟨by rfl, by intro W _; go_simp⟩) hS6 ?_
      simp only [Act.put, List.setIfInBounds_toArray, List.set_cons_zero, List.set_cons_succ]
      refine wpAnyH_takeD (i := 18) (v := .bool false) (some 24) rfl rfl (by kernel_rfl) (by kernel_rfl) (by kernel_rfl) (fun _ _ _ h => h) (Or.inl ⟨by rfl, by intro W _; go_simp⟩) hS6 ?_
      simp only [Act.put, List.setIfInBounds_toArray, List.set_cons_zero, List.set_cons_succ]
      refine wpAnyH_takeD (i := 19) (v := .bool false) (some 2) rfl rfl (by kernel_rfl) (by kernel_rfl) (by kernel_rfl) (fun _ _ _ h => h) (Or.inl ⟨by rfl, by intro W _; go_simp⟩) hS6 ?_
      simp only [Act.put, List.setIfInBounds_toArray, List.set_cons_zero, List.set_cons_succ]
      clear hS6
      refine wpAnyH_done (by kernel_rfl) ?_ _
      go_wp2_with fail
      go_ret
      refine ⟨false, rfl, ?_, hb6⟩
      have zHur := Hur.out
      have zHut := Hut.out
      have zHB := HB0.out
      unfold BanP
      simp_all

set_option maxHeartbeats 8000000 in
set_option maxRecDepth 100000 in
theorem implBanOk_2e (a : ByteArray) (t : Int) (w : World) (ha : a.size ≤ maxLen) :
    Calls Tryd.prog 10 #[.agg #[.int .i64 2, .string a, .string ⟨#[]⟩, .int .i64 t]] w fun e w' => BoolIs (BanP 2 a ⟨#[]⟩ t) w e w' := by
  classical
  have HAM : Hid (a.size ≤ maxLen) := ha
  have hnn : ∀ W : World, (binOp .neq 44 (.iface 69 (.agg #[.string a])) .nilIface).run Tryd.prog W = .ok (.bool true) W := fun _ => by kernel_rfl
  have hna : ∀ W : World, (nilAhead 157 69 (.agg #[.string a]) "loop.example/g00239/impl.right").run Tryd.prog W = .ok (some false) W := fun _ => by kernel_rfl
  have hmt : ∀ W : World, (method 157 69 (.agg #[.string a]) "loop.example/g00239/impl.right").run Tryd.prog W = .ok (106, .agg #[.string a]) W := fun _ => by kernel_rfl
  have hgb := guardBan
  have hqe : ∀ W : World, (binOp .eql 25 (.agg #[.int .i64 2, .string a, .string ⟨#[]⟩, .int .i64 t]) (.agg #[.int .i64 2, .string a, .string ⟨#[]⟩, .int .i64 t])).run Tryd.prog W = .ok (.bool true) W := fun W => by
    rw [eqlBan]
    first | (simp; done) | (have z := HB0.out; simp; exact fun e => z e.symm)
  clear ha
  have hb0 : Below w.heap.size w w := Below.refl _ _
  go_enter Tryd.func10, Tryd.ntmps10
  go_upto_region 1 with fail
  obtain ⟨qv1, hqv1⟩ : ∃ q, q = (w).heap.size := ⟨_, rfl⟩
  obtain ⟨w1, hW1⟩ : ∃ W, W = (w).alloc (.cells #[.int .i64 2, .string a, .string ⟨#[]⟩, .int .i64 t] 25) := ⟨_, rfl⟩
  have hz1 : (w).heap.size = qv1 := hqv1.symm
  first | rw [← hW1, ← hqv1] | rw [← hW1]
  have hs1 : w1.heap.size = qv1 + 1 := by rw [hW1, ← hz1]; simp
  have bw : Below (w).heap.size (w) w1 := by rw [hW1]; exact (Below.refl _ _).alloc (Nat.le_refl _) _
  have hb1 : Below w.heap.size w (w1) := hb0.trans (bw.mono hb0.size)
  have HM1 : Hid ((w).heap.size ≤ (w1).heap.size) := bw.size
  have HBv1_1 : Hid ((w1).heap[qv1]? = some (.cells #[.int .i64 2, .string a, .string ⟨#[]⟩, .int .i64 t] 25)) := by show _ = _; rw [hW1, ← hz1]; exact heap_alloc_new _ _
  have HGv1 : Hid (w.heap.size ≤ qv1) := by show _ ≤ _; rw [← hz1]; exact hb0.size
  clear hb0 bw hW1 hz1
  clear hs1 hqv1
  have cv1_0 : (w1).cell? ⟨qv1, 0, none⟩ = some (.int .i64 2) := (cell_of HBv1_1.out 0).trans rfl
  have cv1_1 : (w1).cell? ⟨qv1, 1, none⟩ = some (.string a) := (cell_of HBv1_1.out 1).trans rfl
  have cv1_2 : (w1).cell? ⟨qv1, 2, none⟩ = some (.string ⟨#[]⟩) := (cell_of HBv1_1.out 2).trans rfl
  have cv1_3 : (w1).cell? ⟨qv1, 3, none⟩ = some (.int .i64 t) := (cell_of HBv1_1.out 3).trans rfl
  go_wp2_with fail
  refine (ruleOf_2 a ⟨#[]⟩ t _).mono ?_
  rintro e w2 ⟨rfl, bw⟩
  have hb2 : Below w.heap.size w (w2) := hb1.trans (bw.mono hb1.size)
  have HM2 : Hid ((w1).heap.size ≤ (w2).heap.size) := bw.size
  have HBv1_2 : Hid ((w2).heap[qv1]? = some (.cells #[.int .i64 2, .string a, .string ⟨#[]⟩, .int .i64 t] 25)) := blk_below HBv1_1.out bw
  clear hb1 HBv1_1 bw
  clear cv1_0 cv1_1 cv1_2 cv1_3
  go_upto_region 2 with fail
  refine wp_region_held_drew (S := fun W => W.heap[qv1]? = some (.cells #[.int .i64 2, .string a, .string ⟨#[]⟩, .int .i64 t] 25)) (by kernel_rfl) HBv1_2.out (fun _ => ?_)
  obtain ⟨w3, hX⟩ : ∃ X, X = w2.drew := ⟨_, rfl⟩
  have bw : Below w2.heap.size w2 w3 := by rw [hX]; exact (Below.refl _ _).drew
  rw [← hX]
  have hb3 : Below w.heap.size w (w3) := hb2.trans (bw.mono hb2.size)
  have HM3 : Hid ((w2).heap.size ≤ (w3).heap.size) := bw.size
  have HBv1_3 : Hid ((w3).heap[qv1]? = some (.cells #[.int .i64 2, .string a, .string ⟨#[]⟩, .int .i64 t] 25)) := blk_below HBv1_2.out bw
  have hS3 : w3.heap[qv1]? = some (.cells #[.int .i64 2, .string a, .string ⟨#[]⟩, .int .i64 t] 25) := HBv1_3.out
  clear hb2 HBv1_2 bw hX
  refine wpAnyH_takeD (i := 0) (v := .iface 69 (.agg #[.string a])) (some 6) rfl rfl (by kernel_rfl) (by kernel_rfl) (by kernel_rfl) (fun _ _ _ h => h) (Or.inl ⟨by rfl, by intro W _; go_simp⟩) hS3 ?_
  simp only [Act.put, List.setIfInBounds_toArray, List.set_cons_zero, List.set_cons_succ]
  refine wpAnyH_takeD (i := 1) (v := .bool true) (some 7) rfl rfl (by kernel_rfl) (by kernel_rfl) (by kernel_rfl) (fun _ _ _ h => h) (Or.inl ⟨by rfl, by intro W _; go_simp⟩) hS3 ?_
  simp only [Act.put, List.setIfInBounds_toArray, List.set_cons_zero, List.set_cons_succ]
  refine wpAnyH_takeD (i := 2) (v := .bool true) (some 8) rfl rfl (by kernel_rfl) (by kernel_rfl) (by kernel_rfl) (fun _ _ _ h => h) (Or.inl ⟨by rfl, by intro W _; go_simp⟩) hS3 ?_
  simp only [Act.put, List.setIfInBounds_toArray, List.set_cons_zero, List.set_cons_succ]
  refine wpAnyH_takeD (i := 3) (v := .iface 69 (.agg #[.string a])) (some 9) rfl rfl (by kernel_rfl) (by kernel_rfl) (by kernel_rfl) (fun _ _ _ h => h) (Or.inl ⟨by rfl, by intro W _; go_simp⟩) hS3 ?_
  simp only [Act.put, List.setIfInBounds_toArray, List.set_cons_zero, List.set_cons_succ]
  refine wpAnyH_ready (rs := [4]) (by kernel_rfl) (by simp) ?_
  refine AllReadyH.cons rfl (fun K hK => ?_) AllReadyH.nil
  go_simp
  refine (right_2 a _ HAM.out).mono ?_
  rintro e w4 ⟨ur, rfl, htur, bw⟩
  have hb4 : Below w.heap.size w (w4) := hb3.trans (bw.mono hb3.size)
  have HM4 : Hid ((w3).heap.size ≤ (w4).heap.size) := bw.size
  have HBv1_4 : Hid ((w4).heap[qv1]? = some (.cells #[.int .i64 2, .string a, .string ⟨#[]⟩, .int .i64 t] 25)) := blk_below HBv1_3.out bw
  clear hb3 HBv1_3 bw
  have hS4 : w4.heap[qv1]? = some (.cells #[.int .i64 2, .string a, .string ⟨#[]⟩, .int .i64 t] 25) := HBv1_4.out
  refine hK.out _ _ hS4 (fun _ => ?_)
  clear hK K hS3
  refine wpAnyH_takeD (i := 5) (v := .bool ur) (some 11) rfl rfl (by kernel_rfl) (by kernel_rfl) (by kernel_rfl) (fun _ _ _ h => h) (Or.inl ⟨by rfl, by intro W _; go_simp⟩) hS4 ?_
  simp only [Act.put, List.setIfInBounds_toArray, List.set_cons_zero, List.set_cons_succ]
  refine wpAnyH_takeD (i := 6) (v := .bool ur) (some 12) rfl rfl (by kernel_rfl) (by kernel_rfl) (by kernel_rfl) (fun _ _ _ h => h) (Or.inl ⟨by rfl, by intro W _; go_simp⟩) hS4 ?_
  simp only [Act.put, List.setIfInBounds_toArray, List.set_cons_zero, List.set_cons_succ]
  cases ur with
  | false =>
    have Hur : Hid (¬ (PathOk a)) := fun h => nomatch htur.2 h
    clear htur
    refine wpAnyH_takeD (i := 7) (v := undef) (some 13) rfl rfl (by kernel_rfl) (by kernel_rfl) (by kernel_rfl) (fun _ _ _ h => h) (Or.inr ⟨by rfl, rfl⟩) hS4 ?_
    simp only [Act.put, List.setIfInBounds_toArray, List.set_cons_zero, List.set_cons_succ]
    refine wpAnyH_takeD (i := 8) (v := undef) (some 14) rfl rfl (by kernel_rfl) (by kernel_rfl) (by kernel_rfl) (fun _ _ _ h => h) (Or.inr ⟨by rfl, rfl⟩) hS4 ?_
    simp only [Act.put, List.setIfInBounds_toArray, List.set_cons_zero, List.set_cons_succ]
    refine wpAnyH_takeD (i := 9) (v := undef) (some 15) rfl rfl (by kernel_rfl) (by kernel_rfl) (by kernel_rfl) (fun _ _ _ h => h) (Or.inr ⟨by rfl, rfl⟩) hS4 ?_
    simp only [Act.put, List.setIfInBounds_toArray, List.set_cons_zero, List.set_cons_succ]
    refine wpAnyH_takeD (i := 10) (v := .bool false) (some 16) rfl rfl (by kernel_rfl) (by kernel_rfl) (by kernel_rfl) (fun _ _ _ h => h) (Or.inl ⟨by rfl, by intro W _; go_simp⟩) hS4 ?_
    simp only [Act.put, List.setIfInBounds_toArray, List.set_cons_zero, List.set_cons_succ]
    refine wpAnyH_takeD (i := 11) (v := .bool false) (some 17) rfl rfl (by kernel_rfl) (by kernel_rfl) (by kernel_rfl) (fun _ _ _ h => h) (Or.inl ⟨by rfl, by intro W _; go_simp⟩) hS4 ?_
    simp only [Act.put, List.setIfInBounds_toArray, List.set_cons_zero, List.set_cons_succ]
    refine wpAnyH_takeD (i := 12) (v := undef) (some 18) rfl rfl (by kernel_rfl) (by kernel_rfl) (by kernel_rfl) (fun _ _ _ h => h) (Or.inr ⟨by rfl, rfl⟩) hS4 ?_
    simp only [Act.put, List.setIfInBounds_toArray, List.set_cons_zero, List.set_cons_succ]
    refine wpAnyH_takeD (i := 13) (v := undef) (some 19) rfl rfl (by kernel_rfl) (by kernel_rfl) (by kernel_rfl) (fun _ _ _ h => h) (Or.inr ⟨by rfl, rfl⟩) hS4 ?_
    simp only [Act.put, List.setIfInBounds_toArray, List.set_cons_zero, List.set_cons_succ]
    refine wpAnyH_takeD (i := 14) (v := undef) (some 20) rfl rfl (by kernel_rfl) (by kernel_rfl) (by kernel_rfl) (fun _ _ _ h => h) (Or.inr ⟨by rfl, rfl⟩) hS4 ?_
    simp only [Act.put, List.setIfInBounds_toArray, List.set_cons_zero, List.set_cons_succ]
    refine wpAnyH_takeD (i := 15) (v := undef) (some 21) rfl rfl (by kernel_rfl) (by kernel_rfl) (by kernel_rfl) (fun _ _ _ h => h) (Or.inr ⟨by rfl, rfl⟩) hS4 ?_
    simp only [Act.put, List.setIfInBounds_toArray, List.set_cons_zero, List.set_cons_succ]
    refine wpAnyH_takeD (i := 16) (v := undef) (some 22) rfl rfl (by kernel_rfl) (by kernel_rfl) (by kernel_rfl) (fun _ _ _ h => h) (Or.inr ⟨by rfl, rfl⟩) hS4 ?_
    simp only [Act.put, List.setIfInBounds_toArray, List.set_cons_zero, List.set_cons_succ]
    refine wpAnyH_takeD (i := 17) (v := undef) (some 23) rfl rfl (by kernel_rfl) (by kernel_rfl) (by kernel_rfl) (fun _ _ _ h => h) (Or.inr ⟨by rfl, rfl⟩) hS4 ?_
    simp only [Act.put, List.setIfInBounds_toArray, List.set_cons_zero, List.set_cons_succ]
    refine wpAnyH_takeD (i := 18) (v := .bool false) (some 24) rfl rfl (by kernel_rfl) (by kernel_rfl) (by kernel_rfl) (fun _ _ _ h => h) (Or.inl ⟨by rfl, by intro W _; go_simp⟩) hS4 ?_
    simp only [Act.put, List.setIfInBounds_toArray, List.set_cons_zero, List.set_cons_succ]
    refine wpAnyH_takeD (i := 19) (v := .bool false) (some 2) rfl rfl (by kernel_rfl) (by kernel_rfl) (by kernel_rfl) (fun _ _ _ h => h) (Or.inl ⟨by rfl, by intro W _; go_simp⟩) hS4 ?_
    simp only [Act.put, List.setIfInBounds_toArray, List.set_cons_zero, List.set_cons_succ]
    clear hS4
    refine wpAnyH_done (by kernel_rfl) ?_ _
    go_wp2_with fail
    go_ret
    refine ⟨false, rfl, ?_, hb4⟩
    have zHur := Hur.out
    unfold BanP
    simp_all
  | true =>
    have Hur : Hid (PathOk a) := htur.1 rfl
    clear htur
    refine wpAnyH_takeD (i := 7) (v := .pointer (some ⟨qv1, 3, none⟩)) (some 13) rfl rfl (by kernel_rfl) (by kernel_rfl) (by kernel_rfl) (fun _ _ _ h => h) (Or.inl ⟨by rfl, by intro W _; go_simp⟩) hS4 ?_
    simp only [Act.put, List.setIfInBounds_toArray, List.set_cons_zero, List.set_cons_succ]
    refine wpAnyH_takeD (i := 8) (v := .int .i64 t) (some 14) rfl rfl (by kernel_rfl) (by kernel_rfl) (by kernel_rfl) (fun _ _ _ h => h) (Or.inl ⟨by rfl, by intro W hW; have hhv1 := hW; have y3 := (cell_of hhv1 3).trans rfl; go_simp⟩) hS4 ?_
    simp only [Act.put, List.setIfInBounds_toArray, List.set_cons_zero, List.set_cons_succ]
    refine wpAnyH_ready (rs := [9]) (by kernel_rfl) (by simp) ?_
    refine AllReadyH.cons rfl (fun K hK => ?_) AllReadyH.nil
    go_simp
    refine (timeOk_any t _).mono ?_
    rintro e w5 ⟨rfl, hwe⟩
    have bw : Below (w4).heap.size (w4) w5 := by rw [hwe]; exact Below.refl _ _
    clear hwe
    obtain ⟨ut, hut⟩ : ∃ u, u = decide ((0 : Int) ≤ t ∧ t ≤ 1000000) := ⟨_, rfl⟩
    rw [← hut]
    have hb5 : Below w.heap.size w (w5) := hb4.trans (bw.mono hb4.size)
    have HM5 : Hid ((w4).heap.size ≤ (w5).heap.size) := bw.size
    have HBv1_5 : Hid ((w5).heap[qv1]? = some (.cells #[.int .i64 2, .string a, .string ⟨#[]⟩, .int .i64 t] 25)) := blk_below HBv1_4.out bw
    clear hb4 HBv1_4 bw
    have hS5 : w5.heap[qv1]? = some (.cells #[.int .i64 2, .string a, .string ⟨#[]⟩, .int .i64 t] 25) := HBv1_5.out
    refine hK.out _ _ hS5 (fun _ => ?_)
    clear hK K hS4
    refine wpAnyH_takeD (i := 10) (v := .bool ut) (some 16) rfl rfl (by kernel_rfl) (by kernel_rfl) (by kernel_rfl) (fun _ _ _ h => h) (Or.inl ⟨by rfl, by intro W _; go_simp⟩) hS5 ?_
    simp only [Act.put, List.setIfInBounds_toArray, List.set_cons_zero, List.set_cons_succ]
    refine wpAnyH_takeD (i := 11) (v := .bool ut) (some 17) rfl rfl (by kernel_rfl) (by kernel_rfl) (by kernel_rfl) (fun _ _ _ h => h) (Or.inl ⟨by rfl, by intro W _; go_simp⟩) hS5 ?_
    simp only [Act.put, List.setIfInBounds_toArray, List.set_cons_zero, List.set_cons_succ]
    cases ut with
    | false =>
      have Hut : Hid (¬ (0 ≤ t ∧ t ≤ 1000000)) := (show ¬ (0 ≤ t ∧ t ≤ 1000000) from of_decide_eq_false hut.symm)
      clear hut
      refine wpAnyH_takeD (i := 12) (v := undef) (some 18) rfl rfl (by kernel_rfl) (by kernel_rfl) (by kernel_rfl) (fun _ _ _ h => h) (Or.inr ⟨by rfl, rfl⟩) hS5 ?_
      simp only [Act.put, List.setIfInBounds_toArray, List.set_cons_zero, List.set_cons_succ]
      refine wpAnyH_takeD (i := 13) (v := undef) (some 19) rfl rfl (by kernel_rfl) (by kernel_rfl) (by kernel_rfl) (fun _ _ _ h => h) (Or.inr ⟨by rfl, rfl⟩) hS5 ?_
      simp only [Act.put, List.setIfInBounds_toArray, List.set_cons_zero, List.set_cons_succ]
      refine wpAnyH_takeD (i := 14) (v := undef) (some 20) rfl rfl (by kernel_rfl) (by kernel_rfl) (by kernel_rfl) (fun _ _ _ h => h) (Or.inr ⟨by rfl, rfl⟩) hS5 ?_
      simp only [Act.put, List.setIfInBounds_toArray, List.set_cons_zero, List.set_cons_succ]
      refine wpAnyH_takeD (i := 15) (v := undef) (some 21) rfl rfl (by kernel_rfl) (by kernel_rfl) (by kernel_rfl) (fun _ _ _ h => h) (Or.inr ⟨by rfl, rfl⟩) hS5 ?_
      simp only [Act.put, List.setIfInBounds_toArray, List.set_cons_zero, List.set_cons_succ]
      refine wpAnyH_takeD (i := 16) (v := undef) (some 22) rfl rfl (by kernel_rfl) (by kernel_rfl) (by kernel_rfl) (fun _ _ _ h => h) (Or.inr ⟨by rfl, rfl⟩) hS5 ?_
      simp only [Act.put, List.setIfInBounds_toArray, List.set_cons_zero, List.set_cons_succ]
      refine wpAnyH_takeD (i := 17) (v := undef) (some 23) rfl rfl (by kernel_rfl) (by kernel_rfl) (by kernel_rfl) (fun _ _ _ h => h) (Or.inr ⟨by rfl, rfl⟩) hS5 ?_
      simp only [Act.put, List.setIfInBounds_toArray, List.set_cons_zero, List.set_cons_succ]
      refine wpAnyH_takeD (i := 18) (v := .bool false) (some 24) rfl rfl (by kernel_rfl) (by kernel_rfl) (by kernel_rfl) (fun _ _ _ h => h) (Or.inl ⟨by rfl, by intro W _; go_simp⟩) hS5 ?_
      simp only [Act.put, List.setIfInBounds_toArray, List.set_cons_zero, List.set_cons_succ]
      refine wpAnyH_takeD (i := 19) (v := .bool false) (some 2) rfl rfl (by kernel_rfl) (by kernel_rfl) (by kernel_rfl) (fun _ _ _ h => h) (Or.inl ⟨by rfl, by intro W _; go_simp⟩) hS5 ?_
      simp only [Act.put, List.setIfInBounds_toArray, List.set_cons_zero, List.set_cons_succ]
      clear hS5
      refine wpAnyH_done (by kernel_rfl) ?_ _
      go_wp2_with fail
      go_ret
      refine ⟨false, rfl, ?_, hb5⟩
      have zHur := Hur.out
      have zHut := Hut.out
      unfold BanP
      simp_all
    | true =>
      have Hut : Hid (0 ≤ t ∧ t ≤ 1000000) := (show 0 ≤ t ∧ t ≤ 1000000 from of_decide_eq_true hut.symm)
      clear hut
      refine wpAnyH_takeD (i := 12) (v := .iface 69 (.agg #[.string a])) (some 18) rfl rfl (by kernel_rfl) (by kernel_rfl) (by kernel_rfl) (fun _ _ _ h => h) (Or.inl ⟨by rfl, by intro W _; go_simp⟩) hS5 ?_
      simp only [Act.put, List.setIfInBounds_toArray, List.set_cons_zero, List.set_cons_succ]
      refine wpAnyH_takeD (i := 13) (v := .pointer (some ⟨qv1, 3, none⟩)) (some 19) rfl rfl (by kernel_rfl) (by kernel_rfl) (by kernel_rfl) (fun _ _ _ h => h) (Or.inl ⟨by rfl, by intro W _; go_simp⟩) hS5 ?_
      simp only [Act.put, List.setIfInBounds_toArray, List.set_cons_zero, List.set_cons_succ]
      refine wpAnyH_takeD (i := 14) (v := .int .i64 t) (some 20) rfl rfl (by kernel_rfl) (by kernel_rfl) (by kernel_rfl) (fun _ _ _ h => h) (Or.inl ⟨by rfl, by intro W hW; have hhv1 := hW; have y3 := (cell_of hhv1 3).trans rfl; go_simp⟩) hS5 ?_
      simp only [Act.put, List.setIfInBounds_toArray, List.set_cons_zero, List.set_cons_succ]
      refine wpAnyH_takeD (i := 16) (v := .agg #[.int .i64 2, .string a, .string ⟨#[]⟩, .int .i64 t]) (some 22) rfl rfl (by kernel_rfl) (by kernel_rfl) (by kernel_rfl) (fun _ _ _ h => h) (Or.inl ⟨by rfl, by intro W hW; have hhv1 := hW; have y0 := (cell_of hhv1 0).trans rfl; have y1 := (cell_of hhv1 1).trans rfl; have y2 := (cell_of hhv1 2).trans rfl; have y3 := (cell_of hhv1 3).trans rfl; go_simp⟩) hS5 ?_
      simp only [Act.put, List.setIfInBounds_toArray, List.set_cons_zero, List.set_cons_succ]
      refine wpAnyH_ready (rs := [15]) (by kernel_rfl) (by simp) ?_
      refine AllReadyH.cons rfl (fun K hK => ?_) AllReadyH.nil
      go_simp
      refine (banOf_2 a t _).mono ?_
      rintro e w6 ⟨rfl, bw⟩
      have hb6 : Below w.heap.size w (w6) := hb5.trans (bw.mono hb5.size)
      have HM6 : Hid ((w5).heap.size ≤ (w6).heap.size) := bw.size
      have HBv1_6 : Hid ((w6).heap[qv1]? = some (.cells #[.int .i64 2, .string a, .string ⟨#[]⟩, .int .i64 t] 25)) := blk_below HBv1_5.out bw
      clear hb5 HBv1_5 bw
      have hS6 : w6.heap[qv1]? = some (.cells #[.int .i64 2, .string a, .string ⟨#[]⟩, .int .i64 t] 25) := HBv1_6.out
      refine hK.out _ _ hS6 (fun _ => ?_)
      clear hK K hS5
      refine wpAnyH_takeD (i := 17) (v := .bool true) (some 23) rfl rfl (by kernel_rfl) (by kernel_rfl) (by kernel_rfl) (fun _ _ _ h => h) (Or.inl ⟨by rfl, by intro W _; go_simp⟩) hS6 ?_
      simp only [Act.put, List.setIfInBounds_toArray, List.set_cons_zero, List.set_cons_succ]
      refine wpAnyH_takeD (i := 18) (v := .bool true) (some 24) rfl rfl (by kernel_rfl) (by kernel_rfl) (by kernel_rfl) (fun _ _ _ h => h) (Or.inl ⟨by rfl, by intro W _; go_simp⟩) hS6 ?_
      simp only [Act.put, List.setIfInBounds_toArray, List.set_cons_zero, List.set_cons_succ]
      refine wpAnyH_takeD (i := 19) (v := .bool true) (some 2) rfl rfl (by kernel_rfl) (by kernel_rfl) (by kernel_rfl) (fun _ _ _ h => h) (Or.inl ⟨by rfl, by intro W _; go_simp⟩) hS6 ?_
      simp only [Act.put, List.setIfInBounds_toArray, List.set_cons_zero, List.set_cons_succ]
      clear hS6
      refine wpAnyH_done (by kernel_rfl) ?_ _
      go_wp2_with fail
      go_ret
      refine ⟨true, rfl, ?_, hb6⟩
      have zHur := Hur.out
      have zHut := Hut.out
      unfold BanP
      simp_all

set_option maxHeartbeats 8000000 in
set_option maxRecDepth 100000 in
theorem implBanOk_2n (a b : ByteArray) (t : Int) (w : World) (ha : a.size ≤ maxLen) (hb0 : ¬ b = ⟨#[]⟩) :
    Calls Tryd.prog 10 #[.agg #[.int .i64 2, .string a, .string b, .int .i64 t]] w fun e w' => BoolIs (BanP 2 a b t) w e w' := by
  classical
  have HAM : Hid (a.size ≤ maxLen) := ha
  have HB0 : Hid (¬ b = ⟨#[]⟩) := hb0
  have hnn : ∀ W : World, (binOp .neq 44 (.iface 69 (.agg #[.string a])) .nilIface).run Tryd.prog W = .ok (.bool true) W := fun _ => by kernel_rfl
  have hna : ∀ W : World, (nilAhead 157 69 (.agg #[.string a]) "loop.example/g00239/impl.right").run Tryd.prog W = .ok (some false) W := fun _ => by kernel_rfl
  have hmt : ∀ W : World, (method 157 69 (.agg #[.string a]) "loop.example/g00239/impl.right").run Tryd.prog W = .ok (106, .agg #[.string a]) W := fun _ => by kernel_rfl
  have hgb := guardBan
  have hqe : ∀ W : World, (binOp .eql 25 (.agg #[.int .i64 2, .string a, .string ⟨#[]⟩, .int .i64 t]) (.agg #[.int .i64 2, .string a, .string b, .int .i64 t])).run Tryd.prog W = .ok (.bool false) W := fun W => by
    rw [eqlBan]
    first | (simp; done) | (have z := HB0.out; simp; exact fun e => z e.symm)
  clear ha hb0
  have hb0 : Below w.heap.size w w := Below.refl _ _
  go_enter Tryd.func10, Tryd.ntmps10
  go_upto_region 1 with fail
  obtain ⟨qv1, hqv1⟩ : ∃ q, q = (w).heap.size := ⟨_, rfl⟩
  obtain ⟨w1, hW1⟩ : ∃ W, W = (w).alloc (.cells #[.int .i64 2, .string a, .string b, .int .i64 t] 25) := ⟨_, rfl⟩
  have hz1 : (w).heap.size = qv1 := hqv1.symm
  first | rw [← hW1, ← hqv1] | rw [← hW1]
  have hs1 : w1.heap.size = qv1 + 1 := by rw [hW1, ← hz1]; simp
  have bw : Below (w).heap.size (w) w1 := by rw [hW1]; exact (Below.refl _ _).alloc (Nat.le_refl _) _
  have hb1 : Below w.heap.size w (w1) := hb0.trans (bw.mono hb0.size)
  have HM1 : Hid ((w).heap.size ≤ (w1).heap.size) := bw.size
  have HBv1_1 : Hid ((w1).heap[qv1]? = some (.cells #[.int .i64 2, .string a, .string b, .int .i64 t] 25)) := by show _ = _; rw [hW1, ← hz1]; exact heap_alloc_new _ _
  have HGv1 : Hid (w.heap.size ≤ qv1) := by show _ ≤ _; rw [← hz1]; exact hb0.size
  clear hb0 bw hW1 hz1
  clear hs1 hqv1
  have cv1_0 : (w1).cell? ⟨qv1, 0, none⟩ = some (.int .i64 2) := (cell_of HBv1_1.out 0).trans rfl
  have cv1_1 : (w1).cell? ⟨qv1, 1, none⟩ = some (.string a) := (cell_of HBv1_1.out 1).trans rfl
  have cv1_2 : (w1).cell? ⟨qv1, 2, none⟩ = some (.string b) := (cell_of HBv1_1.out 2).trans rfl
  have cv1_3 : (w1).cell? ⟨qv1, 3, none⟩ = some (.int .i64 t) := (cell_of HBv1_1.out 3).trans rfl
  go_wp2_with fail
  refine (ruleOf_2 a b t _).mono ?_
  rintro e w2 ⟨rfl, bw⟩
  have hb2 : Below w.heap.size w (w2) := hb1.trans (bw.mono hb1.size)
  have HM2 : Hid ((w1).heap.size ≤ (w2).heap.size) := bw.size
  have HBv1_2 : Hid ((w2).heap[qv1]? = some (.cells #[.int .i64 2, .string a, .string b, .int .i64 t] 25)) := blk_below HBv1_1.out bw
  clear hb1 HBv1_1 bw
  clear cv1_0 cv1_1 cv1_2 cv1_3
  go_upto_region 2 with fail
  refine wp_region_held_drew (S := fun W => W.heap[qv1]? = some (.cells #[.int .i64 2, .string a, .string b, .int .i64 t] 25)) (by kernel_rfl) HBv1_2.out (fun _ => ?_)
  obtain ⟨w3, hX⟩ : ∃ X, X = w2.drew := ⟨_, rfl⟩
  have bw : Below w2.heap.size w2 w3 := by rw [hX]; exact (Below.refl _ _).drew
  rw [← hX]
  have hb3 : Below w.heap.size w (w3) := hb2.trans (bw.mono hb2.size)
  have HM3 : Hid ((w2).heap.size ≤ (w3).heap.size) := bw.size
  have HBv1_3 : Hid ((w3).heap[qv1]? = some (.cells #[.int .i64 2, .string a, .string b, .int .i64 t] 25)) := blk_below HBv1_2.out bw
  have hS3 : w3.heap[qv1]? = some (.cells #[.int .i64 2, .string a, .string b, .int .i64 t] 25) := HBv1_3.out
  clear hb2 HBv1_2 bw hX
  refine wpAnyH_takeD (i := 0) (v := .iface 69 (.agg #[.string a])) (some 6) rfl rfl (by kernel_rfl) (by kernel_rfl) (by kernel_rfl) (fun _ _ _ h => h) (Or.inl ⟨by rfl, by intro W _; go_simp⟩) hS3 ?_
  simp only [Act.put, List.setIfInBounds_toArray, List.set_cons_zero, List.set_cons_succ]
  refine wpAnyH_takeD (i := 1) (v := .bool true) (some 7) rfl rfl (by kernel_rfl) (by kernel_rfl) (by kernel_rfl) (fun _ _ _ h => h) (Or.inl ⟨by rfl, by intro W _; go_simp⟩) hS3 ?_
  simp only [Act.put, List.setIfInBounds_toArray, List.set_cons_zero, List.set_cons_succ]
  refine wpAnyH_takeD (i := 2) (v := .bool true) (some 8) rfl rfl (by kernel_rfl) (by kernel_rfl) (by kernel_rfl) (fun _ _ _ h => h) (Or.inl ⟨by rfl, by intro W _; go_simp⟩) hS3 ?_
  simp only [Act.put, List.setIfInBounds_toArray, List.set_cons_zero, List.set_cons_succ]
  refine wpAnyH_takeD (i := 3) (v := .iface 69 (.agg #[.string a])) (some 9) rfl rfl (by kernel_rfl) (by kernel_rfl) (by kernel_rfl) (fun _ _ _ h => h) (Or.inl ⟨by rfl, by intro W _; go_simp⟩) hS3 ?_
  simp only [Act.put, List.setIfInBounds_toArray, List.set_cons_zero, List.set_cons_succ]
  refine wpAnyH_ready (rs := [4]) (by kernel_rfl) (by simp) ?_
  refine AllReadyH.cons rfl (fun K hK => ?_) AllReadyH.nil
  go_simp
  refine (right_2 a _ HAM.out).mono ?_
  rintro e w4 ⟨ur, rfl, htur, bw⟩
  have hb4 : Below w.heap.size w (w4) := hb3.trans (bw.mono hb3.size)
  have HM4 : Hid ((w3).heap.size ≤ (w4).heap.size) := bw.size
  have HBv1_4 : Hid ((w4).heap[qv1]? = some (.cells #[.int .i64 2, .string a, .string b, .int .i64 t] 25)) := blk_below HBv1_3.out bw
  clear hb3 HBv1_3 bw
  have hS4 : w4.heap[qv1]? = some (.cells #[.int .i64 2, .string a, .string b, .int .i64 t] 25) := HBv1_4.out
  refine hK.out _ _ hS4 (fun _ => ?_)
  clear hK K hS3
  refine wpAnyH_takeD (i := 5) (v := .bool ur) (some 11) rfl rfl (by kernel_rfl) (by kernel_rfl) (by kernel_rfl) (fun _ _ _ h => h) (Or.inl ⟨by rfl, by intro W _; go_simp⟩) hS4 ?_
  simp only [Act.put, List.setIfInBounds_toArray, List.set_cons_zero, List.set_cons_succ]
  refine wpAnyH_takeD (i := 6) (v := .bool ur) (some 12) rfl rfl (by kernel_rfl) (by kernel_rfl) (by kernel_rfl) (fun _ _ _ h => h) (Or.inl ⟨by rfl, by intro W _; go_simp⟩) hS4 ?_
  simp only [Act.put, List.setIfInBounds_toArray, List.set_cons_zero, List.set_cons_succ]
  cases ur with
  | false =>
    have Hur : Hid (¬ (PathOk a)) := fun h => nomatch htur.2 h
    clear htur
    refine wpAnyH_takeD (i := 7) (v := undef) (some 13) rfl rfl (by kernel_rfl) (by kernel_rfl) (by kernel_rfl) (fun _ _ _ h => h) (Or.inr ⟨by rfl, rfl⟩) hS4 ?_
    simp only [Act.put, List.setIfInBounds_toArray, List.set_cons_zero, List.set_cons_succ]
    refine wpAnyH_takeD (i := 8) (v := undef) (some 14) rfl rfl (by kernel_rfl) (by kernel_rfl) (by kernel_rfl) (fun _ _ _ h => h) (Or.inr ⟨by rfl, rfl⟩) hS4 ?_
    simp only [Act.put, List.setIfInBounds_toArray, List.set_cons_zero, List.set_cons_succ]
    refine wpAnyH_takeD (i := 9) (v := undef) (some 15) rfl rfl (by kernel_rfl) (by kernel_rfl) (by kernel_rfl) (fun _ _ _ h => h) (Or.inr ⟨by rfl, rfl⟩) hS4 ?_
    simp only [Act.put, List.setIfInBounds_toArray, List.set_cons_zero, List.set_cons_succ]
    refine wpAnyH_takeD (i := 10) (v := .bool false) (some 16) rfl rfl (by kernel_rfl) (by kernel_rfl) (by kernel_rfl) (fun _ _ _ h => h) (Or.inl ⟨by rfl, by intro W _; go_simp⟩) hS4 ?_
    simp only [Act.put, List.setIfInBounds_toArray, List.set_cons_zero, List.set_cons_succ]
    refine wpAnyH_takeD (i := 11) (v := .bool false) (some 17) rfl rfl (by kernel_rfl) (by kernel_rfl) (by kernel_rfl) (fun _ _ _ h => h) (Or.inl ⟨by rfl, by intro W _; go_simp⟩) hS4 ?_
    simp only [Act.put, List.setIfInBounds_toArray, List.set_cons_zero, List.set_cons_succ]
    refine wpAnyH_takeD (i := 12) (v := undef) (some 18) rfl rfl (by kernel_rfl) (by kernel_rfl) (by kernel_rfl) (fun _ _ _ h => h) (Or.inr ⟨by rfl, rfl⟩) hS4 ?_
    simp only [Act.put, List.setIfInBounds_toArray, List.set_cons_zero, List.set_cons_succ]
    refine wpAnyH_takeD (i := 13) (v := undef) (some 19) rfl rfl (by kernel_rfl) (by kernel_rfl) (by kernel_rfl) (fun _ _ _ h => h) (Or.inr ⟨by rfl, rfl⟩) hS4 ?_
    simp only [Act.put, List.setIfInBounds_toArray, List.set_cons_zero, List.set_cons_succ]
    refine wpAnyH_takeD (i := 14) (v := undef) (some 20) rfl rfl (by kernel_rfl) (by kernel_rfl) (by kernel_rfl) (fun _ _ _ h => h) (Or.inr ⟨by rfl, rfl⟩) hS4 ?_
    simp only [Act.put, List.setIfInBounds_toArray, List.set_cons_zero, List.set_cons_succ]
    refine wpAnyH_takeD (i := 15) (v := undef) (some 21) rfl rfl (by kernel_rfl) (by kernel_rfl) (by kernel_rfl) (fun _ _ _ h => h) (Or.inr ⟨by rfl, rfl⟩) hS4 ?_
    simp only [Act.put, List.setIfInBounds_toArray, List.set_cons_zero, List.set_cons_succ]
    refine wpAnyH_takeD (i := 16) (v := undef) (some 22) rfl rfl (by kernel_rfl) (by kernel_rfl) (by kernel_rfl) (fun _ _ _ h => h) (Or.inr ⟨by rfl, rfl⟩) hS4 ?_
    simp only [Act.put, List.setIfInBounds_toArray, List.set_cons_zero, List.set_cons_succ]
    refine wpAnyH_takeD (i := 17) (v := undef) (some 23) rfl rfl (by kernel_rfl) (by kernel_rfl) (by kernel_rfl) (fun _ _ _ h => h) (Or.inr ⟨by rfl, rfl⟩) hS4 ?_
    simp only [Act.put, List.setIfInBounds_toArray, List.set_cons_zero, List.set_cons_succ]
    refine wpAnyH_takeD (i := 18) (v := .bool false) (some 24) rfl rfl (by kernel_rfl) (by kernel_rfl) (by kernel_rfl) (fun _ _ _ h => h) (Or.inl ⟨by rfl, by intro W _; go_simp⟩) hS4 ?_
    simp only [Act.put, List.setIfInBounds_toArray, List.set_cons_zero, List.set_cons_succ]
    refine wpAnyH_takeD (i := 19) (v := .bool false) (some 2) rfl rfl (by kernel_rfl) (by kernel_rfl) (by kernel_rfl) (fun _ _ _ h => h) (Or.inl ⟨by rfl, by intro W _; go_simp⟩) hS4 ?_
    simp only [Act.put, List.setIfInBounds_toArray, List.set_cons_zero, List.set_cons_succ]
    clear hS4
    refine wpAnyH_done (by kernel_rfl) ?_ _
    go_wp2_with fail
    go_ret
    refine ⟨false, rfl, ?_, hb4⟩
    have zHur := Hur.out
    have zHB := HB0.out
    unfold BanP
    simp_all
  | true =>
    have Hur : Hid (PathOk a) := htur.1 rfl
    clear htur
    refine wpAnyH_takeD (i := 7) (v := .pointer (some ⟨qv1, 3, none⟩)) (some 13) rfl rfl (by kernel_rfl) (by kernel_rfl) (by kernel_rfl) (fun _ _ _ h => h) (Or.inl ⟨by rfl, by intro W _; go_simp⟩) hS4 ?_
    simp only [Act.put, List.setIfInBounds_toArray, List.set_cons_zero, List.set_cons_succ]
    refine wpAnyH_takeD (i := 8) (v := .int .i64 t) (some 14) rfl rfl (by kernel_rfl) (by kernel_rfl) (by kernel_rfl) (fun _ _ _ h => h) (Or.inl ⟨by rfl, by intro W hW; have hhv1 := hW; have y3 := (cell_of hhv1 3).trans rfl; go_simp⟩) hS4 ?_
    simp only [Act.put, List.setIfInBounds_toArray, List.set_cons_zero, List.set_cons_succ]
    refine wpAnyH_ready (rs := [9]) (by kernel_rfl) (by simp) ?_
    refine AllReadyH.cons rfl (fun K hK => ?_) AllReadyH.nil
    go_simp
    refine (timeOk_any t _).mono ?_
    rintro e w5 ⟨rfl, hwe⟩
    have bw : Below (w4).heap.size (w4) w5 := by rw [hwe]; exact Below.refl _ _
    clear hwe
    obtain ⟨ut, hut⟩ : ∃ u, u = decide ((0 : Int) ≤ t ∧ t ≤ 1000000) := ⟨_, rfl⟩
    rw [← hut]
    have hb5 : Below w.heap.size w (w5) := hb4.trans (bw.mono hb4.size)
    have HM5 : Hid ((w4).heap.size ≤ (w5).heap.size) := bw.size
    have HBv1_5 : Hid ((w5).heap[qv1]? = some (.cells #[.int .i64 2, .string a, .string b, .int .i64 t] 25)) := blk_below HBv1_4.out bw
    clear hb4 HBv1_4 bw
    have hS5 : w5.heap[qv1]? = some (.cells #[.int .i64 2, .string a, .string b, .int .i64 t] 25) := HBv1_5.out
    refine hK.out _ _ hS5 (fun _ => ?_)
    clear hK K hS4
    refine wpAnyH_takeD (i := 10) (v := .bool ut) (some 16) rfl rfl (by kernel_rfl) (by kernel_rfl) (by kernel_rfl) (fun _ _ _ h => h) (Or.inl ⟨by rfl, by intro W _; go_simp⟩) hS5 ?_
    simp only [Act.put, List.setIfInBounds_toArray, List.set_cons_zero, List.set_cons_succ]
    refine wpAnyH_takeD (i := 11) (v := .bool ut) (some 17) rfl rfl (by kernel_rfl) (by kernel_rfl) (by kernel_rfl) (fun _ _ _ h => h) (Or.inl ⟨by rfl, by intro W _; go_simp⟩) hS5 ?_
    simp only [Act.put, List.setIfInBounds_toArray, List.set_cons_zero, List.set_cons_succ]
    cases ut with
    | false =>
      have Hut : Hid (¬ (0 ≤ t ∧ t ≤ 1000000)) := (show ¬ (0 ≤ t ∧ t ≤ 1000000) from of_decide_eq_false hut.symm)
      clear hut
      refine wpAnyH_takeD (i := 12) (v := undef) (some 18) rfl rfl (by kernel_rfl) (by kernel_rfl) (by kernel_rfl) (fun _ _ _ h => h) (Or.inr ⟨by rfl, rfl⟩) hS5 ?_
      simp only [Act.put, List.setIfInBounds_toArray, List.set_cons_zero, List.set_cons_succ]
      refine wpAnyH_takeD (i := 13) (v := undef) (some 19) rfl rfl (by kernel_rfl) (by kernel_rfl) (by kernel_rfl) (fun _ _ _ h => h) (Or.inr ⟨by rfl, rfl⟩) hS5 ?_
      simp only [Act.put, List.setIfInBounds_toArray, List.set_cons_zero, List.set_cons_succ]
      refine wpAnyH_takeD (i := 14) (v := undef) (some 20) rfl rfl (by kernel_rfl) (by kernel_rfl) (by kernel_rfl) (fun _ _ _ h => h) (Or.inr ⟨by rfl, rfl⟩) hS5 ?_
      simp only [Act.put, List.setIfInBounds_toArray, List.set_cons_zero, List.set_cons_succ]
      refine wpAnyH_takeD (i := 15) (v := undef) (some 21) rfl rfl (by kernel_rfl) (by kernel_rfl) (by kernel_rfl) (fun _ _ _ h => h) (Or.inr ⟨by rfl, rfl⟩) hS5 ?_
      simp only [Act.put, List.setIfInBounds_toArray, List.set_cons_zero, List.set_cons_succ]
      refine wpAnyH_takeD (i := 16) (v := undef) (some 22) rfl rfl (by kernel_rfl) (by kernel_rfl) (by kernel_rfl) (fun _ _ _ h => h) (Or.inr ⟨by rfl, rfl⟩) hS5 ?_
      simp only [Act.put, List.setIfInBounds_toArray, List.set_cons_zero, List.set_cons_succ]
      refine wpAnyH_takeD (i := 17) (v := undef) (some 23) rfl rfl (by kernel_rfl) (by kernel_rfl) (by kernel_rfl) (fun _ _ _ h => h) (Or.inr ⟨by rfl, rfl⟩) hS5 ?_
      simp only [Act.put, List.setIfInBounds_toArray, List.set_cons_zero, List.set_cons_succ]
      refine wpAnyH_takeD (i := 18) (v := .bool false) (some 24) rfl rfl (by kernel_rfl) (by kernel_rfl) (by kernel_rfl) (fun _ _ _ h => h) (Or.inl ⟨by rfl, by intro W _; go_simp⟩) hS5 ?_
      simp only [Act.put, List.setIfInBounds_toArray, List.set_cons_zero, List.set_cons_succ]
      refine wpAnyH_takeD (i := 19) (v := .bool false) (some 2) rfl rfl (by kernel_rfl) (by kernel_rfl) (by kernel_rfl) (fun _ _ _ h => h) (Or.inl ⟨by rfl, by intro W _; go_simp⟩) hS5 ?_
      simp only [Act.put, List.setIfInBounds_toArray, List.set_cons_zero, List.set_cons_succ]
      clear hS5
      refine wpAnyH_done (by kernel_rfl) ?_ _
      go_wp2_with fail
      go_ret
      refine ⟨false, rfl, ?_, hb5⟩
      have zHur := Hur.out
      have zHut := Hut.out
      have zHB := HB0.out
      unfold BanP
      simp_all
    | true =>
      have Hut : Hid (0 ≤ t ∧ t ≤ 1000000) := (show 0 ≤ t ∧ t ≤ 1000000 from of_decide_eq_true hut.symm)
      clear hut
      refine wpAnyH_takeD (i := 12) (v := .iface 69 (.agg #[.string a])) (some 18) rfl rfl (by kernel_rfl) (by kernel_rfl) (by kernel_rfl) (fun _ _ _ h => h) (Or.inl ⟨by rfl, by intro W _; go_simp⟩) hS5 ?_
      simp only [Act.put, List.setIfInBounds_toArray, List.set_cons_zero, List.set_cons_succ]
      refine wpAnyH_takeD (i := 13) (v := .pointer (some ⟨qv1, 3, none⟩)) (some 19) rfl rfl (by kernel_rfl) (by kernel_rfl) (by kernel_rfl) (fun _ _ _ h => h) (Or.inl ⟨by rfl, by intro W _; go_simp⟩) hS5 ?_
      simp only [Act.put, List.setIfInBounds_toArray, List.set_cons_zero, List.set_cons_succ]
      refine wpAnyH_takeD (i := 14) (v := .int .i64 t) (some 20) rfl rfl (by kernel_rfl) (by kernel_rfl) (by kernel_rfl) (fun _ _ _ h => h) (Or.inl ⟨by rfl, by intro W hW; have hhv1 := hW; have y3 := (cell_of hhv1 3).trans rfl; go_simp⟩) hS5 ?_
      simp only [Act.put, List.setIfInBounds_toArray, List.set_cons_zero, List.set_cons_succ]
      refine wpAnyH_takeD (i := 16) (v := .agg #[.int .i64 2, .string a, .string b, .int .i64 t]) (some 22) rfl rfl (by kernel_rfl) (by kernel_rfl) (by kernel_rfl) (fun _ _ _ h => h) (Or.inl ⟨by rfl, by intro W hW; have hhv1 := hW; have y0 := (cell_of hhv1 0).trans rfl; have y1 := (cell_of hhv1 1).trans rfl; have y2 := (cell_of hhv1 2).trans rfl; have y3 := (cell_of hhv1 3).trans rfl; go_simp⟩) hS5 ?_
      simp only [Act.put, List.setIfInBounds_toArray, List.set_cons_zero, List.set_cons_succ]
      refine wpAnyH_ready (rs := [15]) (by kernel_rfl) (by simp) ?_
      refine AllReadyH.cons rfl (fun K hK => ?_) AllReadyH.nil
      go_simp
      refine (banOf_2 a t _).mono ?_
      rintro e w6 ⟨rfl, bw⟩
      have hb6 : Below w.heap.size w (w6) := hb5.trans (bw.mono hb5.size)
      have HM6 : Hid ((w5).heap.size ≤ (w6).heap.size) := bw.size
      have HBv1_6 : Hid ((w6).heap[qv1]? = some (.cells #[.int .i64 2, .string a, .string b, .int .i64 t] 25)) := blk_below HBv1_5.out bw
      clear hb5 HBv1_5 bw
      have hS6 : w6.heap[qv1]? = some (.cells #[.int .i64 2, .string a, .string b, .int .i64 t] 25) := HBv1_6.out
      refine hK.out _ _ hS6 (fun _ => ?_)
      clear hK K hS5
      refine wpAnyH_takeD (i := 17) (v := .bool false) (some 23) rfl rfl (by kernel_rfl) (by kernel_rfl) (by kernel_rfl) (fun _ _ _ h => h) (Or.inl ⟨by rfl, by intro W _; go_simp⟩) hS6 ?_
      simp only [Act.put, List.setIfInBounds_toArray, List.set_cons_zero, List.set_cons_succ]
      refine wpAnyH_takeD (i := 18) (v := .bool false) (some 24) rfl rfl (by kernel_rfl) (by kernel_rfl) (by kernel_rfl) (fun _ _ _ h => h) (Or.inl ⟨by rfl, by intro W _; go_simp⟩) hS6 ?_
      simp only [Act.put, List.setIfInBounds_toArray, List.set_cons_zero, List.set_cons_succ]
      refine wpAnyH_takeD (i := 19) (v := .bool false) (some 2) rfl rfl (by kernel_rfl) (by kernel_rfl) (by kernel_rfl) (fun _ _ _ h => h) (Or.inl ⟨by rfl, by intro W _; go_simp⟩) hS6 ?_
      simp only [Act.put, List.setIfInBounds_toArray, List.set_cons_zero, List.set_cons_succ]
      clear hS6
      refine wpAnyH_done (by kernel_rfl) ?_ _
      go_wp2_with fail
      go_ret
      refine ⟨false, rfl, ?_, hb6⟩
      have zHur := Hur.out
      have zHut := Hut.out
      have zHB := HB0.out
      unfold BanP
      simp_all

set_option maxHeartbeats 8000000 in
set_option maxRecDepth 100000 in
theorem implBanOk_3 (a b : ByteArray) (t : Int) (w : World) (ha : a.size ≤ maxLen) (hb : b.size ≤ maxLen) :
    Calls Tryd.prog 10 #[.agg #[.int .i64 3, .string a, .string b, .int .i64 t]] w fun e w' => BoolIs (BanP 3 a b t) w e w' := by
  classical
  have HAM : Hid (a.size ≤ maxLen) := ha
  have HBM : Hid (b.size ≤ maxLen) := hb
  have hnn : ∀ W : World, (binOp .neq 44 (.iface 71 (.agg #[.string a, .string b])) .nilIface).run Tryd.prog W = .ok (.bool true) W := fun _ => by kernel_rfl
  have hna : ∀ W : World, (nilAhead 157 71 (.agg #[.string a, .string b]) "loop.example/g00239/impl.right").run Tryd.prog W = .ok (some false) W := fun _ => by kernel_rfl
  have hmt : ∀ W : World, (method 157 71 (.agg #[.string a, .string b]) "loop.example/g00239/impl.right").run Tryd.prog W = .ok (108, .agg #[.string a, .string b]) W := fun _ => by kernel_rfl
  have hgb := guardBan
  have hqe : ∀ W : World, (binOp .eql 25 (.agg #[.int .i64 3, .string a, .string b, .int .i64 t]) (.agg #[.int .i64 3, .string a, .string b, .int .i64 t])).run Tryd.prog W = .ok (.bool true) W := fun W => by
    rw [eqlBan]
    first | (simp; done) | (have z := HB0.out; simp; exact fun e => z e.symm)
  clear ha hb
  have hb0 : Below w.heap.size w w := Below.refl _ _
  go_enter Tryd.func10, Tryd.ntmps10
  go_upto_region 1 with fail
  obtain ⟨qv1, hqv1⟩ : ∃ q, q = (w).heap.size := ⟨_, rfl⟩
  obtain ⟨w1, hW1⟩ : ∃ W, W = (w).alloc (.cells #[.int .i64 3, .string a, .string b, .int .i64 t] 25) := ⟨_, rfl⟩
  have hz1 : (w).heap.size = qv1 := hqv1.symm
  first | rw [← hW1, ← hqv1] | rw [← hW1]
  have hs1 : w1.heap.size = qv1 + 1 := by rw [hW1, ← hz1]; simp
  have bw : Below (w).heap.size (w) w1 := by rw [hW1]; exact (Below.refl _ _).alloc (Nat.le_refl _) _
  have hb1 : Below w.heap.size w (w1) := hb0.trans (bw.mono hb0.size)
  have HM1 : Hid ((w).heap.size ≤ (w1).heap.size) := bw.size
  have HBv1_1 : Hid ((w1).heap[qv1]? = some (.cells #[.int .i64 3, .string a, .string b, .int .i64 t] 25)) := by show _ = _; rw [hW1, ← hz1]; exact heap_alloc_new _ _
  have HGv1 : Hid (w.heap.size ≤ qv1) := by show _ ≤ _; rw [← hz1]; exact hb0.size
  clear hb0 bw hW1 hz1
  clear hs1 hqv1
  have cv1_0 : (w1).cell? ⟨qv1, 0, none⟩ = some (.int .i64 3) := (cell_of HBv1_1.out 0).trans rfl
  have cv1_1 : (w1).cell? ⟨qv1, 1, none⟩ = some (.string a) := (cell_of HBv1_1.out 1).trans rfl
  have cv1_2 : (w1).cell? ⟨qv1, 2, none⟩ = some (.string b) := (cell_of HBv1_1.out 2).trans rfl
  have cv1_3 : (w1).cell? ⟨qv1, 3, none⟩ = some (.int .i64 t) := (cell_of HBv1_1.out 3).trans rfl
  go_wp2_with fail
  refine (ruleOf_3 a b t _).mono ?_
  rintro e w2 ⟨rfl, bw⟩
  have hb2 : Below w.heap.size w (w2) := hb1.trans (bw.mono hb1.size)
  have HM2 : Hid ((w1).heap.size ≤ (w2).heap.size) := bw.size
  have HBv1_2 : Hid ((w2).heap[qv1]? = some (.cells #[.int .i64 3, .string a, .string b, .int .i64 t] 25)) := blk_below HBv1_1.out bw
  clear hb1 HBv1_1 bw
  clear cv1_0 cv1_1 cv1_2 cv1_3
  go_upto_region 2 with fail
  refine wp_region_held_drew (S := fun W => W.heap[qv1]? = some (.cells #[.int .i64 3, .string a, .string b, .int .i64 t] 25)) (by kernel_rfl) HBv1_2.out (fun _ => ?_)
  obtain ⟨w3, hX⟩ : ∃ X, X = w2.drew := ⟨_, rfl⟩
  have bw : Below w2.heap.size w2 w3 := by rw [hX]; exact (Below.refl _ _).drew
  rw [← hX]
  have hb3 : Below w.heap.size w (w3) := hb2.trans (bw.mono hb2.size)
  have HM3 : Hid ((w2).heap.size ≤ (w3).heap.size) := bw.size
  have HBv1_3 : Hid ((w3).heap[qv1]? = some (.cells #[.int .i64 3, .string a, .string b, .int .i64 t] 25)) := blk_below HBv1_2.out bw
  have hS3 : w3.heap[qv1]? = some (.cells #[.int .i64 3, .string a, .string b, .int .i64 t] 25) := HBv1_3.out
  clear hb2 HBv1_2 bw hX
  refine wpAnyH_takeD (i := 0) (v := .iface 71 (.agg #[.string a, .string b])) (some 6) rfl rfl (by kernel_rfl) (by kernel_rfl) (by kernel_rfl) (fun _ _ _ h => h) (Or.inl ⟨by rfl, by intro W _; go_simp⟩) hS3 ?_
  simp only [Act.put, List.setIfInBounds_toArray, List.set_cons_zero, List.set_cons_succ]
  refine wpAnyH_takeD (i := 1) (v := .bool true) (some 7) rfl rfl (by kernel_rfl) (by kernel_rfl) (by kernel_rfl) (fun _ _ _ h => h) (Or.inl ⟨by rfl, by intro W _; go_simp⟩) hS3 ?_
  simp only [Act.put, List.setIfInBounds_toArray, List.set_cons_zero, List.set_cons_succ]
  refine wpAnyH_takeD (i := 2) (v := .bool true) (some 8) rfl rfl (by kernel_rfl) (by kernel_rfl) (by kernel_rfl) (fun _ _ _ h => h) (Or.inl ⟨by rfl, by intro W _; go_simp⟩) hS3 ?_
  simp only [Act.put, List.setIfInBounds_toArray, List.set_cons_zero, List.set_cons_succ]
  refine wpAnyH_takeD (i := 3) (v := .iface 71 (.agg #[.string a, .string b])) (some 9) rfl rfl (by kernel_rfl) (by kernel_rfl) (by kernel_rfl) (fun _ _ _ h => h) (Or.inl ⟨by rfl, by intro W _; go_simp⟩) hS3 ?_
  simp only [Act.put, List.setIfInBounds_toArray, List.set_cons_zero, List.set_cons_succ]
  refine wpAnyH_ready (rs := [4]) (by kernel_rfl) (by simp) ?_
  refine AllReadyH.cons rfl (fun K hK => ?_) AllReadyH.nil
  go_simp
  refine (right_3 a b _ HAM.out HBM.out).mono ?_
  rintro e w4 ⟨ur, rfl, htur, bw⟩
  have hb4 : Below w.heap.size w (w4) := hb3.trans (bw.mono hb3.size)
  have HM4 : Hid ((w3).heap.size ≤ (w4).heap.size) := bw.size
  have HBv1_4 : Hid ((w4).heap[qv1]? = some (.cells #[.int .i64 3, .string a, .string b, .int .i64 t] 25)) := blk_below HBv1_3.out bw
  clear hb3 HBv1_3 bw
  have hS4 : w4.heap[qv1]? = some (.cells #[.int .i64 3, .string a, .string b, .int .i64 t] 25) := HBv1_4.out
  refine hK.out _ _ hS4 (fun _ => ?_)
  clear hK K hS3
  refine wpAnyH_takeD (i := 5) (v := .bool ur) (some 11) rfl rfl (by kernel_rfl) (by kernel_rfl) (by kernel_rfl) (fun _ _ _ h => h) (Or.inl ⟨by rfl, by intro W _; go_simp⟩) hS4 ?_
  simp only [Act.put, List.setIfInBounds_toArray, List.set_cons_zero, List.set_cons_succ]
  refine wpAnyH_takeD (i := 6) (v := .bool ur) (some 12) rfl rfl (by kernel_rfl) (by kernel_rfl) (by kernel_rfl) (fun _ _ _ h => h) (Or.inl ⟨by rfl, by intro W _; go_simp⟩) hS4 ?_
  simp only [Act.put, List.setIfInBounds_toArray, List.set_cons_zero, List.set_cons_succ]
  cases ur with
  | false =>
    have Hur : Hid (¬ (TokOk a ∧ ValOk b)) := fun h => nomatch htur.2 h
    clear htur
    refine wpAnyH_takeD (i := 7) (v := undef) (some 13) rfl rfl (by kernel_rfl) (by kernel_rfl) (by kernel_rfl) (fun _ _ _ h => h) (Or.inr ⟨by rfl, rfl⟩) hS4 ?_
    simp only [Act.put, List.setIfInBounds_toArray, List.set_cons_zero, List.set_cons_succ]
    refine wpAnyH_takeD (i := 8) (v := undef) (some 14) rfl rfl (by kernel_rfl) (by kernel_rfl) (by kernel_rfl) (fun _ _ _ h => h) (Or.inr ⟨by rfl, rfl⟩) hS4 ?_
    simp only [Act.put, List.setIfInBounds_toArray, List.set_cons_zero, List.set_cons_succ]
    refine wpAnyH_takeD (i := 9) (v := undef) (some 15) rfl rfl (by kernel_rfl) (by kernel_rfl) (by kernel_rfl) (fun _ _ _ h => h) (Or.inr ⟨by rfl, rfl⟩) hS4 ?_
    simp only [Act.put, List.setIfInBounds_toArray, List.set_cons_zero, List.set_cons_succ]
    refine wpAnyH_takeD (i := 10) (v := .bool false) (some 16) rfl rfl (by kernel_rfl) (by kernel_rfl) (by kernel_rfl) (fun _ _ _ h => h) (Or.inl ⟨by rfl, by intro W _; go_simp⟩) hS4 ?_
    simp only [Act.put, List.setIfInBounds_toArray, List.set_cons_zero, List.set_cons_succ]
    refine wpAnyH_takeD (i := 11) (v := .bool false) (some 17) rfl rfl (by kernel_rfl) (by kernel_rfl) (by kernel_rfl) (fun _ _ _ h => h) (Or.inl ⟨by rfl, by intro W _; go_simp⟩) hS4 ?_
    simp only [Act.put, List.setIfInBounds_toArray, List.set_cons_zero, List.set_cons_succ]
    refine wpAnyH_takeD (i := 12) (v := undef) (some 18) rfl rfl (by kernel_rfl) (by kernel_rfl) (by kernel_rfl) (fun _ _ _ h => h) (Or.inr ⟨by rfl, rfl⟩) hS4 ?_
    simp only [Act.put, List.setIfInBounds_toArray, List.set_cons_zero, List.set_cons_succ]
    refine wpAnyH_takeD (i := 13) (v := undef) (some 19) rfl rfl (by kernel_rfl) (by kernel_rfl) (by kernel_rfl) (fun _ _ _ h => h) (Or.inr ⟨by rfl, rfl⟩) hS4 ?_
    simp only [Act.put, List.setIfInBounds_toArray, List.set_cons_zero, List.set_cons_succ]
    refine wpAnyH_takeD (i := 14) (v := undef) (some 20) rfl rfl (by kernel_rfl) (by kernel_rfl) (by kernel_rfl) (fun _ _ _ h => h) (Or.inr ⟨by rfl, rfl⟩) hS4 ?_
    simp only [Act.put, List.setIfInBounds_toArray, List.set_cons_zero, List.set_cons_succ]
    refine wpAnyH_takeD (i := 15) (v := undef) (some 21) rfl rfl (by kernel_rfl) (by kernel_rfl) (by kernel_rfl) (fun _ _ _ h => h) (Or.inr ⟨by rfl, rfl⟩) hS4 ?_
    simp only [Act.put, List.setIfInBounds_toArray, List.set_cons_zero, List.set_cons_succ]
    refine wpAnyH_takeD (i := 16) (v := undef) (some 22) rfl rfl (by kernel_rfl) (by kernel_rfl) (by kernel_rfl) (fun _ _ _ h => h) (Or.inr ⟨by rfl, rfl⟩) hS4 ?_
    simp only [Act.put, List.setIfInBounds_toArray, List.set_cons_zero, List.set_cons_succ]
    refine wpAnyH_takeD (i := 17) (v := undef) (some 23) rfl rfl (by kernel_rfl) (by kernel_rfl) (by kernel_rfl) (fun _ _ _ h => h) (Or.inr ⟨by rfl, rfl⟩) hS4 ?_
    simp only [Act.put, List.setIfInBounds_toArray, List.set_cons_zero, List.set_cons_succ]
    refine wpAnyH_takeD (i := 18) (v := .bool false) (some 24) rfl rfl (by kernel_rfl) (by kernel_rfl) (by kernel_rfl) (fun _ _ _ h => h) (Or.inl ⟨by rfl, by intro W _; go_simp⟩) hS4 ?_
    simp only [Act.put, List.setIfInBounds_toArray, List.set_cons_zero, List.set_cons_succ]
    refine wpAnyH_takeD (i := 19) (v := .bool false) (some 2) rfl rfl (by kernel_rfl) (by kernel_rfl) (by kernel_rfl) (fun _ _ _ h => h) (Or.inl ⟨by rfl, by intro W _; go_simp⟩) hS4 ?_
    simp only [Act.put, List.setIfInBounds_toArray, List.set_cons_zero, List.set_cons_succ]
    clear hS4
    refine wpAnyH_done (by kernel_rfl) ?_ _
    go_wp2_with fail
    go_ret
    refine ⟨false, rfl, ?_, hb4⟩
    have zHur := Hur.out
    unfold BanP
    simp_all
  | true =>
    have Hur : Hid (TokOk a ∧ ValOk b) := htur.1 rfl
    clear htur
    refine wpAnyH_takeD (i := 7) (v := .pointer (some ⟨qv1, 3, none⟩)) (some 13) rfl rfl (by kernel_rfl) (by kernel_rfl) (by kernel_rfl) (fun _ _ _ h => h) (Or.inl ⟨by rfl, by intro W _; go_simp⟩) hS4 ?_
    simp only [Act.put, List.setIfInBounds_toArray, List.set_cons_zero, List.set_cons_succ]
    refine wpAnyH_takeD (i := 8) (v := .int .i64 t) (some 14) rfl rfl (by kernel_rfl) (by kernel_rfl) (by kernel_rfl) (fun _ _ _ h => h) (Or.inl ⟨by rfl, by intro W hW; have hhv1 := hW; have y3 := (cell_of hhv1 3).trans rfl; go_simp⟩) hS4 ?_
    simp only [Act.put, List.setIfInBounds_toArray, List.set_cons_zero, List.set_cons_succ]
    refine wpAnyH_ready (rs := [9]) (by kernel_rfl) (by simp) ?_
    refine AllReadyH.cons rfl (fun K hK => ?_) AllReadyH.nil
    go_simp
    refine (timeOk_any t _).mono ?_
    rintro e w5 ⟨rfl, hwe⟩
    have bw : Below (w4).heap.size (w4) w5 := by rw [hwe]; exact Below.refl _ _
    clear hwe
    obtain ⟨ut, hut⟩ : ∃ u, u = decide ((0 : Int) ≤ t ∧ t ≤ 1000000) := ⟨_, rfl⟩
    rw [← hut]
    have hb5 : Below w.heap.size w (w5) := hb4.trans (bw.mono hb4.size)
    have HM5 : Hid ((w4).heap.size ≤ (w5).heap.size) := bw.size
    have HBv1_5 : Hid ((w5).heap[qv1]? = some (.cells #[.int .i64 3, .string a, .string b, .int .i64 t] 25)) := blk_below HBv1_4.out bw
    clear hb4 HBv1_4 bw
    have hS5 : w5.heap[qv1]? = some (.cells #[.int .i64 3, .string a, .string b, .int .i64 t] 25) := HBv1_5.out
    refine hK.out _ _ hS5 (fun _ => ?_)
    clear hK K hS4
    refine wpAnyH_takeD (i := 10) (v := .bool ut) (some 16) rfl rfl (by kernel_rfl) (by kernel_rfl) (by kernel_rfl) (fun _ _ _ h => h) (Or.inl ⟨by rfl, by intro W _; go_simp⟩) hS5 ?_
    simp only [Act.put, List.setIfInBounds_toArray, List.set_cons_zero, List.set_cons_succ]
    refine wpAnyH_takeD (i := 11) (v := .bool ut) (some 17) rfl rfl (by kernel_rfl) (by kernel_rfl) (by kernel_rfl) (fun _ _ _ h => h) (Or.inl ⟨by rfl, by intro W _; go_simp⟩) hS5 ?_
    simp only [Act.put, List.setIfInBounds_toArray, List.set_cons_zero, List.set_cons_succ]
    cases ut with
    | false =>
      have Hut : Hid (¬ (0 ≤ t ∧ t ≤ 1000000)) := (show ¬ (0 ≤ t ∧ t ≤ 1000000) from of_decide_eq_false hut.symm)
      clear hut
      refine wpAnyH_takeD (i := 12) (v := undef) (some 18) rfl rfl (by kernel_rfl) (by kernel_rfl) (by kernel_rfl) (fun _ _ _ h => h) (Or.inr ⟨by rfl, rfl⟩) hS5 ?_
      simp only [Act.put, List.setIfInBounds_toArray, List.set_cons_zero, List.set_cons_succ]
      refine wpAnyH_takeD (i := 13) (v := undef) (some 19) rfl rfl (by kernel_rfl) (by kernel_rfl) (by kernel_rfl) (fun _ _ _ h => h) (Or.inr ⟨by rfl, rfl⟩) hS5 ?_
      simp only [Act.put, List.setIfInBounds_toArray, List.set_cons_zero, List.set_cons_succ]
      refine wpAnyH_takeD (i := 14) (v := undef) (some 20) rfl rfl (by kernel_rfl) (by kernel_rfl) (by kernel_rfl) (fun _ _ _ h => h) (Or.inr ⟨by rfl, rfl⟩) hS5 ?_
      simp only [Act.put, List.setIfInBounds_toArray, List.set_cons_zero, List.set_cons_succ]
      refine wpAnyH_takeD (i := 15) (v := undef) (some 21) rfl rfl (by kernel_rfl) (by kernel_rfl) (by kernel_rfl) (fun _ _ _ h => h) (Or.inr ⟨by rfl, rfl⟩) hS5 ?_
      simp only [Act.put, List.setIfInBounds_toArray, List.set_cons_zero, List.set_cons_succ]
      refine wpAnyH_takeD (i := 16) (v := undef) (some 22) rfl rfl (by kernel_rfl) (by kernel_rfl) (by kernel_rfl) (fun _ _ _ h => h) (Or.inr ⟨by rfl, rfl⟩) hS5 ?_
      simp only [Act.put, List.setIfInBounds_toArray, List.set_cons_zero, List.set_cons_succ]
      refine wpAnyH_takeD (i := 17) (v := undef) (some 23) rfl rfl (by kernel_rfl) (by kernel_rfl) (by kernel_rfl) (fun _ _ _ h => h) (Or.inr ⟨by rfl, rfl⟩) hS5 ?_
      simp only [Act.put, List.setIfInBounds_toArray, List.set_cons_zero, List.set_cons_succ]
      refine wpAnyH_takeD (i := 18) (v := .bool false) (some 24) rfl rfl (by kernel_rfl) (by kernel_rfl) (by kernel_rfl) (fun _ _ _ h => h) (Or.inl ⟨by rfl, by intro W _; go_simp⟩) hS5 ?_
      simp only [Act.put, List.setIfInBounds_toArray, List.set_cons_zero, List.set_cons_succ]
      refine wpAnyH_takeD (i := 19) (v := .bool false) (some 2) rfl rfl (by kernel_rfl) (by kernel_rfl) (by kernel_rfl) (fun _ _ _ h => h) (Or.inl ⟨by rfl, by intro W _; go_simp⟩) hS5 ?_
      simp only [Act.put, List.setIfInBounds_toArray, List.set_cons_zero, List.set_cons_succ]
      clear hS5
      refine wpAnyH_done (by kernel_rfl) ?_ _
      go_wp2_with fail
      go_ret
      refine ⟨false, rfl, ?_, hb5⟩
      have zHur := Hur.out
      have zHut := Hut.out
      unfold BanP
      simp_all
    | true =>
      have Hut : Hid (0 ≤ t ∧ t ≤ 1000000) := (show 0 ≤ t ∧ t ≤ 1000000 from of_decide_eq_true hut.symm)
      clear hut
      refine wpAnyH_takeD (i := 12) (v := .iface 71 (.agg #[.string a, .string b])) (some 18) rfl rfl (by kernel_rfl) (by kernel_rfl) (by kernel_rfl) (fun _ _ _ h => h) (Or.inl ⟨by rfl, by intro W _; go_simp⟩) hS5 ?_
      simp only [Act.put, List.setIfInBounds_toArray, List.set_cons_zero, List.set_cons_succ]
      refine wpAnyH_takeD (i := 13) (v := .pointer (some ⟨qv1, 3, none⟩)) (some 19) rfl rfl (by kernel_rfl) (by kernel_rfl) (by kernel_rfl) (fun _ _ _ h => h) (Or.inl ⟨by rfl, by intro W _; go_simp⟩) hS5 ?_
      simp only [Act.put, List.setIfInBounds_toArray, List.set_cons_zero, List.set_cons_succ]
      refine wpAnyH_takeD (i := 14) (v := .int .i64 t) (some 20) rfl rfl (by kernel_rfl) (by kernel_rfl) (by kernel_rfl) (fun _ _ _ h => h) (Or.inl ⟨by rfl, by intro W hW; have hhv1 := hW; have y3 := (cell_of hhv1 3).trans rfl; go_simp⟩) hS5 ?_
      simp only [Act.put, List.setIfInBounds_toArray, List.set_cons_zero, List.set_cons_succ]
      refine wpAnyH_takeD (i := 16) (v := .agg #[.int .i64 3, .string a, .string b, .int .i64 t]) (some 22) rfl rfl (by kernel_rfl) (by kernel_rfl) (by kernel_rfl) (fun _ _ _ h => h) (Or.inl ⟨by rfl, by intro W hW; have hhv1 := hW; have y0 := (cell_of hhv1 0).trans rfl; have y1 := (cell_of hhv1 1).trans rfl; have y2 := (cell_of hhv1 2).trans rfl; have y3 := (cell_of hhv1 3).trans rfl; go_simp⟩) hS5 ?_
      simp only [Act.put, List.setIfInBounds_toArray, List.set_cons_zero, List.set_cons_succ]
      refine wpAnyH_ready (rs := [15]) (by kernel_rfl) (by simp) ?_
      refine AllReadyH.cons rfl (fun K hK => ?_) AllReadyH.nil
      go_simp
      refine (banOf_3 a b t _).mono ?_
      rintro e w6 ⟨rfl, bw⟩
      have hb6 : Below w.heap.size w (w6) := hb5.trans (bw.mono hb5.size)
      have HM6 : Hid ((w5).heap.size ≤ (w6).heap.size) := bw.size
      have HBv1_6 : Hid ((w6).heap[qv1]? = some (.cells #[.int .i64 3, .string a, .string b, .int .i64 t] 25)) := blk_below HBv1_5.out bw
      clear hb5 HBv1_5 bw
      have hS6 : w6.heap[qv1]? = some (.cells #[.int .i64 3, .string a, .string b, .int .i64 t] 25) := HBv1_6.out
      refine hK.out _ _ hS6 (fun _ => ?_)
      clear hK K hS5
      refine wpAnyH_takeD (i := 17) (v := .bool true) (some 23) rfl rfl (by kernel_rfl) (by kernel_rfl) (by kernel_rfl) (fun _ _ _ h => h) (Or.inl ⟨by rfl, by intro W _; go_simp⟩) hS6 ?_
      simp only [Act.put, List.setIfInBounds_toArray, List.set_cons_zero, List.set_cons_succ]
      refine wpAnyH_takeD (i := 18) (v := .bool true) (some 24) rfl rfl (by kernel_rfl) (by kernel_rfl) (by kernel_rfl) (fun _ _ _ h => h) (Or.inl ⟨by rfl, by intro W _; go_simp⟩) hS6 ?_
      simp only [Act.put, List.setIfInBounds_toArray, List.set_cons_zero, List.set_cons_succ]
      refine wpAnyH_takeD (i := 19) (v := .bool true) (some 2) rfl rfl (by kernel_rfl) (by kernel_rfl) (by kernel_rfl) (fun _ _ _ h => h) (Or.inl ⟨by rfl, by intro W _; go_simp⟩) hS6 ?_
      simp only [Act.put, List.setIfInBounds_toArray, List.set_cons_zero, List.set_cons_succ]
      clear hS6
      refine wpAnyH_done (by kernel_rfl) ?_ _
      go_wp2_with fail
      go_ret
      refine ⟨true, rfl, ?_, hb6⟩
      have zHur := Hur.out
      have zHut := Hut.out
      unfold BanP
      simp_all

set_option maxHeartbeats 8000000 in
set_option maxRecDepth 100000 in
theorem implBanOk_no (k : Int) (a b : ByteArray) (t : Int) (w : World) (h1 : ¬ k = 1) (h2 : ¬ k = 2) (h3 : ¬ k = 3) :
    Calls Tryd.prog 10 #[.agg #[.int .i64 k, .string a, .string b, .int .i64 t]] w fun e w' => BoolIs (BanP k a b t) w e w' := by
  have HK1 : Hid (¬ k = 1) := h1
  have HK2 : Hid (¬ k = 2) := h2
  have HK3 : Hid (¬ k = 3) := h3
  have hnn : ∀ W : World, (binOp .neq 44 .nilIface .nilIface).run Tryd.prog W = .ok (.bool false) W := fun _ => by kernel_rfl
  clear h1 h2 h3
  have hb0 : Below w.heap.size w w := Below.refl _ _
  go_enter Tryd.func10, Tryd.ntmps10
  go_upto_region 1 with fail
  obtain ⟨qv1, hqv1⟩ : ∃ q, q = (w).heap.size := ⟨_, rfl⟩
  obtain ⟨w1, hW1⟩ : ∃ W, W = (w).alloc (.cells #[.int .i64 k, .string a, .string b, .int .i64 t] 25) := ⟨_, rfl⟩
  have hz1 : (w).heap.size = qv1 := hqv1.symm
  first | rw [← hW1, ← hqv1] | rw [← hW1]
  have hs1 : w1.heap.size = qv1 + 1 := by rw [hW1, ← hz1]; simp
  have bw : Below (w).heap.size (w) w1 := by rw [hW1]; exact (Below.refl _ _).alloc (Nat.le_refl _) _
  have hb1 : Below w.heap.size w (w1) := hb0.trans (bw.mono hb0.size)
  have HM1 : Hid ((w).heap.size ≤ (w1).heap.size) := bw.size
  have HBv1_1 : Hid ((w1).heap[qv1]? = some (.cells #[.int .i64 k, .string a, .string b, .int .i64 t] 25)) := by show _ = _; rw [hW1, ← hz1]; exact heap_alloc_new _ _
  have HGv1 : Hid (w.heap.size ≤ qv1) := by show _ ≤ _; rw [← hz1]; exact hb0.size
  clear hb0 bw hW1 hz1
  clear hs1 hqv1
  have cv1_0 : (w1).cell? ⟨qv1, 0, none⟩ = some (.int .i64 k) := (cell_of HBv1_1.out 0).trans rfl
  have cv1_1 : (w1).cell? ⟨qv1, 1, none⟩ = some (.string a) := (cell_of HBv1_1.out 1).trans rfl
  have cv1_2 : (w1).cell? ⟨qv1, 2, none⟩ = some (.string b) := (cell_of HBv1_1.out 2).trans rfl
  have cv1_3 : (w1).cell? ⟨qv1, 3, none⟩ = some (.int .i64 t) := (cell_of HBv1_1.out 3).trans rfl
  go_wp2_with fail
  refine (ruleOf_no k a b t _ HK1.out HK2.out HK3.out).mono ?_
  rintro e w2 ⟨rfl, bw⟩
  have hb2 : Below w.heap.size w (w2) := hb1.trans (bw.mono hb1.size)
  have HM2 : Hid ((w1).heap.size ≤ (w2).heap.size) := bw.size
  have HBv1_2 : Hid ((w2).heap[qv1]? = some (.cells #[.int .i64 k, .string a, .string b, .int .i64 t] 25)) := blk_below HBv1_1.out bw
  clear hb1 HBv1_1 bw
  clear cv1_0 cv1_1 cv1_2 cv1_3
  go_upto_region 2 with fail
  refine wp_region_held_drew (S := fun W => W.heap[qv1]? = some (.cells #[.int .i64 k, .string a, .string b, .int .i64 t] 25)) (by kernel_rfl) HBv1_2.out (fun _ => ?_)
  obtain ⟨w3, hX⟩ : ∃ X, X = w2.drew := ⟨_, rfl⟩
  have bw : Below w2.heap.size w2 w3 := by rw [hX]; exact (Below.refl _ _).drew
  rw [← hX]
  have hb3 : Below w.heap.size w (w3) := hb2.trans (bw.mono hb2.size)
  have HM3 : Hid ((w2).heap.size ≤ (w3).heap.size) := bw.size
  have HBv1_3 : Hid ((w3).heap[qv1]? = some (.cells #[.int .i64 k, .string a, .string b, .int .i64 t] 25)) := blk_below HBv1_2.out bw
  have hS3 : w3.heap[qv1]? = some (.cells #[.int .i64 k, .string a, .string b, .int .i64 t] 25) := HBv1_3.out
  clear hb2 HBv1_2 bw hX
  refine wpAnyH_takeD (i := 0) (v := .nilIface) (some 6) rfl rfl (by kernel_rfl) (by kernel_rfl) (by kernel_rfl) (fun _ _ _ h => h) (Or.inl ⟨by rfl, by intro W _; go_simp⟩) hS3 ?_
  simp only [Act.put, List.setIfInBounds_toArray, List.set_cons_zero, List.set_cons_succ]
  refine wpAnyH_takeD (i := 1) (v := .bool false) (some 7) rfl rfl (by kernel_rfl) (by kernel_rfl) (by kernel_rfl) (fun _ _ _ h => h) (Or.inl ⟨by rfl, by intro W _; go_simp⟩) hS3 ?_
  simp only [Act.put, List.setIfInBounds_toArray, List.set_cons_zero, List.set_cons_succ]
  refine wpAnyH_takeD (i := 2) (v := .bool false) (some 8) rfl rfl (by kernel_rfl) (by kernel_rfl) (by kernel_rfl) (fun _ _ _ h => h) (Or.inl ⟨by rfl, by intro W _; go_simp⟩) hS3 ?_
  simp only [Act.put, List.setIfInBounds_toArray, List.set_cons_zero, List.set_cons_succ]
  refine wpAnyH_takeD (i := 3) (v := undef) (some 9) rfl rfl (by kernel_rfl) (by kernel_rfl) (by kernel_rfl) (fun _ _ _ h => h) (Or.inr ⟨by rfl, rfl⟩) hS3 ?_
  simp only [Act.put, List.setIfInBounds_toArray, List.set_cons_zero, List.set_cons_succ]
  refine wpAnyH_takeD (i := 4) (v := undef) (some 10) rfl rfl (by kernel_rfl) (by kernel_rfl) (by kernel_rfl) (fun _ _ _ h => h) (Or.inr ⟨by rfl, rfl⟩) hS3 ?_
  simp only [Act.put, List.setIfInBounds_toArray, List.set_cons_zero, List.set_cons_succ]
  refine wpAnyH_takeD (i := 5) (v := .bool false) (some 11) rfl rfl (by kernel_rfl) (by kernel_rfl) (by kernel_rfl) (fun _ _ _ h => h) (Or.inl ⟨by rfl, by intro W _; go_simp⟩) hS3 ?_
  simp only [Act.put, List.setIfInBounds_toArray, List.set_cons_zero, List.set_cons_succ]
  refine wpAnyH_takeD (i := 6) (v := .bool false) (some 12) rfl rfl (by kernel_rfl) (by kernel_rfl) (by kernel_rfl) (fun _ _ _ h => h) (Or.inl ⟨by rfl, by intro W _; go_simp⟩) hS3 ?_
  simp only [Act.put, List.setIfInBounds_toArray, List.set_cons_zero, List.set_cons_succ]
  refine wpAnyH_takeD (i := 7) (v := undef) (some 13) rfl rfl (by kernel_rfl) (by kernel_rfl) (by kernel_rfl) (fun _ _ _ h => h) (Or.inr ⟨by rfl, rfl⟩) hS3 ?_
  simp only [Act.put, List.setIfInBounds_toArray, List.set_cons_zero, List.set_cons_succ]
  refine wpAnyH_takeD (i := 8) (v := undef) (some 14) rfl rfl (by kernel_rfl) (by kernel_rfl) (by kernel_rfl) (fun _ _ _ h => h) (Or.inr ⟨by rfl, rfl⟩) hS3 ?_
  simp only [Act.put, List.setIfInBounds_toArray, List.set_cons_zero, List.set_cons_succ]
  refine wpAnyH_takeD (i := 9) (v := undef) (some 15) rfl rfl (by kernel_rfl) (by kernel_rfl) (by kernel_rfl) (fun _ _ _ h => h) (Or.inr ⟨by rfl, rfl⟩) hS3 ?_
  simp only [Act.put, List.setIfInBounds_toArray, List.set_cons_zero, List.set_cons_succ]
  refine wpAnyH_takeD (i := 10) (v := .bool false) (some 16) rfl rfl (by kernel_rfl) (by kernel_rfl) (by kernel_rfl) (fun _ _ _ h => h) (Or.inl ⟨by rfl, by intro W _; go_simp⟩) hS3 ?_
  simp only [Act.put, List.setIfInBounds_toArray, List.set_cons_zero, List.set_cons_succ]
  refine wpAnyH_takeD (i := 11) (v := .bool false) (some 17) rfl rfl (by kernel_rfl) (by kernel_rfl) (by kernel_rfl) (fun _ _ _ h => h) (Or.inl ⟨by rfl, by intro W _; go_simp⟩) hS3 ?_
  simp only [Act.put, List.setIfInBounds_toArray, List.set_cons_zero, List.set_cons_succ]
  refine wpAnyH_takeD (i := 12) (v := undef) (some 18) rfl rfl (by kernel_rfl) (by kernel_rfl) (by kernel_rfl) (fun _ _ _ h => h) (Or.inr ⟨by rfl, rfl⟩) hS3 ?_
  simp only [Act.put, List.setIfInBounds_toArray, List.set_cons_zero, List.set_cons_succ]
  refine wpAnyH_takeD (i := 13) (v := undef) (some 19) rfl rfl (by kernel_rfl) (by kernel_rfl) (by kernel_rfl) (fun _ _ _ h => h) (Or.inr ⟨by rfl, rfl⟩) hS3 ?_
  simp only [Act.put, List.setIfInBounds_toArray, List.set_cons_zero, List.set_cons_succ]
  refine wpAnyH_takeD (i := 14) (v := undef) (some 20) rfl rfl (by kernel_rfl) (by kernel_rfl) (by kernel_rfl) (fun _ _ _ h => h) (Or.inr ⟨by rfl, rfl⟩) hS3 ?_
  simp only [Act.put, List.setIfInBounds_toArray, List.set_cons_zero, List.set_cons_succ]
  refine wpAnyH_takeD (i := 15) (v := undef) (some 21) rfl rfl (by kernel_rfl) (by kernel_rfl) (by kernel_rfl) (fun _ _ _ h => h) (Or.inr ⟨by rfl, rfl⟩) hS3 ?_
  simp only [Act.put, List.setIfInBounds_toArray, List.set_cons_zero, List.set_cons_succ]
  refine wpAnyH_takeD (i := 16) (v := undef) (some 22) rfl rfl (by kernel_rfl) (by kernel_rfl) (by kernel_rfl) (fun _ _ _ h => h) (Or.inr ⟨by rfl, rfl⟩) hS3 ?_
  simp only [Act.put, List.setIfInBounds_toArray, List.set_cons_zero, List.set_cons_succ]
  refine wpAnyH_takeD (i := 17) (v := undef) (some 23) rfl rfl (by kernel_rfl) (by kernel_rfl) (by kernel_rfl) (fun _ _ _ h => h) (Or.inr ⟨by rfl, rfl⟩) hS3 ?_
  simp only [Act.put, List.setIfInBounds_toArray, List.set_cons_zero, List.set_cons_succ]
  refine wpAnyH_takeD (i := 18) (v := .bool false) (some 24) rfl rfl (by kernel_rfl) (by kernel_rfl) (by kernel_rfl) (fun _ _ _ h => h) (Or.inl ⟨by rfl, by intro W _; go_simp⟩) hS3 ?_
  simp only [Act.put, List.setIfInBounds_toArray, List.set_cons_zero, List.set_cons_succ]
  refine wpAnyH_takeD (i := 19) (v := .bool false) (some 2) rfl rfl (by kernel_rfl) (by kernel_rfl) (by kernel_rfl) (fun _ _ _ h => h) (Or.inl ⟨by rfl, by intro W _; go_simp⟩) hS3 ?_
  simp only [Act.put, List.setIfInBounds_toArray, List.set_cons_zero, List.set_cons_succ]
  clear hS3
  refine wpAnyH_done (by kernel_rfl) ?_ _
  go_wp2_with fail
  go_ret
  refine BoolIs.no ?_ hb3
  intro h
  rcases h.kinds with h | h | h
  · exact HK1.out h
  · exact HK2.out h
  · exact HK3.out h

theorem implBanOk_any (k : Int) (a b : ByteArray) (t : Int) (w : World) (ha : a.size ≤ maxLen) (hb : b.size ≤ maxLen) :
    Calls Tryd.prog 10 #[.agg #[.int .i64 k, .string a, .string b, .int .i64 t]] w fun e w' => BoolIs (BanP k a b t) w e w' := by
  classical
  by_cases h1 : k = 1
  · subst h1
    by_cases h : b = ⟨#[]⟩
    · subst h; exact implBanOk_1e a t w ha
    · exact implBanOk_1n a b t w ha h
  · by_cases h2 : k = 2
    · subst h2
      by_cases h : b = ⟨#[]⟩
      · subst h; exact implBanOk_2e a t w ha
      · exact implBanOk_2n a b t w ha h
    · by_cases h3 : k = 3
      · subst h3; exact implBanOk_3 a b t w ha hb
      · exact implBanOk_no k a b t w h1 h2 h3

end Go.Proofs.YtlmenolcgaakeaaDoor

namespace Go.Proofs.YtlmenolcgaakeaaDoor
open Go.RowKit
open Go.Lib hiding intOf

set_option maxHeartbeats 8000000 in
set_option maxRecDepth 100000 in
theorem kindName_1 (w : World) :
    Calls Tryd.prog 19 #[.int .i64 1] w fun e w' => e = .returned (.string ⟨#[112, 97, 116, 104]⟩) ∧ Below w.heap.size w w' := by
  have hb0 : Below w.heap.size w w := Below.refl _ _
  go_enter Tryd.func19, Tryd.ntmps19
  go_wp2_with fail
  go_ret
  exact ⟨rfl, hb0⟩

set_option maxHeartbeats 8000000 in
set_option maxRecDepth 100000 in
theorem kindName_2 (w : World) :
    Calls Tryd.prog 19 #[.int .i64 2] w fun e w' => e = .returned (.string ⟨#[98, 101, 108, 111, 119]⟩) ∧ Below w.heap.size w w' := by
  have hb0 : Below w.heap.size w w := Below.refl _ _
  go_enter Tryd.func19, Tryd.ntmps19
  go_wp2_with fail
  go_ret
  exact ⟨rfl, hb0⟩

set_option maxHeartbeats 8000000 in
set_option maxRecDepth 100000 in
theorem kindName_3 (w : World) :
    Calls Tryd.prog 19 #[.int .i64 3] w fun e w' => e = .returned (.string ⟨#[102, 105, 101, 108, 100]⟩) ∧ Below w.heap.size w w' := by
  have hb0 : Below w.heap.size w w := Below.refl _ _
  go_enter Tryd.func19, Tryd.ntmps19
  go_wp2_with fail
  go_ret
  exact ⟨rfl, hb0⟩

set_option maxHeartbeats 8000000 in
set_option maxRecDepth 100000 in
theorem implBanText_any (k : Int) (a b : ByteArray) (t : Int) (w : World) (ha : a.size ≤ maxLen) (hb : b.size ≤ maxLen) (hT : TabOk w) :
    Calls Tryd.prog 8 #[.agg #[.int .i64 k, .string a, .string b, .int .i64 t]] w fun e w' => TextOf (BanP k a b t) (banT k a b t) w e w' := by
  have HAM : Hid (a.size ≤ maxLen) := ha
  have HBM : Hid (b.size ≤ maxLen) := hb
  have HTB : Hid (∀ W, Below w.heap.size w W → TabOk W) := fun W h => hT.below h
  obtain ⟨tt, htt⟩ : ∃ x, x = numTextI t := ⟨_, rfl⟩
  have HTT : Hid (numTextI t = tt) := htt.symm
  clear ha hb htt hT
  have hb0 : Below w.heap.size w w := Below.refl _ _
  go_enter Tryd.func8, Tryd.ntmps8
  go_upto_region 1 with fail
  obtain ⟨qv1, hqv1⟩ : ∃ q, q = (w).heap.size := ⟨_, rfl⟩
  obtain ⟨w1, hW1⟩ : ∃ W, W = (w).alloc (.cells #[.int .i64 k, .string a, .string b, .int .i64 t] 25) := ⟨_, rfl⟩
  have hz1 : (w).heap.size = qv1 := hqv1.symm
  first | rw [← hW1, ← hqv1] | rw [← hW1]
  have hs1 : w1.heap.size = qv1 + 1 := by rw [hW1, ← hz1]; simp
  have bw : Below (w).heap.size (w) w1 := by rw [hW1]; exact (Below.refl _ _).alloc (Nat.le_refl _) _
  have hb1 : Below w.heap.size w (w1) := hb0.trans (bw.mono hb0.size)
  have HM1 : Hid ((w).heap.size ≤ (w1).heap.size) := bw.size
  have HBv1_1 : Hid ((w1).heap[qv1]? = some (.cells #[.int .i64 k, .string a, .string b, .int .i64 t] 25)) := by show _ = _; rw [hW1, ← hz1]; exact heap_alloc_new _ _
  have HGv1 : Hid (w.heap.size ≤ qv1) := by show _ ≤ _; rw [← hz1]; exact hb0.size
  clear hb0 bw hW1 hz1
  clear hs1 hqv1
  have cv1_0 : (w1).cell? ⟨qv1, 0, none⟩ = some (.int .i64 k) := (cell_of HBv1_1.out 0).trans rfl
  have cv1_1 : (w1).cell? ⟨qv1, 1, none⟩ = some (.string a) := (cell_of HBv1_1.out 1).trans rfl
  have cv1_2 : (w1).cell? ⟨qv1, 2, none⟩ = some (.string b) := (cell_of HBv1_1.out 2).trans rfl
  have cv1_3 : (w1).cell? ⟨qv1, 3, none⟩ = some (.int .i64 t) := (cell_of HBv1_1.out 3).trans rfl
  go_wp2_with fail
  refine (implBanOk_any k a b t _ HAM.out HBM.out).mono ?_
  rintro e w2 ⟨ub, rfl, htub, bw⟩
  have hb2 : Below w.heap.size w (w2) := hb1.trans (bw.mono hb1.size)
  have HM2 : Hid ((w1).heap.size ≤ (w2).heap.size) := bw.size
  have HBv1_2 : Hid ((w2).heap[qv1]? = some (.cells #[.int .i64 k, .string a, .string b, .int .i64 t] 25)) := blk_below HBv1_1.out bw
  clear hb1 HBv1_1 bw
  clear cv1_0 cv1_1 cv1_2 cv1_3
  cases ub with
  | false =>
    have HF : Hid (¬ BanP k a b t) := fun h => nomatch htub.2 h
    clear htub
    go_wp2_with fail
    go_ret
    exact ⟨⟨#[]⟩, rfl, fun h => absurd h HF.out, fun _ => rfl, hb2⟩
  | true =>
    have HOK : Hid (BanP k a b t) := htub.1 rfl
    clear htub
    have HT : Hid (0 ≤ t ∧ t ≤ 1000000) := HOK.out.1
    have za : a.size ≤ 60 := HOK.out.a_size.1
    have zb : b.size ≤ 60 := HOK.out.a_size.2
    have ztt : tt.size ≤ 8 := by rw [← HTT.out, numTextI_of HT.out.1]; exact numText_size _
    rcases HOK.out.kinds with rfl | rfl | rfl
    · go_upto_region 3 with fail
      refine wp_region_held_drew (S := fun W => W.heap[qv1]? = some (.cells #[.int .i64 1, .string a, .string b, .int .i64 t] 25)) (by kernel_rfl) HBv1_2.out (fun _ => ?_)
      obtain ⟨w3, hX⟩ : ∃ X, X = w2.drew := ⟨_, rfl⟩
      have bw : Below w2.heap.size w2 w3 := by rw [hX]; exact (Below.refl _ _).drew
      rw [← hX]
      have hb3 : Below w.heap.size w (w3) := hb2.trans (bw.mono hb2.size)
      have HM3 : Hid ((w2).heap.size ≤ (w3).heap.size) := bw.size
      have HBv1_3 : Hid ((w3).heap[qv1]? = some (.cells #[.int .i64 1, .string a, .string b, .int .i64 t] 25)) := blk_below HBv1_2.out bw
      have hS3 : w3.heap[qv1]? = some (.cells #[.int .i64 1, .string a, .string b, .int .i64 t] 25) := HBv1_3.out
      clear hb2 HBv1_2 bw hX
      refine wpAnyH_takeD (i := 0) (v := .pointer (some ⟨qv1, 0, none⟩)) (some 7) rfl rfl (by kernel_rfl) (by kernel_rfl) (by kernel_rfl) (fun _ _ _ h => h) (Or.inl ⟨by rfl, by intro W _; go_simp⟩) hS3 ?_
      simp only [Act.put, List.setIfInBounds_toArray, List.set_cons_zero, List.set_cons_succ]
      refine wpAnyH_takeD (i := 1) (v := .int .i64 1) (some 8) rfl rfl (by kernel_rfl) (by kernel_rfl) (by kernel_rfl) (fun _ _ _ h => h) (Or.inl ⟨by rfl, by intro W hW; have hhv1 := hW; have y0 := (cell_of hhv1 0).trans rfl; go_simp⟩) hS3 ?_
      simp only [Act.put, List.setIfInBounds_toArray, List.set_cons_zero, List.set_cons_succ]
      refine wpAnyH_takeD (i := 5) (v := .pointer (some ⟨qv1, 3, none⟩)) (some 12) rfl rfl (by kernel_rfl) (by kernel_rfl) (by kernel_rfl) (fun _ _ _ h => h) (Or.inl ⟨by rfl, by intro W _; go_simp⟩) hS3 ?_
      simp only [Act.put, List.setIfInBounds_toArray, List.set_cons_zero, List.set_cons_succ]
      refine wpAnyH_takeD (i := 6) (v := .int .i64 t) (some 13) rfl rfl (by kernel_rfl) (by kernel_rfl) (by kernel_rfl) (fun _ _ _ h => h) (Or.inl ⟨by rfl, by intro W hW; have hhv1 := hW; have y3 := (cell_of hhv1 3).trans rfl; go_simp⟩) hS3 ?_
      simp only [Act.put, List.setIfInBounds_toArray, List.set_cons_zero, List.set_cons_succ]
      refine wpAnyH_takeD (i := 10) (v := .pointer (some ⟨qv1, 1, none⟩)) (some 17) rfl rfl (by kernel_rfl) (by kernel_rfl) (by kernel_rfl) (fun _ _ _ h => h) (Or.inl ⟨by rfl, by intro W _; go_simp⟩) hS3 ?_
      simp only [Act.put, List.setIfInBounds_toArray, List.set_cons_zero, List.set_cons_succ]
      refine wpAnyH_takeD (i := 11) (v := .string a) (some 18) rfl rfl (by kernel_rfl) (by kernel_rfl) (by kernel_rfl) (fun _ _ _ h => h) (Or.inl ⟨by rfl, by intro W hW; have hhv1 := hW; have y1 := (cell_of hhv1 1).trans rfl; go_simp⟩) hS3 ?_
      simp only [Act.put, List.setIfInBounds_toArray, List.set_cons_zero, List.set_cons_succ]
      refine wpAnyH_ready (rs := [2]) (by kernel_rfl) (by simp) ?_
      refine AllReadyH.cons rfl (fun K hK => ?_) AllReadyH.nil
      go_simp
      refine (kindName_1 _).mono ?_
      rintro e w4 ⟨rfl, bw⟩
      have hb4 : Below w.heap.size w (w4) := hb3.trans (bw.mono hb3.size)
      have HM4 : Hid ((w3).heap.size ≤ (w4).heap.size) := bw.size
      have HBv1_4 : Hid ((w4).heap[qv1]? = some (.cells #[.int .i64 1, .string a, .string b, .int .i64 t] 25)) := blk_below HBv1_3.out bw
      clear hb3 HBv1_3 bw
      have hS4 : w4.heap[qv1]? = some (.cells #[.int .i64 1, .string a, .string b, .int .i64 t] 25) := HBv1_4.out
      refine hK.out _ _ hS4 (fun _ => ?_)
      clear hK K hS3
      refine wpAnyH_takeD (i := 3) (v := .string (⟨#[98, 97, 110, 32]⟩ ++ ⟨#[112, 97, 116, 104]⟩)) (some 10) rfl rfl (by kernel_rfl) (by kernel_rfl) (by kernel_rfl) (fun _ _ _ h => h) (Or.inl ⟨by rfl, by intro W _; go_simp <;> omega⟩) hS4 ?_
      simp only [Act.put, List.setIfInBounds_toArray, List.set_cons_zero, List.set_cons_succ]
      refine wpAnyH_takeD (i := 4) (v := .string ((⟨#[98, 97, 110, 32]⟩ ++ ⟨#[112, 97, 116, 104]⟩) ++ ⟨#[32]⟩)) (some 11) rfl rfl (by kernel_rfl) (by kernel_rfl) (by kernel_rfl) (fun _ _ _ h => h) (Or.inl ⟨by rfl, by intro W _; go_simp <;> omega⟩) hS4 ?_
      simp only [Act.put, List.setIfInBounds_toArray, List.set_cons_zero, List.set_cons_succ]
      refine wpAnyH_ready (rs := [7]) (by kernel_rfl) (by simp) ?_
      refine AllReadyH.cons rfl (fun K hK => ?_) AllReadyH.nil
      go_simp
      refine (implNumText_any t _ (by have := HT.out; omega) (by have := HT.out; omega) (HTB.out _ hb4)).mono ?_
      rintro e w5 ⟨rfl, bw⟩
      rw [HTT.out]
      have hb5 : Below w.heap.size w (w5) := hb4.trans (bw.mono hb4.size)
      have HM5 : Hid ((w4).heap.size ≤ (w5).heap.size) := bw.size
      have HBv1_5 : Hid ((w5).heap[qv1]? = some (.cells #[.int .i64 1, .string a, .string b, .int .i64 t] 25)) := blk_below HBv1_4.out bw
      clear hb4 HBv1_4 bw
      have hS5 : w5.heap[qv1]? = some (.cells #[.int .i64 1, .string a, .string b, .int .i64 t] 25) := HBv1_5.out
      refine hK.out _ _ hS5 (fun _ => ?_)
      clear hK K hS4
      refine wpAnyH_takeD (i := 8) (v := .string (((⟨#[98, 97, 110, 32]⟩ ++ ⟨#[112, 97, 116, 104]⟩) ++ ⟨#[32]⟩) ++ tt)) (some 15) rfl rfl (by kernel_rfl) (by kernel_rfl) (by kernel_rfl) (fun _ _ _ h => h) (Or.inl ⟨by rfl, by intro W _; go_simp <;> omega⟩) hS5 ?_
      simp only [Act.put, List.setIfInBounds_toArray, List.set_cons_zero, List.set_cons_succ]
      refine wpAnyH_takeD (i := 9) (v := .string ((((⟨#[98, 97, 110, 32]⟩ ++ ⟨#[112, 97, 116, 104]⟩) ++ ⟨#[32]⟩) ++ tt) ++ ⟨#[32]⟩)) (some 16) rfl rfl (by kernel_rfl) (by kernel_rfl) (by kernel_rfl) (fun _ _ _ h => h) (Or.inl ⟨by rfl, by intro W _; go_simp <;> omega⟩) hS5 ?_
      simp only [Act.put, List.setIfInBounds_toArray, List.set_cons_zero, List.set_cons_succ]
      refine wpAnyH_takeD (i := 12) (v := .string (((((⟨#[98, 97, 110, 32]⟩ ++ ⟨#[112, 97, 116, 104]⟩) ++ ⟨#[32]⟩) ++ tt) ++ ⟨#[32]⟩) ++ a)) (some 19) rfl rfl (by kernel_rfl) (by kernel_rfl) (by kernel_rfl) (fun _ _ _ h => h) (Or.inl ⟨by rfl, by intro W _; go_simp <;> omega⟩) hS5 ?_
      simp only [Act.put, List.setIfInBounds_toArray, List.set_cons_zero, List.set_cons_succ]
      refine wpAnyH_takeD (i := 13) (v := .string (((((⟨#[98, 97, 110, 32]⟩ ++ ⟨#[112, 97, 116, 104]⟩) ++ ⟨#[32]⟩) ++ tt) ++ ⟨#[32]⟩) ++ a)) (some 3) rfl rfl (by kernel_rfl) (by kernel_rfl) (by kernel_rfl) (fun _ _ _ h => h) (Or.inl ⟨by rfl, by intro W _; go_simp⟩) hS5 ?_
      simp only [Act.put, List.setIfInBounds_toArray, List.set_cons_zero, List.set_cons_succ]
      clear hS5
      refine wpAnyH_done (by kernel_rfl) ?_ _
      have cv1_0 : (w5).cell? ⟨qv1, 0, none⟩ = some (.int .i64 1) := (cell_of HBv1_5.out 0).trans rfl
      go_wp2_with fail
      go_ret
      exact ⟨_, rfl, fun _ => by rw [← HTT.out, numTextI_of HT.out.1]; first | rfl | (unfold banT banH; simp [bkW, banW, ByteArray.append_assoc]; done), fun h => absurd HOK.out h, hb5⟩
    · go_upto_region 3 with fail
      refine wp_region_held_drew (S := fun W => W.heap[qv1]? = some (.cells #[.int .i64 2, .string a, .string b, .int .i64 t] 25)) (by kernel_rfl) HBv1_2.out (fun _ => ?_)
      obtain ⟨w3, hX⟩ : ∃ X, X = w2.drew := ⟨_, rfl⟩
      have bw : Below w2.heap.size w2 w3 := by rw [hX]; exact (Below.refl _ _).drew
      rw [← hX]
      have hb3 : Below w.heap.size w (w3) := hb2.trans (bw.mono hb2.size)
      have HM3 : Hid ((w2).heap.size ≤ (w3).heap.size) := bw.size
      have HBv1_3 : Hid ((w3).heap[qv1]? = some (.cells #[.int .i64 2, .string a, .string b, .int .i64 t] 25)) := blk_below HBv1_2.out bw
      have hS3 : w3.heap[qv1]? = some (.cells #[.int .i64 2, .string a, .string b, .int .i64 t] 25) := HBv1_3.out
      clear hb2 HBv1_2 bw hX
      refine wpAnyH_takeD (i := 0) (v := .pointer (some ⟨qv1, 0, none⟩)) (some 7) rfl rfl (by kernel_rfl) (by kernel_rfl) (by kernel_rfl) (fun _ _ _ h => h) (Or.inl ⟨by rfl, by intro W _; go_simp⟩) hS3 ?_
      simp only [Act.put, List.setIfInBounds_toArray, List.set_cons_zero, List.set_cons_succ]
      refine wpAnyH_takeD (i := 1) (v := .int .i64 2) (some 8) rfl rfl (by kernel_rfl) (by kernel_rfl) (by kernel_rfl) (fun _ _ _ h => h) (Or.inl ⟨by rfl, by intro W hW; have hhv1 := hW; have y0 := (cell_of hhv1 0).trans rfl; go_simp⟩) hS3 ?_
      simp only [Act.put, List.setIfInBounds_toArray, List.set_cons_zero, List.set_cons_succ]
      refine wpAnyH_takeD (i := 5) (v := .pointer (some ⟨qv1, 3, none⟩)) (some 12) rfl rfl (by kernel_rfl) (by kernel_rfl) (by kernel_rfl) (fun _ _ _ h => h) (Or.inl ⟨by rfl, by intro W _; go_simp⟩) hS3 ?_
      simp only [Act.put, List.setIfInBounds_toArray, List.set_cons_zero, List.set_cons_succ]
      refine wpAnyH_takeD (i := 6) (v := .int .i64 t) (some 13) rfl rfl (by kernel_rfl) (by kernel_rfl) (by kernel_rfl) (fun _ _ _ h => h) (Or.inl ⟨by rfl, by intro W hW; have hhv1 := hW; have y3 := (cell_of hhv1 3).trans rfl; go_simp⟩) hS3 ?_
      simp only [Act.put, List.setIfInBounds_toArray, List.set_cons_zero, List.set_cons_succ]
      refine wpAnyH_takeD (i := 10) (v := .pointer (some ⟨qv1, 1, none⟩)) (some 17) rfl rfl (by kernel_rfl) (by kernel_rfl) (by kernel_rfl) (fun _ _ _ h => h) (Or.inl ⟨by rfl, by intro W _; go_simp⟩) hS3 ?_
      simp only [Act.put, List.setIfInBounds_toArray, List.set_cons_zero, List.set_cons_succ]
      refine wpAnyH_takeD (i := 11) (v := .string a) (some 18) rfl rfl (by kernel_rfl) (by kernel_rfl) (by kernel_rfl) (fun _ _ _ h => h) (Or.inl ⟨by rfl, by intro W hW; have hhv1 := hW; have y1 := (cell_of hhv1 1).trans rfl; go_simp⟩) hS3 ?_
      simp only [Act.put, List.setIfInBounds_toArray, List.set_cons_zero, List.set_cons_succ]
      refine wpAnyH_ready (rs := [2]) (by kernel_rfl) (by simp) ?_
      refine AllReadyH.cons rfl (fun K hK => ?_) AllReadyH.nil
      go_simp
      refine (kindName_2 _).mono ?_
      rintro e w4 ⟨rfl, bw⟩
      have hb4 : Below w.heap.size w (w4) := hb3.trans (bw.mono hb3.size)
      have HM4 : Hid ((w3).heap.size ≤ (w4).heap.size) := bw.size
      have HBv1_4 : Hid ((w4).heap[qv1]? = some (.cells #[.int .i64 2, .string a, .string b, .int .i64 t] 25)) := blk_below HBv1_3.out bw
      clear hb3 HBv1_3 bw
      have hS4 : w4.heap[qv1]? = some (.cells #[.int .i64 2, .string a, .string b, .int .i64 t] 25) := HBv1_4.out
      refine hK.out _ _ hS4 (fun _ => ?_)
      clear hK K hS3
      refine wpAnyH_takeD (i := 3) (v := .string (⟨#[98, 97, 110, 32]⟩ ++ ⟨#[98, 101, 108, 111, 119]⟩)) (some 10) rfl rfl (by kernel_rfl) (by kernel_rfl) (by kernel_rfl) (fun _ _ _ h => h) (Or.inl ⟨by rfl, by intro W _; go_simp <;> omega⟩) hS4 ?_
      simp only [Act.put, List.setIfInBounds_toArray, List.set_cons_zero, List.set_cons_succ]
      refine wpAnyH_takeD (i := 4) (v := .string ((⟨#[98, 97, 110, 32]⟩ ++ ⟨#[98, 101, 108, 111, 119]⟩) ++ ⟨#[32]⟩)) (some 11) rfl rfl (by kernel_rfl) (by kernel_rfl) (by kernel_rfl) (fun _ _ _ h => h) (Or.inl ⟨by rfl, by intro W _; go_simp <;> omega⟩) hS4 ?_
      simp only [Act.put, List.setIfInBounds_toArray, List.set_cons_zero, List.set_cons_succ]
      refine wpAnyH_ready (rs := [7]) (by kernel_rfl) (by simp) ?_
      refine AllReadyH.cons rfl (fun K hK => ?_) AllReadyH.nil
      go_simp
      refine (implNumText_any t _ (by have := HT.out; omega) (by have := HT.out; omega) (HTB.out _ hb4)).mono ?_
      rintro e w5 ⟨rfl, bw⟩
      rw [HTT.out]
      have hb5 : Below w.heap.size w (w5) := hb4.trans (bw.mono hb4.size)
      have HM5 : Hid ((w4).heap.size ≤ (w5).heap.size) := bw.size
      have HBv1_5 : Hid ((w5).heap[qv1]? = some (.cells #[.int .i64 2, .string a, .string b, .int .i64 t] 25)) := blk_below HBv1_4.out bw
      clear hb4 HBv1_4 bw
      have hS5 : w5.heap[qv1]? = some (.cells #[.int .i64 2, .string a, .string b, .int .i64 t] 25) := HBv1_5.out
      refine hK.out _ _ hS5 (fun _ => ?_)
      clear hK K hS4
      refine wpAnyH_takeD (i := 8) (v := .string (((⟨#[98, 97, 110, 32]⟩ ++ ⟨#[98, 101, 108, 111, 119]⟩) ++ ⟨#[32]⟩) ++ tt)) (some 15) rfl rfl (by kernel_rfl) (by kernel_rfl) (by kernel_rfl) (fun _ _ _ h => h) (Or.inl ⟨by rfl, by intro W _; go_simp <;> omega⟩) hS5 ?_
      simp only [Act.put, List.setIfInBounds_toArray, List.set_cons_zero, List.set_cons_succ]
      refine wpAnyH_takeD (i := 9) (v := .string ((((⟨#[98, 97, 110, 32]⟩ ++ ⟨#[98, 101, 108, 111, 119]⟩) ++ ⟨#[32]⟩) ++ tt) ++ ⟨#[32]⟩)) (some 16) rfl rfl (by kernel_rfl) (by kernel_rfl) (by kernel_rfl) (fun _ _ _ h => h) (Or.inl ⟨by rfl, by intro W _; go_simp <;> omega⟩) hS5 ?_
      simp only [Act.put, List.setIfInBounds_toArray, List.set_cons_zero, List.set_cons_succ]
      refine wpAnyH_takeD (i := 12) (v := .string (((((⟨#[98, 97, 110, 32]⟩ ++ ⟨#[98, 101, 108, 111, 119]⟩) ++ ⟨#[32]⟩) ++ tt) ++ ⟨#[32]⟩) ++ a)) (some 19) rfl rfl (by kernel_rfl) (by kernel_rfl) (by kernel_rfl) (fun _ _ _ h => h) (Or.inl ⟨by rfl, by intro W _; go_simp <;> omega⟩) hS5 ?_
      simp only [Act.put, List.setIfInBounds_toArray, List.set_cons_zero, List.set_cons_succ]
      refine wpAnyH_takeD (i := 13) (v := .string (((((⟨#[98, 97, 110, 32]⟩ ++ ⟨#[98, 101, 108, 111, 119]⟩) ++ ⟨#[32]⟩) ++ tt) ++ ⟨#[32]⟩) ++ a)) (some 3) rfl rfl (by kernel_rfl) (by kernel_rfl) (by kernel_rfl) (fun _ _ _ h => h) (Or.inl ⟨by rfl, by intro W _; go_simp⟩) hS5 ?_
      simp only [Act.put, List.setIfInBounds_toArray, List.set_cons_zero, List.set_cons_succ]
      clear hS5
      refine wpAnyH_done (by kernel_rfl) ?_ _
      have cv1_0 : (w5).cell? ⟨qv1, 0, none⟩ = some (.int .i64 2) := (cell_of HBv1_5.out 0).trans rfl
      go_wp2_with fail
      go_ret
      exact ⟨_, rfl, fun _ => by rw [← HTT.out, numTextI_of HT.out.1]; first | rfl | (unfold banT banH; simp [bkW, banW, ByteArray.append_assoc]; done), fun h => absurd HOK.out h, hb5⟩
    · go_upto_region 3 with fail
      refine wp_region_held_drew (S := fun W => W.heap[qv1]? = some (.cells #[.int .i64 3, .string a, .string b, .int .i64 t] 25)) (by kernel_rfl) HBv1_2.out (fun _ => ?_)
      obtain ⟨w3, hX⟩ : ∃ X, X = w2.drew := ⟨_, rfl⟩
      have bw : Below w2.heap.size w2 w3 := by rw [hX]; exact (Below.refl _ _).drew
      rw [← hX]
      have hb3 : Below w.heap.size w (w3) := hb2.trans (bw.mono hb2.size)
      have HM3 : Hid ((w2).heap.size ≤ (w3).heap.size) := bw.size
      have HBv1_3 : Hid ((w3).heap[qv1]? = some (.cells #[.int .i64 3, .string a, .string b, .int .i64 t] 25)) := blk_below HBv1_2.out bw
      have hS3 : w3.heap[qv1]? = some (.cells #[.int .i64 3, .string a, .string b, .int .i64 t] 25) := HBv1_3.out
      clear hb2 HBv1_2 bw hX
      refine wpAnyH_takeD (i := 0) (v := .pointer (some ⟨qv1, 0, none⟩)) (some 7) rfl rfl (by kernel_rfl) (by kernel_rfl) (by kernel_rfl) (fun _ _ _ h => h) (Or.inl ⟨by rfl, by intro W _; go_simp⟩) hS3 ?_
      simp only [Act.put, List.setIfInBounds_toArray, List.set_cons_zero, List.set_cons_succ]
      refine wpAnyH_takeD (i := 1) (v := .int .i64 3) (some 8) rfl rfl (by kernel_rfl) (by kernel_rfl) (by kernel_rfl) (fun _ _ _ h => h) (Or.inl ⟨by rfl, by intro W hW; have hhv1 := hW; have y0 := (cell_of hhv1 0).trans rfl; go_simp⟩) hS3 ?_
      simp only [Act.put, List.setIfInBounds_toArray, List.set_cons_zero, List.set_cons_succ]
      refine wpAnyH_takeD (i := 5) (v := .pointer (some ⟨qv1, 3, none⟩)) (some 12) rfl rfl (by kernel_rfl) (by kernel_rfl) (by kernel_rfl) (fun _ _ _ h => h) (Or.inl ⟨by rfl, by intro W _; go_simp⟩) hS3 ?_
      simp only [Act.put, List.setIfInBounds_toArray, List.set_cons_zero, List.set_cons_succ]
      refine wpAnyH_takeD (i := 6) (v := .int .i64 t) (some 13) rfl rfl (by kernel_rfl) (by kernel_rfl) (by kernel_rfl) (fun _ _ _ h => h) (Or.inl ⟨by rfl, by intro W hW; have hhv1 := hW; have y3 := (cell_of hhv1 3).trans rfl; go_simp⟩) hS3 ?_
      simp only [Act.put, List.setIfInBounds_toArray, List.set_cons_zero, List.set_cons_succ]
      refine wpAnyH_takeD (i := 10) (v := .pointer (some ⟨qv1, 1, none⟩)) (some 17) rfl rfl (by kernel_rfl) (by kernel_rfl) (by kernel_rfl) (fun _ _ _ h => h) (Or.inl ⟨by rfl, by intro W _; go_simp⟩) hS3 ?_
      simp only [Act.put, List.setIfInBounds_toArray, List.set_cons_zero, List.set_cons_succ]
      refine wpAnyH_takeD (i := 11) (v := .string a) (some 18) rfl rfl (by kernel_rfl) (by kernel_rfl) (by kernel_rfl) (fun _ _ _ h => h) (Or.inl ⟨by rfl, by intro W hW; have hhv1 := hW; have y1 := (cell_of hhv1 1).trans rfl; go_simp⟩) hS3 ?_
      simp only [Act.put, List.setIfInBounds_toArray, List.set_cons_zero, List.set_cons_succ]
      refine wpAnyH_ready (rs := [2]) (by kernel_rfl) (by simp) ?_
      refine AllReadyH.cons rfl (fun K hK => ?_) AllReadyH.nil
      go_simp
      refine (kindName_3 _).mono ?_
      rintro e w4 ⟨rfl, bw⟩
      have hb4 : Below w.heap.size w (w4) := hb3.trans (bw.mono hb3.size)
      have HM4 : Hid ((w3).heap.size ≤ (w4).heap.size) := bw.size
      have HBv1_4 : Hid ((w4).heap[qv1]? = some (.cells #[.int .i64 3, .string a, .string b, .int .i64 t] 25)) := blk_below HBv1_3.out bw
      clear hb3 HBv1_3 bw
      have hS4 : w4.heap[qv1]? = some (.cells #[.int .i64 3, .string a, .string b, .int .i64 t] 25) := HBv1_4.out
      refine hK.out _ _ hS4 (fun _ => ?_)
      clear hK K hS3
      refine wpAnyH_takeD (i := 3) (v := .string (⟨#[98, 97, 110, 32]⟩ ++ ⟨#[102, 105, 101, 108, 100]⟩)) (some 10) rfl rfl (by kernel_rfl) (by kernel_rfl) (by kernel_rfl) (fun _ _ _ h => h) (Or.inl ⟨by rfl, by intro W _; go_simp <;> omega⟩) hS4 ?_
      simp only [Act.put, List.setIfInBounds_toArray, List.set_cons_zero, List.set_cons_succ]
      refine wpAnyH_takeD (i := 4) (v := .string ((⟨#[98, 97, 110, 32]⟩ ++ ⟨#[102, 105, 101, 108, 100]⟩) ++ ⟨#[32]⟩)) (some 11) rfl rfl (by kernel_rfl) (by kernel_rfl) (by kernel_rfl) (fun _ _ _ h => h) (Or.inl ⟨by rfl, by intro W _; go_simp <;> omega⟩) hS4 ?_
      simp only [Act.put, List.setIfInBounds_toArray, List.set_cons_zero, List.set_cons_succ]
      refine wpAnyH_ready (rs := [7]) (by kernel_rfl) (by simp) ?_
      refine AllReadyH.cons rfl (fun K hK => ?_) AllReadyH.nil
      go_simp
      refine (implNumText_any t _ (by have := HT.out; omega) (by have := HT.out; omega) (HTB.out _ hb4)).mono ?_
      rintro e w5 ⟨rfl, bw⟩
      rw [HTT.out]
      have hb5 : Below w.heap.size w (w5) := hb4.trans (bw.mono hb4.size)
      have HM5 : Hid ((w4).heap.size ≤ (w5).heap.size) := bw.size
      have HBv1_5 : Hid ((w5).heap[qv1]? = some (.cells #[.int .i64 3, .string a, .string b, .int .i64 t] 25)) := blk_below HBv1_4.out bw
      clear hb4 HBv1_4 bw
      have hS5 : w5.heap[qv1]? = some (.cells #[.int .i64 3, .string a, .string b, .int .i64 t] 25) := HBv1_5.out
      refine hK.out _ _ hS5 (fun _ => ?_)
      clear hK K hS4
      refine wpAnyH_takeD (i := 8) (v := .string (((⟨#[98, 97, 110, 32]⟩ ++ ⟨#[102, 105, 101, 108, 100]⟩) ++ ⟨#[32]⟩) ++ tt)) (some 15) rfl rfl (by kernel_rfl) (by kernel_rfl) (by kernel_rfl) (fun _ _ _ h => h) (Or.inl ⟨by rfl, by intro W _; go_simp <;> omega⟩) hS5 ?_
      simp only [Act.put, List.setIfInBounds_toArray, List.set_cons_zero, List.set_cons_succ]
      refine wpAnyH_takeD (i := 9) (v := .string ((((⟨#[98, 97, 110, 32]⟩ ++ ⟨#[102, 105, 101, 108, 100]⟩) ++ ⟨#[32]⟩) ++ tt) ++ ⟨#[32]⟩)) (some 16) rfl rfl (by kernel_rfl) (by kernel_rfl) (by kernel_rfl) (fun _ _ _ h => h) (Or.inl ⟨by rfl, by intro W _; go_simp <;> omega⟩) hS5 ?_
      simp only [Act.put, List.setIfInBounds_toArray, List.set_cons_zero, List.set_cons_succ]
      refine wpAnyH_takeD (i := 12) (v := .string (((((⟨#[98, 97, 110, 32]⟩ ++ ⟨#[102, 105, 101, 108, 100]⟩) ++ ⟨#[32]⟩) ++ tt) ++ ⟨#[32]⟩) ++ a)) (some 19) rfl rfl (by kernel_rfl) (by kernel_rfl) (by kernel_rfl) (fun _ _ _ h => h) (Or.inl ⟨by rfl, by intro W _; go_simp <;> omega⟩) hS5 ?_
      simp only [Act.put, List.setIfInBounds_toArray, List.set_cons_zero, List.set_cons_succ]
      refine wpAnyH_takeD (i := 13) (v := .string (((((⟨#[98, 97, 110, 32]⟩ ++ ⟨#[102, 105, 101, 108, 100]⟩) ++ ⟨#[32]⟩) ++ tt) ++ ⟨#[32]⟩) ++ a)) (some 3) rfl rfl (by kernel_rfl) (by kernel_rfl) (by kernel_rfl) (fun _ _ _ h => h) (Or.inl ⟨by rfl, by intro W _; go_simp⟩) hS5 ?_
      simp only [Act.put, List.setIfInBounds_toArray, List.set_cons_zero, List.set_cons_succ]
      clear hS5
      refine wpAnyH_done (by kernel_rfl) ?_ _
      have cv1_0 : (w5).cell? ⟨qv1, 0, none⟩ = some (.int .i64 3) := (cell_of HBv1_5.out 0).trans rfl
      have cv1_2 : (w5).cell? ⟨qv1, 2, none⟩ = some (.string b) := (cell_of HBv1_5.out 2).trans rfl
      go_wp2_with fail
      go_ret
      exact ⟨_, rfl, fun _ => by rw [← HTT.out, numTextI_of HT.out.1]; first | rfl | (unfold banT banH; simp [bkW, banW, ByteArray.append_assoc]; done), fun h => absurd HOK.out h, hb5⟩

end Go.Proofs.YtlmenolcgaakeaaDoor

namespace Go.Proofs.YtlmenolcgaakeaaDoor
open Go.ChangeShapes Go.WideShapes Go.ChangeAt Go.RowKit

theorem gTabType : (Tryd.prog.globals[0]?).map (·.type) = some 99 := by kernel_rfl
theorem cells62 : Tryd.prog.cellsOf 99 = 20 := by kernel_rfl
theorem cells55 : Tryd.prog.cellsOf 90 = 1 := by kernel_rfl
theorem table {W : World} (h : laidMetH Tryd.prog Rows.fnBansRow.laid W) : TabOk W := by
  have h1 : laidMet Tryd.prog Rows.fnBansRow.laid W := h
  obtain ⟨ps, hl, _⟩ := h1
  obtain ⟨g1, t1, cs1, f1, p1, q1, _, _, _, _, hr1, _⟩ := hl
  obtain ⟨g2, t2, cs2, f2, p2, q2, _, _, _, _, hr2, _⟩ := hr1
  obtain ⟨g3, t3, cs3, f3, p3, q3, hg, ht, hvar, hd, _, _⟩ := hr2
  obtain rfl := Option.some.inj (gTab.symm.trans hg)
  obtain rfl := Option.some.inj (gTabType.symm.trans ht)
  unfold TabOk Lib.TabIs
  rw [hvar, ← Lib.cells_of_tab (zs := Lib.pow10Tab) Tryd.underlying99 Tryd.underlying90 cells55 cells62 hd]

/-- A world with the three tables as their initialisers lay them. -/
def withTables (w : World) : World :=
  { w with heap := ((w.heap.modify 0 fun
      | .cells _ t frozen => .cells #[.int .u64 1, .int .u64 10, .int .u64 100, .int .u64 1000, .int .u64 10000, .int .u64 100000, .int .u64 1000000, .int .u64 10000000, .int .u64 100000000, .int .u64 1000000000, .int .u64 10000000000, .int .u64 100000000000, .int .u64 1000000000000, .int .u64 10000000000000, .int .u64 100000000000000, .int .u64 1000000000000000, .int .u64 10000000000000000, .int .u64 100000000000000000, .int .u64 1000000000000000000, .int .u64 10000000000000000000] t frozen
      | o => o).modify 2 fun
      | .cells _ t frozen => .cells #[.int .u8 0, .int .u8 1, .int .u8 28, .int .u8 2, .int .u8 29, .int .u8 14, .int .u8 24, .int .u8 3, .int .u8 30, .int .u8 22, .int .u8 20, .int .u8 15, .int .u8 25, .int .u8 17, .int .u8 4, .int .u8 8, .int .u8 31, .int .u8 27, .int .u8 13, .int .u8 23, .int .u8 21, .int .u8 19, .int .u8 16, .int .u8 7, .int .u8 26, .int .u8 12, .int .u8 18, .int .u8 6, .int .u8 11, .int .u8 5, .int .u8 10, .int .u8 9] t frozen
      | o => o).modify 3 fun
      | .cells _ t frozen => .cells #[.int .u8 0, .int .u8 1, .int .u8 56, .int .u8 2, .int .u8 57, .int .u8 49, .int .u8 28, .int .u8 3, .int .u8 61, .int .u8 58, .int .u8 42, .int .u8 50, .int .u8 38, .int .u8 29, .int .u8 17, .int .u8 4, .int .u8 62, .int .u8 47, .int .u8 59, .int .u8 36, .int .u8 45, .int .u8 43, .int .u8 51, .int .u8 22, .int .u8 53, .int .u8 39, .int .u8 33, .int .u8 30, .int .u8 24, .int .u8 18, .int .u8 12, .int .u8 5, .int .u8 63, .int .u8 55, .int .u8 48, .int .u8 27, .int .u8 60, .int .u8 41, .int .u8 37, .int .u8 16, .int .u8 46, .int .u8 35, .int .u8 44, .int .u8 21, .int .u8 52, .int .u8 32, .int .u8 23, .int .u8 11, .int .u8 54, .int .u8 26, .int .u8 40, .int .u8 15, .int .u8 34, .int .u8 20, .int .u8 31, .int .u8 10, .int .u8 25, .int .u8 14, .int .u8 19, .int .u8 9, .int .u8 13, .int .u8 8, .int .u8 7, .int .u8 6] t frozen
      | o => o }
end Go.Proofs.YtlmenolcgaakeaaDoor
