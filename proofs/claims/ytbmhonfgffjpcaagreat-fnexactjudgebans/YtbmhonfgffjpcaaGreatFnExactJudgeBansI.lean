/- What the proof of FnExactJudgeBans leans on: contracts of the program's and the specification's functions, and plain facts (part 9 of 12). -/
import Derived.Test.YtbmhonfgffjpcaaGreatFnExactJudgeBansH
set_option maxHeartbeats 16000000
set_option maxRecDepth 100000
namespace Go.Proofs.YtbmhonfgffjpcaaGreat
open Go.RowKit
open Go.Lib hiding intOf
theorem guardBan : Tryz.prog.eqGuardType Tryz.prog.depth 152 = false := by kernel_rfl
open Classical in
theorem eqBanIn (k k' : Int) (a a' b b' : ByteArray) (t t' : Int) (w : World) : (Op.equalIn 10000 152 (.agg #[.int .i64 k, .string a, .string b, .int .i64 t]) (.agg #[.int .i64 k', .string a', .string b', .int .i64 t'])).run Tryz.prog w = .ok (decide (k = k' ∧ a = a' ∧ b = b' ∧ t = t')) w := by
 have u3 := Tryz.underlying3
 have a3 := Tryz.isAgg3
 have z3 := Tryz.sizeOf3
 have u9 := Tryz.underlying9
 have a9 := Tryz.isAgg9
 have z9 := Tryz.sizeOf9
 have hS : Tryz.prog.underlying 152 = some (.struct (Tryz.prog.fieldsOf 152)) := by kernel_rfl
 have hp : Tryz.prog.stoodInHeld 152 = false := by kernel_rfl
 rw [show (10000 : Nat) = 9999 + 1 from rfl, run_equalIn_agg w 9999 152 _ _ hS hp]
 simp only [Program.fieldsOf, Tryz.underlying152]
 have ea : ∀ x y : ByteArray, (x.toList == y.toList) = decide (x = y) := fun x y => by
  by_cases h : x = y
  · rw [decide_eq_true h]; exact (text_beq _ _).2 h
  · rw [decide_eq_false h]; exact text_beq_no h
 go_simp
 by_cases h1 : k = k'
 ·
  by_cases h2 : a = a'
  ·
   by_cases h3 : b = b'
   ·
    by_cases h4 : t = t'
    · simp [h1, h2, h3, h4]
    · simp [h1, h2, h3, h4]
   · simp [h1, h2, h3]
  · simp [h1, h2]
 · simp [h1]
open Classical in
theorem eqlBan (k k' : Int) (a a' b b' : ByteArray) (t t' : Int) (w : World) : (binOp .eql 152 (.agg #[.int .i64 k, .string a, .string b, .int .i64 t]) (.agg #[.int .i64 k', .string a', .string b', .int .i64 t'])).run Tryz.prog w = .ok (.bool (decide (k = k' ∧ a = a' ∧ b = b' ∧ t = t'))) w := by
 rw [run_eql_struct, eqBanIn]
 rfl
theorem implBanOk_1e (a : ByteArray) (t : Int) (w : World) (ha : a.size ≤ maxLen) :
  Calls Tryz.prog 135 #[.agg #[.int .i64 1, .string a, .string ⟨#[]⟩, .int .i64 t]] w fun e w' => BoolIs (BanP 1 a ⟨#[]⟩ t) w e w' := by
 classical
 have HAM : Hid (a.size ≤ maxLen) := ha
 have hnn : ∀ W : World, (binOp .neq 222 (.iface 256 (.agg #[.string a])) .nilIface).run Tryz.prog W = .ok (.bool true) W := fun _ => by kernel_rfl
 have hna : ∀ W : World, (nilAhead 157 256 (.agg #[.string a]) "loop.example/g00239/impl.right").run Tryz.prog W = .ok (some false) W := fun _ => by kernel_rfl
 have hmt : ∀ W : World, (method 157 256 (.agg #[.string a]) "loop.example/g00239/impl.right").run Tryz.prog W = .ok (247, .agg #[.string a]) W := fun _ => by kernel_rfl
 have hgb := guardBan
 have hqe : ∀ W : World, (binOp .eql 152 (.agg #[.int .i64 1, .string a, .string ⟨#[]⟩, .int .i64 t]) (.agg #[.int .i64 1, .string a, .string ⟨#[]⟩, .int .i64 t])).run Tryz.prog W = .ok (.bool true) W := fun W => by
  rw [eqlBan]
  first | (simp; done) | (have z := HB0.out; simp; exact fun e => z e.symm)
 clear ha
 have hb0 : Below w.heap.size w w := Below.refl _ _
 go_enter Tryz.func135, Tryz.ntmps135
 go_upto_region 1 with fail
 obtain ⟨qv1, hqv1⟩ := exq ((w).heap.size)
 obtain ⟨w1, hW1⟩ := exq ((w).alloc (.cells #[.int .i64 1, .string a, .string ⟨#[]⟩, .int .i64 t] 152))
 have hz1 : (w).heap.size = qv1 := hqv1.symm
 first | rw [← hW1, ← hqv1] | rw [← hW1]
 have hs1 := hsa hW1 hz1
 have bw := bal hW1
 have hb1 := hbt hb0 bw
 have HBv1_1 := hnew hW1 hz1
 clear hb0 bw hW1 hz1
 clear hs1 hqv1
 have cv1_0 := (k4c HBv1_1).1
 have cv1_1 := (k4c HBv1_1).2.1
 have cv1_2 := (k4c HBv1_1).2.2.1
 have cv1_3 := (k4c HBv1_1).2.2.2
 go_wp2_with fail
 refine (ruleOf_1 a ⟨#[]⟩ t _).mono ?_
 rintro e w2 ⟨rfl, bw⟩
 have hb2 := hbt hb1 bw
 have HBv1_2 := hblk HBv1_1 bw
 clear hb1 HBv1_1 bw
 clear cv1_0 cv1_1 cv1_2 cv1_3
 go_upto_region 2 with fail
 refine wp_region_held_drew (S := fun W => W.heap[qv1]? = some (.cells #[.int .i64 1, .string a, .string ⟨#[]⟩, .int .i64 t] 152)) (by kernel_rfl) HBv1_2.out (fun _ => ?_)
 obtain ⟨w3, hX⟩ := exq w2.drew
 have bw := bdr hX
 rw [← hX]
 have hb3 := hbt hb2 bw
 have HBv1_3 := hblk HBv1_2 bw
 have hS3 := HBv1_3.out
 clear hb2 HBv1_2 bw hX
 refine tkP 0 (.iface 256 (.agg #[.string a])) 6 rfl rfl hS3 ?_
 go_frame
 refine tkP 1 (.bool true) 7 rfl rfl hS3 ?_
 go_frame
 refine tkP 2 (.bool true) 8 rfl rfl hS3 ?_
 go_frame
 refine tkP 3 (.iface 256 (.agg #[.string a])) 9 rfl rfl hS3 ?_
 go_frame
 refine rd1 4 rfl (fun K hK => ?_)
 go_simp
 refine (right_1 a _ HAM.out).mono ?_
 rintro e w4 ⟨ur, rfl, htur, bw⟩
 have hb4 := hbt hb3 bw
 have HBv1_4 := hblk HBv1_3 bw
 clear hb3 HBv1_3 bw
 have hS4 := HBv1_4.out
 refine hK.out _ _ hS4 (fun _ => ?_)
 clear hK K hS3
 refine tkP 5 (.bool ur) 11 rfl rfl hS4 ?_
 go_frame
 refine tkP 6 (.bool ur) 12 rfl rfl hS4 ?_
 go_frame
 cases ur with
 | false =>
  have Hur : Hid (¬ (PathOk a)) := fun h => nomatch htur.2 h
  clear htur
  refine tkN 7 13 rfl rfl hS4 ?_
  go_frame
  refine tkN 8 14 rfl rfl hS4 ?_
  go_frame
  refine tkN 9 15 rfl rfl hS4 ?_
  go_frame
  refine tkP 10 (.bool false) 16 rfl rfl hS4 ?_
  go_frame
  refine tkP 11 (.bool false) 17 rfl rfl hS4 ?_
  go_frame
  refine tkN 12 18 rfl rfl hS4 ?_
  go_frame
  refine tkN 13 19 rfl rfl hS4 ?_
  go_frame
  refine tkN 14 20 rfl rfl hS4 ?_
  go_frame
  refine tkN 15 21 rfl rfl hS4 ?_
  go_frame
  refine tkN 16 22 rfl rfl hS4 ?_
  go_frame
  refine tkN 17 23 rfl rfl hS4 ?_
  go_frame
  refine tkP 18 (.bool false) 24 rfl rfl hS4 ?_
  go_frame
  refine tkP 19 (.bool false) 2 rfl rfl hS4 ?_
  go_frame
  clear hS4
  refine wpAnyH_done (by kernel_rfl) ?_ _
  go_wp2_with fail
  go_ret
  refine ⟨false, rfl, ?_, hb4⟩
  have zHur := Hur.out
  unfold BanP
  simp_all
 | true =>
  have Hur : Hid (PathOk a) := htur.1 rfl
  clear htur
  refine tkP 7 (.pointer (some ⟨qv1, 3, none⟩)) 13 rfl rfl hS4 ?_
  go_frame
  refine tkL 8 (.int .i64 t) 14 rfl rfl (Or.inl ⟨by rfl, by intro W hW; have hhv1 := hW; have y3 := (cell_of hhv1 3).trans rfl; go_simp⟩) hS4 ?_
  go_frame
  refine rd1 9 rfl (fun K hK => ?_)
  go_simp
  refine (timeOk_any t _).mono ?_
  rintro e w5 ⟨rfl, hwe⟩
  have bw : Below (w4).heap.size (w4) w5 := by rw [hwe]; exact Below.refl _ _
  clear hwe
  obtain ⟨ut, hut⟩ : ∃ u, u = decide ((0 : Int) ≤ t ∧ t ≤ 1000000) := ⟨_, rfl⟩
  rw [← hut]
  have hb5 := hbt hb4 bw
  have HBv1_5 := hblk HBv1_4 bw
  clear hb4 HBv1_4 bw
  have hS5 := HBv1_5.out
  refine hK.out _ _ hS5 (fun _ => ?_)
  clear hK K hS4
  refine tkP 10 (.bool ut) 16 rfl rfl hS5 ?_
  go_frame
  refine tkP 11 (.bool ut) 17 rfl rfl hS5 ?_
  go_frame
  cases ut with
  | false =>
   have Hut : Hid (¬ (0 ≤ t ∧ t ≤ 1000000)) := (show ¬ (0 ≤ t ∧ t ≤ 1000000) from of_decide_eq_false hut.symm)
   clear hut
   refine tkN 12 18 rfl rfl hS5 ?_
   go_frame
   refine tkN 13 19 rfl rfl hS5 ?_
   go_frame
   refine tkN 14 20 rfl rfl hS5 ?_
   go_frame
   refine tkN 15 21 rfl rfl hS5 ?_
   go_frame
   refine tkN 16 22 rfl rfl hS5 ?_
   go_frame
   refine tkN 17 23 rfl rfl hS5 ?_
   go_frame
   refine tkP 18 (.bool false) 24 rfl rfl hS5 ?_
   go_frame
   refine tkP 19 (.bool false) 2 rfl rfl hS5 ?_
   go_frame
   clear hS5
   refine wpAnyH_done (by kernel_rfl) ?_ _
   go_wp2_with fail
   go_ret
   refine ⟨false, rfl, ?_, hb5⟩
   have zHur := Hur.out
   have zHut := Hut.out
   unfold BanP
   simp_all
  | true =>
   have Hut : Hid (0 ≤ t ∧ t ≤ 1000000) := (show 0 ≤ t ∧ t ≤ 1000000 from of_decide_eq_true hut.symm)
   clear hut
   refine tkP 12 (.iface 256 (.agg #[.string a])) 18 rfl rfl hS5 ?_
   go_frame
   refine tkP 13 (.pointer (some ⟨qv1, 3, none⟩)) 19 rfl rfl hS5 ?_
   go_frame
   refine tkL 14 (.int .i64 t) 20 rfl rfl (Or.inl ⟨by rfl, by intro W hW; have hhv1 := hW; have y3 := (cell_of hhv1 3).trans rfl; go_simp⟩) hS5 ?_
   go_frame
   refine tkL 16 (.agg #[.int .i64 1, .string a, .string ⟨#[]⟩, .int .i64 t]) 22 rfl rfl (Or.inl ⟨by rfl, by intro W hW; have hhv1 := hW; have y0 := (cell_of hhv1 0).trans rfl; have y1 := (cell_of hhv1 1).trans rfl; have y2 := (cell_of hhv1 2).trans rfl; have y3 := (cell_of hhv1 3).trans rfl; go_simp⟩) hS5 ?_
   go_frame
   refine rd1 15 rfl (fun K hK => ?_)
   go_simp
   refine (banOf_1 a t _).mono ?_
   rintro e w6 ⟨rfl, bw⟩
   have hb6 := hbt hb5 bw
   have HBv1_6 := hblk HBv1_5 bw
   clear hb5 HBv1_5 bw
   have hS6 := HBv1_6.out
   refine hK.out _ _ hS6 (fun _ => ?_)
   clear hK K hS5
   refine tkP 17 (.bool true) 23 rfl rfl hS6 ?_
   go_frame
   refine tkP 18 (.bool true) 24 rfl rfl hS6 ?_
   go_frame
   refine tkP 19 (.bool true) 2 rfl rfl hS6 ?_
   go_frame
   clear hS6
   refine wpAnyH_done (by kernel_rfl) ?_ _
   go_wp2_with fail
   go_ret
   refine ⟨true, rfl, ?_, hb6⟩
   have zHur := Hur.out
   have zHut := Hut.out
   unfold BanP
   simp_all
theorem implBanOk_1n (a b : ByteArray) (t : Int) (w : World) (ha : a.size ≤ maxLen) (hb0 : ¬ b = ⟨#[]⟩) :
  Calls Tryz.prog 135 #[.agg #[.int .i64 1, .string a, .string b, .int .i64 t]] w fun e w' => BoolIs (BanP 1 a b t) w e w' := by
 classical
 have HAM : Hid (a.size ≤ maxLen) := ha
 have HB0 : Hid (¬ b = ⟨#[]⟩) := hb0
 have hnn : ∀ W : World, (binOp .neq 222 (.iface 256 (.agg #[.string a])) .nilIface).run Tryz.prog W = .ok (.bool true) W := fun _ => by kernel_rfl
 have hna : ∀ W : World, (nilAhead 157 256 (.agg #[.string a]) "loop.example/g00239/impl.right").run Tryz.prog W = .ok (some false) W := fun _ => by kernel_rfl
 have hmt : ∀ W : World, (method 157 256 (.agg #[.string a]) "loop.example/g00239/impl.right").run Tryz.prog W = .ok (247, .agg #[.string a]) W := fun _ => by kernel_rfl
 have hgb := guardBan
 have hqe : ∀ W : World, (binOp .eql 152 (.agg #[.int .i64 1, .string a, .string ⟨#[]⟩, .int .i64 t]) (.agg #[.int .i64 1, .string a, .string b, .int .i64 t])).run Tryz.prog W = .ok (.bool false) W := fun W => by
  rw [eqlBan]
  first | (simp; done) | (have z := HB0.out; simp; exact fun e => z e.symm)
 clear ha hb0
 have hb0 : Below w.heap.size w w := Below.refl _ _
 go_enter Tryz.func135, Tryz.ntmps135
 go_upto_region 1 with fail
 obtain ⟨qv1, hqv1⟩ := exq ((w).heap.size)
 obtain ⟨w1, hW1⟩ := exq ((w).alloc (.cells #[.int .i64 1, .string a, .string b, .int .i64 t] 152))
 have hz1 : (w).heap.size = qv1 := hqv1.symm
 first | rw [← hW1, ← hqv1] | rw [← hW1]
 have hs1 := hsa hW1 hz1
 have bw := bal hW1
 have hb1 := hbt hb0 bw
 have HBv1_1 := hnew hW1 hz1
 clear hb0 bw hW1 hz1
 clear hs1 hqv1
 have cv1_0 := (k4c HBv1_1).1
 have cv1_1 := (k4c HBv1_1).2.1
 have cv1_2 := (k4c HBv1_1).2.2.1
 have cv1_3 := (k4c HBv1_1).2.2.2
 go_wp2_with fail
 refine (ruleOf_1 a b t _).mono ?_
 rintro e w2 ⟨rfl, bw⟩
 have hb2 := hbt hb1 bw
 have HBv1_2 := hblk HBv1_1 bw
 clear hb1 HBv1_1 bw
 clear cv1_0 cv1_1 cv1_2 cv1_3
 go_upto_region 2 with fail
 refine wp_region_held_drew (S := fun W => W.heap[qv1]? = some (.cells #[.int .i64 1, .string a, .string b, .int .i64 t] 152)) (by kernel_rfl) HBv1_2.out (fun _ => ?_)
 obtain ⟨w3, hX⟩ := exq w2.drew
 have bw := bdr hX
 rw [← hX]
 have hb3 := hbt hb2 bw
 have HBv1_3 := hblk HBv1_2 bw
 have hS3 := HBv1_3.out
 clear hb2 HBv1_2 bw hX
 refine tkP 0 (.iface 256 (.agg #[.string a])) 6 rfl rfl hS3 ?_
 go_frame
 refine tkP 1 (.bool true) 7 rfl rfl hS3 ?_
 go_frame
 refine tkP 2 (.bool true) 8 rfl rfl hS3 ?_
 go_frame
 refine tkP 3 (.iface 256 (.agg #[.string a])) 9 rfl rfl hS3 ?_
 go_frame
 refine rd1 4 rfl (fun K hK => ?_)
 go_simp
 refine (right_1 a _ HAM.out).mono ?_
 rintro e w4 ⟨ur, rfl, htur, bw⟩
 have hb4 := hbt hb3 bw
 have HBv1_4 := hblk HBv1_3 bw
 clear hb3 HBv1_3 bw
 have hS4 := HBv1_4.out
 refine hK.out _ _ hS4 (fun _ => ?_)
 clear hK K hS3
 refine tkP 5 (.bool ur) 11 rfl rfl hS4 ?_
 go_frame
 refine tkP 6 (.bool ur) 12 rfl rfl hS4 ?_
 go_frame
 cases ur with
 | false =>
  have Hur : Hid (¬ (PathOk a)) := fun h => nomatch htur.2 h
  clear htur
  refine tkN 7 13 rfl rfl hS4 ?_
  go_frame
  refine tkN 8 14 rfl rfl hS4 ?_
  go_frame
  refine tkN 9 15 rfl rfl hS4 ?_
  go_frame
  refine tkP 10 (.bool false) 16 rfl rfl hS4 ?_
  go_frame
  refine tkP 11 (.bool false) 17 rfl rfl hS4 ?_
  go_frame
  refine tkN 12 18 rfl rfl hS4 ?_
  go_frame
  refine tkN 13 19 rfl rfl hS4 ?_
  go_frame
  refine tkN 14 20 rfl rfl hS4 ?_
  go_frame
  refine tkN 15 21 rfl rfl hS4 ?_
  go_frame
  refine tkN 16 22 rfl rfl hS4 ?_
  go_frame
  refine tkN 17 23 rfl rfl hS4 ?_
  go_frame
  refine tkP 18 (.bool false) 24 rfl rfl hS4 ?_
  go_frame
  refine tkP 19 (.bool false) 2 rfl rfl hS4 ?_
  go_frame
  clear hS4
  refine wpAnyH_done (by kernel_rfl) ?_ _
  go_wp2_with fail
  go_ret
  refine ⟨false, rfl, ?_, hb4⟩
  have zHur := Hur.out
  have zHB := HB0.out
  unfold BanP
  simp_all
 | true =>
  have Hur : Hid (PathOk a) := htur.1 rfl
  clear htur
  refine tkP 7 (.pointer (some ⟨qv1, 3, none⟩)) 13 rfl rfl hS4 ?_
  go_frame
  refine tkL 8 (.int .i64 t) 14 rfl rfl (Or.inl ⟨by rfl, by intro W hW; have hhv1 := hW; have y3 := (cell_of hhv1 3).trans rfl; go_simp⟩) hS4 ?_
  go_frame
  refine rd1 9 rfl (fun K hK => ?_)
  go_simp
  refine (timeOk_any t _).mono ?_
  rintro e w5 ⟨rfl, hwe⟩
  have bw : Below (w4).heap.size (w4) w5 := by rw [hwe]; exact Below.refl _ _
  clear hwe
  obtain ⟨ut, hut⟩ : ∃ u, u = decide ((0 : Int) ≤ t ∧ t ≤ 1000000) := ⟨_, rfl⟩
  rw [← hut]
  have hb5 := hbt hb4 bw
  have HBv1_5 := hblk HBv1_4 bw
  clear hb4 HBv1_4 bw
  have hS5 := HBv1_5.out
  refine hK.out _ _ hS5 (fun _ => ?_)
  clear hK K hS4
  refine tkP 10 (.bool ut) 16 rfl rfl hS5 ?_
  go_frame
  refine tkP 11 (.bool ut) 17 rfl rfl hS5 ?_
  go_frame
  cases ut with
  | false =>
   have Hut : Hid (¬ (0 ≤ t ∧ t ≤ 1000000)) := (show ¬ (0 ≤ t ∧ t ≤ 1000000) from of_decide_eq_false hut.symm)
   clear hut
   refine tkN 12 18 rfl rfl hS5 ?_
   go_frame
   refine tkN 13 19 rfl rfl hS5 ?_
   go_frame
   refine tkN 14 20 rfl rfl hS5 ?_
   go_frame
   refine tkN 15 21 rfl rfl hS5 ?_
   go_frame
   refine tkN 16 22 rfl rfl hS5 ?_
   go_frame
   refine tkN 17 23 rfl rfl hS5 ?_
   go_frame
   refine tkP 18 (.bool false) 24 rfl rfl hS5 ?_
   go_frame
   refine tkP 19 (.bool false) 2 rfl rfl hS5 ?_
   go_frame
   clear hS5
   refine wpAnyH_done (by kernel_rfl) ?_ _
   go_wp2_with fail
   go_ret
   refine ⟨false, rfl, ?_, hb5⟩
   have zHur := Hur.out
   have zHut := Hut.out
   have zHB := HB0.out
   unfold BanP
   simp_all
  | true =>
   have Hut : Hid (0 ≤ t ∧ t ≤ 1000000) := (show 0 ≤ t ∧ t ≤ 1000000 from of_decide_eq_true hut.symm)
   clear hut
   refine tkP 12 (.iface 256 (.agg #[.string a])) 18 rfl rfl hS5 ?_
   go_frame
   refine tkP 13 (.pointer (some ⟨qv1, 3, none⟩)) 19 rfl rfl hS5 ?_
   go_frame
   refine tkL 14 (.int .i64 t) 20 rfl rfl (Or.inl ⟨by rfl, by intro W hW; have hhv1 := hW; have y3 := (cell_of hhv1 3).trans rfl; go_simp⟩) hS5 ?_
   go_frame
   refine tkL 16 (.agg #[.int .i64 1, .string a, .string b, .int .i64 t]) 22 rfl rfl (Or.inl ⟨by rfl, by intro W hW; have hhv1 := hW; have y0 := (cell_of hhv1 0).trans rfl; have y1 := (cell_of hhv1 1).trans rfl; have y2 := (cell_of hhv1 2).trans rfl; have y3 := (cell_of hhv1 3).trans rfl; go_simp⟩) hS5 ?_
   go_frame
   refine rd1 15 rfl (fun K hK => ?_)
   go_simp
   refine (banOf_1 a t _).mono ?_
   rintro e w6 ⟨rfl, bw⟩
   have hb6 := hbt hb5 bw
   have HBv1_6 := hblk HBv1_5 bw
   clear hb5 HBv1_5 bw
   have hS6 := HBv1_6.out
   refine hK.out _ _ hS6 (fun _ => ?_)
   clear hK K hS5
   refine tkP 17 (.bool false) 23 rfl rfl hS6 ?_
   go_frame
   refine tkP 18 (.bool false) 24 rfl rfl hS6 ?_
   go_frame
   refine tkP 19 (.bool false) 2 rfl rfl hS6 ?_
   go_frame
   clear hS6
   refine wpAnyH_done (by kernel_rfl) ?_ _
   go_wp2_with fail
   go_ret
   refine ⟨false, rfl, ?_, hb6⟩
   have zHur := Hur.out
   have zHut := Hut.out
   have zHB := HB0.out
   unfold BanP
   simp_all
theorem implBanOk_2e (a : ByteArray) (t : Int) (w : World) (ha : a.size ≤ maxLen) :
  Calls Tryz.prog 135 #[.agg #[.int .i64 2, .string a, .string ⟨#[]⟩, .int .i64 t]] w fun e w' => BoolIs (BanP 2 a ⟨#[]⟩ t) w e w' := by
 classical
 have HAM : Hid (a.size ≤ maxLen) := ha
 have hnn : ∀ W : World, (binOp .neq 222 (.iface 258 (.agg #[.string a])) .nilIface).run Tryz.prog W = .ok (.bool true) W := fun _ => by kernel_rfl
 have hna : ∀ W : World, (nilAhead 157 258 (.agg #[.string a]) "loop.example/g00239/impl.right").run Tryz.prog W = .ok (some false) W := fun _ => by kernel_rfl
 have hmt : ∀ W : World, (method 157 258 (.agg #[.string a]) "loop.example/g00239/impl.right").run Tryz.prog W = .ok (249, .agg #[.string a]) W := fun _ => by kernel_rfl
 have hgb := guardBan
 have hqe : ∀ W : World, (binOp .eql 152 (.agg #[.int .i64 2, .string a, .string ⟨#[]⟩, .int .i64 t]) (.agg #[.int .i64 2, .string a, .string ⟨#[]⟩, .int .i64 t])).run Tryz.prog W = .ok (.bool true) W := fun W => by
  rw [eqlBan]
  first | (simp; done) | (have z := HB0.out; simp; exact fun e => z e.symm)
 clear ha
 have hb0 : Below w.heap.size w w := Below.refl _ _
 go_enter Tryz.func135, Tryz.ntmps135
 go_upto_region 1 with fail
 obtain ⟨qv1, hqv1⟩ := exq ((w).heap.size)
 obtain ⟨w1, hW1⟩ := exq ((w).alloc (.cells #[.int .i64 2, .string a, .string ⟨#[]⟩, .int .i64 t] 152))
 have hz1 : (w).heap.size = qv1 := hqv1.symm
 first | rw [← hW1, ← hqv1] | rw [← hW1]
 have hs1 := hsa hW1 hz1
 have bw := bal hW1
 have hb1 := hbt hb0 bw
 have HBv1_1 := hnew hW1 hz1
 clear hb0 bw hW1 hz1
 clear hs1 hqv1
 have cv1_0 := (k4c HBv1_1).1
 have cv1_1 := (k4c HBv1_1).2.1
 have cv1_2 := (k4c HBv1_1).2.2.1
 have cv1_3 := (k4c HBv1_1).2.2.2
 go_wp2_with fail
 refine (ruleOf_2 a ⟨#[]⟩ t _).mono ?_
 rintro e w2 ⟨rfl, bw⟩
 have hb2 := hbt hb1 bw
 have HBv1_2 := hblk HBv1_1 bw
 clear hb1 HBv1_1 bw
 clear cv1_0 cv1_1 cv1_2 cv1_3
 go_upto_region 2 with fail
 refine wp_region_held_drew (S := fun W => W.heap[qv1]? = some (.cells #[.int .i64 2, .string a, .string ⟨#[]⟩, .int .i64 t] 152)) (by kernel_rfl) HBv1_2.out (fun _ => ?_)
 obtain ⟨w3, hX⟩ := exq w2.drew
 have bw := bdr hX
 rw [← hX]
 have hb3 := hbt hb2 bw
 have HBv1_3 := hblk HBv1_2 bw
 have hS3 := HBv1_3.out
 clear hb2 HBv1_2 bw hX
 refine tkP 0 (.iface 258 (.agg #[.string a])) 6 rfl rfl hS3 ?_
 go_frame
 refine tkP 1 (.bool true) 7 rfl rfl hS3 ?_
 go_frame
 refine tkP 2 (.bool true) 8 rfl rfl hS3 ?_
 go_frame
 refine tkP 3 (.iface 258 (.agg #[.string a])) 9 rfl rfl hS3 ?_
 go_frame
 refine rd1 4 rfl (fun K hK => ?_)
 go_simp
 refine (right_2 a _ HAM.out).mono ?_
 rintro e w4 ⟨ur, rfl, htur, bw⟩
 have hb4 := hbt hb3 bw
 have HBv1_4 := hblk HBv1_3 bw
 clear hb3 HBv1_3 bw
 have hS4 := HBv1_4.out
 refine hK.out _ _ hS4 (fun _ => ?_)
 clear hK K hS3
 refine tkP 5 (.bool ur) 11 rfl rfl hS4 ?_
 go_frame
 refine tkP 6 (.bool ur) 12 rfl rfl hS4 ?_
 go_frame
 cases ur with
 | false =>
  have Hur : Hid (¬ (PathOk a)) := fun h => nomatch htur.2 h
  clear htur
  refine tkN 7 13 rfl rfl hS4 ?_
  go_frame
  refine tkN 8 14 rfl rfl hS4 ?_
  go_frame
  refine tkN 9 15 rfl rfl hS4 ?_
  go_frame
  refine tkP 10 (.bool false) 16 rfl rfl hS4 ?_
  go_frame
  refine tkP 11 (.bool false) 17 rfl rfl hS4 ?_
  go_frame
  refine tkN 12 18 rfl rfl hS4 ?_
  go_frame
  refine tkN 13 19 rfl rfl hS4 ?_
  go_frame
  refine tkN 14 20 rfl rfl hS4 ?_
  go_frame
  refine tkN 15 21 rfl rfl hS4 ?_
  go_frame
  refine tkN 16 22 rfl rfl hS4 ?_
  go_frame
  refine tkN 17 23 rfl rfl hS4 ?_
  go_frame
  refine tkP 18 (.bool false) 24 rfl rfl hS4 ?_
  go_frame
  refine tkP 19 (.bool false) 2 rfl rfl hS4 ?_
  go_frame
  clear hS4
  refine wpAnyH_done (by kernel_rfl) ?_ _
  go_wp2_with fail
  go_ret
  refine ⟨false, rfl, ?_, hb4⟩
  have zHur := Hur.out
  unfold BanP
  simp_all
 | true =>
  have Hur : Hid (PathOk a) := htur.1 rfl
  clear htur
  refine tkP 7 (.pointer (some ⟨qv1, 3, none⟩)) 13 rfl rfl hS4 ?_
  go_frame
  refine tkL 8 (.int .i64 t) 14 rfl rfl (Or.inl ⟨by rfl, by intro W hW; have hhv1 := hW; have y3 := (cell_of hhv1 3).trans rfl; go_simp⟩) hS4 ?_
  go_frame
  refine rd1 9 rfl (fun K hK => ?_)
  go_simp
  refine (timeOk_any t _).mono ?_
  rintro e w5 ⟨rfl, hwe⟩
  have bw : Below (w4).heap.size (w4) w5 := by rw [hwe]; exact Below.refl _ _
  clear hwe
  obtain ⟨ut, hut⟩ : ∃ u, u = decide ((0 : Int) ≤ t ∧ t ≤ 1000000) := ⟨_, rfl⟩
  rw [← hut]
  have hb5 := hbt hb4 bw
  have HBv1_5 := hblk HBv1_4 bw
  clear hb4 HBv1_4 bw
  have hS5 := HBv1_5.out
  refine hK.out _ _ hS5 (fun _ => ?_)
  clear hK K hS4
  refine tkP 10 (.bool ut) 16 rfl rfl hS5 ?_
  go_frame
  refine tkP 11 (.bool ut) 17 rfl rfl hS5 ?_
  go_frame
  cases ut with
  | false =>
   have Hut : Hid (¬ (0 ≤ t ∧ t ≤ 1000000)) := (show ¬ (0 ≤ t ∧ t ≤ 1000000) from of_decide_eq_false hut.symm)
   clear hut
   refine tkN 12 18 rfl rfl hS5 ?_
   go_frame
   refine tkN 13 19 rfl rfl hS5 ?_
   go_frame
   refine tkN 14 20 rfl rfl hS5 ?_
   go_frame
   refine tkN 15 21 rfl rfl hS5 ?_
   go_frame
   refine tkN 16 22 rfl rfl hS5 ?_
   go_frame
   refine tkN 17 23 rfl rfl hS5 ?_
   go_frame
   refine tkP 18 (.bool false) 24 rfl rfl hS5 ?_
   go_frame
   refine tkP 19 (.bool false) 2 rfl rfl hS5 ?_
   go_frame
   clear hS5
   refine wpAnyH_done (by kernel_rfl) ?_ _
   go_wp2_with fail
   go_ret
   refine ⟨false, rfl, ?_, hb5⟩
   have zHur := Hur.out
   have zHut := Hut.out
   unfold BanP
   simp_all
  | true =>
   have Hut : Hid (0 ≤ t ∧ t ≤ 1000000) := (show 0 ≤ t ∧ t ≤ 1000000 from of_decide_eq_true hut.symm)
   clear hut
   refine tkP 12 (.iface 258 (.agg #[.string a])) 18 rfl rfl hS5 ?_
   go_frame
   refine tkP 13 (.pointer (some ⟨qv1, 3, none⟩)) 19 rfl rfl hS5 ?_
   go_frame
   refine tkL 14 (.int .i64 t) 20 rfl rfl (Or.inl ⟨by rfl, by intro W hW; have hhv1 := hW; have y3 := (cell_of hhv1 3).trans rfl; go_simp⟩) hS5 ?_
   go_frame
   refine tkL 16 (.agg #[.int .i64 2, .string a, .string ⟨#[]⟩, .int .i64 t]) 22 rfl rfl (Or.inl ⟨by rfl, by intro W hW; have hhv1 := hW; have y0 := (cell_of hhv1 0).trans rfl; have y1 := (cell_of hhv1 1).trans rfl; have y2 := (cell_of hhv1 2).trans rfl; have y3 := (cell_of hhv1 3).trans rfl; go_simp⟩) hS5 ?_
   go_frame
   refine rd1 15 rfl (fun K hK => ?_)
   go_simp
   refine (banOf_2 a t _).mono ?_
   rintro e w6 ⟨rfl, bw⟩
   have hb6 := hbt hb5 bw
   have HBv1_6 := hblk HBv1_5 bw
   clear hb5 HBv1_5 bw
   have hS6 := HBv1_6.out
   refine hK.out _ _ hS6 (fun _ => ?_)
   clear hK K hS5
   refine tkP 17 (.bool true) 23 rfl rfl hS6 ?_
   go_frame
   refine tkP 18 (.bool true) 24 rfl rfl hS6 ?_
   go_frame
   refine tkP 19 (.bool true) 2 rfl rfl hS6 ?_
   go_frame
   clear hS6
   refine wpAnyH_done (by kernel_rfl) ?_ _
   go_wp2_with fail
   go_ret
   refine ⟨true, rfl, ?_, hb6⟩
   have zHur := Hur.out
   have zHut := Hut.out
   unfold BanP
   simp_all
theorem implBanOk_2n (a b : ByteArray) (t : Int) (w : World) (ha : a.size ≤ maxLen) (hb0 : ¬ b = ⟨#[]⟩) :
  Calls Tryz.prog 135 #[.agg #[.int .i64 2, .string a, .string b, .int .i64 t]] w fun e w' => BoolIs (BanP 2 a b t) w e w' := by
 classical
 have HAM : Hid (a.size ≤ maxLen) := ha
 have HB0 : Hid (¬ b = ⟨#[]⟩) := hb0
 have hnn : ∀ W : World, (binOp .neq 222 (.iface 258 (.agg #[.string a])) .nilIface).run Tryz.prog W = .ok (.bool true) W := fun _ => by kernel_rfl
 have hna : ∀ W : World, (nilAhead 157 258 (.agg #[.string a]) "loop.example/g00239/impl.right").run Tryz.prog W = .ok (some false) W := fun _ => by kernel_rfl
 have hmt : ∀ W : World, (method 157 258 (.agg #[.string a]) "loop.example/g00239/impl.right").run Tryz.prog W = .ok (249, .agg #[.string a]) W := fun _ => by kernel_rfl
 have hgb := guardBan
 have hqe : ∀ W : World, (binOp .eql 152 (.agg #[.int .i64 2, .string a, .string ⟨#[]⟩, .int .i64 t]) (.agg #[.int .i64 2, .string a, .string b, .int .i64 t])).run Tryz.prog W = .ok (.bool false) W := fun W => by
  rw [eqlBan]
  first | (simp; done) | (have z := HB0.out; simp; exact fun e => z e.symm)
 clear ha hb0
 have hb0 : Below w.heap.size w w := Below.refl _ _
 go_enter Tryz.func135, Tryz.ntmps135
 go_upto_region 1 with fail
 obtain ⟨qv1, hqv1⟩ := exq ((w).heap.size)
 obtain ⟨w1, hW1⟩ := exq ((w).alloc (.cells #[.int .i64 2, .string a, .string b, .int .i64 t] 152))
 have hz1 : (w).heap.size = qv1 := hqv1.symm
 first | rw [← hW1, ← hqv1] | rw [← hW1]
 have hs1 := hsa hW1 hz1
 have bw := bal hW1
 have hb1 := hbt hb0 bw
 have HBv1_1 := hnew hW1 hz1
 clear hb0 bw hW1 hz1
 clear hs1 hqv1
 have cv1_0 := (k4c HBv1_1).1
 have cv1_1 := (k4c HBv1_1).2.1
 have cv1_2 := (k4c HBv1_1).2.2.1
 have cv1_3 := (k4c HBv1_1).2.2.2
 go_wp2_with fail
 refine (ruleOf_2 a b t _).mono ?_
 rintro e w2 ⟨rfl, bw⟩
 have hb2 := hbt hb1 bw
 have HBv1_2 := hblk HBv1_1 bw
 clear hb1 HBv1_1 bw
 clear cv1_0 cv1_1 cv1_2 cv1_3
 go_upto_region 2 with fail
 refine wp_region_held_drew (S := fun W => W.heap[qv1]? = some (.cells #[.int .i64 2, .string a, .string b, .int .i64 t] 152)) (by kernel_rfl) HBv1_2.out (fun _ => ?_)
 obtain ⟨w3, hX⟩ := exq w2.drew
 have bw := bdr hX
 rw [← hX]
 have hb3 := hbt hb2 bw
 have HBv1_3 := hblk HBv1_2 bw
 have hS3 := HBv1_3.out
 clear hb2 HBv1_2 bw hX
 refine tkP 0 (.iface 258 (.agg #[.string a])) 6 rfl rfl hS3 ?_
 go_frame
 refine tkP 1 (.bool true) 7 rfl rfl hS3 ?_
 go_frame
 refine tkP 2 (.bool true) 8 rfl rfl hS3 ?_
 go_frame
 refine tkP 3 (.iface 258 (.agg #[.string a])) 9 rfl rfl hS3 ?_
 go_frame
 refine rd1 4 rfl (fun K hK => ?_)
 go_simp
 refine (right_2 a _ HAM.out).mono ?_
 rintro e w4 ⟨ur, rfl, htur, bw⟩
 have hb4 := hbt hb3 bw
 have HBv1_4 := hblk HBv1_3 bw
 clear hb3 HBv1_3 bw
 have hS4 := HBv1_4.out
 refine hK.out _ _ hS4 (fun _ => ?_)
 clear hK K hS3
 refine tkP 5 (.bool ur) 11 rfl rfl hS4 ?_
 go_frame
 refine tkP 6 (.bool ur) 12 rfl rfl hS4 ?_
 go_frame
 cases ur with
 | false =>
  have Hur : Hid (¬ (PathOk a)) := fun h => nomatch htur.2 h
  clear htur
  refine tkN 7 13 rfl rfl hS4 ?_
  go_frame
  refine tkN 8 14 rfl rfl hS4 ?_
  go_frame
  refine tkN 9 15 rfl rfl hS4 ?_
  go_frame
  refine tkP 10 (.bool false) 16 rfl rfl hS4 ?_
  go_frame
  refine tkP 11 (.bool false) 17 rfl rfl hS4 ?_
  go_frame
  refine tkN 12 18 rfl rfl hS4 ?_
  go_frame
  refine tkN 13 19 rfl rfl hS4 ?_
  go_frame
  refine tkN 14 20 rfl rfl hS4 ?_
  go_frame
  refine tkN 15 21 rfl rfl hS4 ?_
  go_frame
  refine tkN 16 22 rfl rfl hS4 ?_
  go_frame
  refine tkN 17 23 rfl rfl hS4 ?_
  go_frame
  refine tkP 18 (.bool false) 24 rfl rfl hS4 ?_
  go_frame
  refine tkP 19 (.bool false) 2 rfl rfl hS4 ?_
  go_frame
  clear hS4
  refine wpAnyH_done (by kernel_rfl) ?_ _
  go_wp2_with fail
  go_ret
  refine ⟨false, rfl, ?_, hb4⟩
  have zHur := Hur.out
  have zHB := HB0.out
  unfold BanP
  simp_all
 | true =>
  have Hur : Hid (PathOk a) := htur.1 rfl
  clear htur
  refine tkP 7 (.pointer (some ⟨qv1, 3, none⟩)) 13 rfl rfl hS4 ?_
  go_frame
  refine tkL 8 (.int .i64 t) 14 rfl rfl (Or.inl ⟨by rfl, by intro W hW; have hhv1 := hW; have y3 := (cell_of hhv1 3).trans rfl; go_simp⟩) hS4 ?_
  go_frame
  refine rd1 9 rfl (fun K hK => ?_)
  go_simp
  refine (timeOk_any t _).mono ?_
  rintro e w5 ⟨rfl, hwe⟩
  have bw : Below (w4).heap.size (w4) w5 := by rw [hwe]; exact Below.refl _ _
  clear hwe
  obtain ⟨ut, hut⟩ : ∃ u, u = decide ((0 : Int) ≤ t ∧ t ≤ 1000000) := ⟨_, rfl⟩
  rw [← hut]
  have hb5 := hbt hb4 bw
  have HBv1_5 := hblk HBv1_4 bw
  clear hb4 HBv1_4 bw
  have hS5 := HBv1_5.out
  refine hK.out _ _ hS5 (fun _ => ?_)
  clear hK K hS4
  refine tkP 10 (.bool ut) 16 rfl rfl hS5 ?_
  go_frame
  refine tkP 11 (.bool ut) 17 rfl rfl hS5 ?_
  go_frame
  cases ut with
  | false =>
   have Hut : Hid (¬ (0 ≤ t ∧ t ≤ 1000000)) := (show ¬ (0 ≤ t ∧ t ≤ 1000000) from of_decide_eq_false hut.symm)
   clear hut
   refine tkN 12 18 rfl rfl hS5 ?_
   go_frame
   refine tkN 13 19 rfl rfl hS5 ?_
   go_frame
   refine tkN 14 20 rfl rfl hS5 ?_
   go_frame
   refine tkN 15 21 rfl rfl hS5 ?_
   go_frame
   refine tkN 16 22 rfl rfl hS5 ?_
   go_frame
   refine tkN 17 23 rfl rfl hS5 ?_
   go_frame
   refine tkP 18 (.bool false) 24 rfl rfl hS5 ?_
   go_frame
   refine tkP 19 (.bool false) 2 rfl rfl hS5 ?_
   go_frame
   clear hS5
   refine wpAnyH_done (by kernel_rfl) ?_ _
   go_wp2_with fail
   go_ret
   refine ⟨false, rfl, ?_, hb5⟩
   have zHur := Hur.out
   have zHut := Hut.out
   have zHB := HB0.out
   unfold BanP
   simp_all
  | true =>
   have Hut : Hid (0 ≤ t ∧ t ≤ 1000000) := (show 0 ≤ t ∧ t ≤ 1000000 from of_decide_eq_true hut.symm)
   clear hut
   refine tkP 12 (.iface 258 (.agg #[.string a])) 18 rfl rfl hS5 ?_
   go_frame
   refine tkP 13 (.pointer (some ⟨qv1, 3, none⟩)) 19 rfl rfl hS5 ?_
   go_frame
   refine tkL 14 (.int .i64 t) 20 rfl rfl (Or.inl ⟨by rfl, by intro W hW; have hhv1 := hW; have y3 := (cell_of hhv1 3).trans rfl; go_simp⟩) hS5 ?_
   go_frame
   refine tkL 16 (.agg #[.int .i64 2, .string a, .string b, .int .i64 t]) 22 rfl rfl (Or.inl ⟨by rfl, by intro W hW; have hhv1 := hW; have y0 := (cell_of hhv1 0).trans rfl; have y1 := (cell_of hhv1 1).trans rfl; have y2 := (cell_of hhv1 2).trans rfl; have y3 := (cell_of hhv1 3).trans rfl; go_simp⟩) hS5 ?_
   go_frame
   refine rd1 15 rfl (fun K hK => ?_)
   go_simp
   refine (banOf_2 a t _).mono ?_
   rintro e w6 ⟨rfl, bw⟩
   have hb6 := hbt hb5 bw
   have HBv1_6 := hblk HBv1_5 bw
   clear hb5 HBv1_5 bw
   have hS6 := HBv1_6.out
   refine hK.out _ _ hS6 (fun _ => ?_)
   clear hK K hS5
   refine tkP 17 (.bool false) 23 rfl rfl hS6 ?_
   go_frame
   refine tkP 18 (.bool false) 24 rfl rfl hS6 ?_
   go_frame
   refine tkP 19 (.bool false) 2 rfl rfl hS6 ?_
   go_frame
   clear hS6
   refine wpAnyH_done (by kernel_rfl) ?_ _
   go_wp2_with fail
   go_ret
   refine ⟨false, rfl, ?_, hb6⟩
   have zHur := Hur.out
   have zHut := Hut.out
   have zHB := HB0.out
   unfold BanP
   simp_all
theorem implBanOk_3 (a b : ByteArray) (t : Int) (w : World) (ha : a.size ≤ maxLen) (hb : b.size ≤ maxLen) :
  Calls Tryz.prog 135 #[.agg #[.int .i64 3, .string a, .string b, .int .i64 t]] w fun e w' => BoolIs (BanP 3 a b t) w e w' := by
 classical
 have HAM : Hid (a.size ≤ maxLen) := ha
 have HBM : Hid (b.size ≤ maxLen) := hb
 have hnn : ∀ W : World, (binOp .neq 222 (.iface 260 (.agg #[.string a, .string b])) .nilIface).run Tryz.prog W = .ok (.bool true) W := fun _ => by kernel_rfl
 have hna : ∀ W : World, (nilAhead 157 260 (.agg #[.string a, .string b]) "loop.example/g00239/impl.right").run Tryz.prog W = .ok (some false) W := fun _ => by kernel_rfl
 have hmt : ∀ W : World, (method 157 260 (.agg #[.string a, .string b]) "loop.example/g00239/impl.right").run Tryz.prog W = .ok (252, .agg #[.string a, .string b]) W := fun _ => by kernel_rfl
 have hgb := guardBan
 have hqe : ∀ W : World, (binOp .eql 152 (.agg #[.int .i64 3, .string a, .string b, .int .i64 t]) (.agg #[.int .i64 3, .string a, .string b, .int .i64 t])).run Tryz.prog W = .ok (.bool true) W := fun W => by
  rw [eqlBan]
  first | (simp; done) | (have z := HB0.out; simp; exact fun e => z e.symm)
 clear ha hb
 have hb0 : Below w.heap.size w w := Below.refl _ _
 go_enter Tryz.func135, Tryz.ntmps135
 go_upto_region 1 with fail
 obtain ⟨qv1, hqv1⟩ := exq ((w).heap.size)
 obtain ⟨w1, hW1⟩ := exq ((w).alloc (.cells #[.int .i64 3, .string a, .string b, .int .i64 t] 152))
 have hz1 : (w).heap.size = qv1 := hqv1.symm
 first | rw [← hW1, ← hqv1] | rw [← hW1]
 have hs1 := hsa hW1 hz1
 have bw := bal hW1
 have hb1 := hbt hb0 bw
 have HBv1_1 := hnew hW1 hz1
 clear hb0 bw hW1 hz1
 clear hs1 hqv1
 have cv1_0 := (k4c HBv1_1).1
 have cv1_1 := (k4c HBv1_1).2.1
 have cv1_2 := (k4c HBv1_1).2.2.1
 have cv1_3 := (k4c HBv1_1).2.2.2
 go_wp2_with fail
 refine (ruleOf_3 a b t _).mono ?_
 rintro e w2 ⟨rfl, bw⟩
 have hb2 := hbt hb1 bw
 have HBv1_2 := hblk HBv1_1 bw
 clear hb1 HBv1_1 bw
 clear cv1_0 cv1_1 cv1_2 cv1_3
 go_upto_region 2 with fail
 refine wp_region_held_drew (S := fun W => W.heap[qv1]? = some (.cells #[.int .i64 3, .string a, .string b, .int .i64 t] 152)) (by kernel_rfl) HBv1_2.out (fun _ => ?_)
 obtain ⟨w3, hX⟩ := exq w2.drew
 have bw := bdr hX
 rw [← hX]
 have hb3 := hbt hb2 bw
 have HBv1_3 := hblk HBv1_2 bw
 have hS3 := HBv1_3.out
 clear hb2 HBv1_2 bw hX
 refine tkP 0 (.iface 260 (.agg #[.string a, .string b])) 6 rfl rfl hS3 ?_
 go_frame
 refine tkP 1 (.bool true) 7 rfl rfl hS3 ?_
 go_frame
 refine tkP 2 (.bool true) 8 rfl rfl hS3 ?_
 go_frame
 refine tkP 3 (.iface 260 (.agg #[.string a, .string b])) 9 rfl rfl hS3 ?_
 go_frame
 refine rd1 4 rfl (fun K hK => ?_)
 go_simp
 refine (right_3 a b _ HAM.out HBM.out).mono ?_
 rintro e w4 ⟨ur, rfl, htur, bw⟩
 have hb4 := hbt hb3 bw
 have HBv1_4 := hblk HBv1_3 bw
 clear hb3 HBv1_3 bw
 have hS4 := HBv1_4.out
 refine hK.out _ _ hS4 (fun _ => ?_)
 clear hK K hS3
 refine tkP 5 (.bool ur) 11 rfl rfl hS4 ?_
 go_frame
 refine tkP 6 (.bool ur) 12 rfl rfl hS4 ?_
 go_frame
 cases ur with
 | false =>
  have Hur : Hid (¬ (TokOk a ∧ ValOk b)) := fun h => nomatch htur.2 h
  clear htur
  refine tkN 7 13 rfl rfl hS4 ?_
  go_frame
  refine tkN 8 14 rfl rfl hS4 ?_
  go_frame
  refine tkN 9 15 rfl rfl hS4 ?_
  go_frame
  refine tkP 10 (.bool false) 16 rfl rfl hS4 ?_
  go_frame
  refine tkP 11 (.bool false) 17 rfl rfl hS4 ?_
  go_frame
  refine tkN 12 18 rfl rfl hS4 ?_
  go_frame
  refine tkN 13 19 rfl rfl hS4 ?_
  go_frame
  refine tkN 14 20 rfl rfl hS4 ?_
  go_frame
  refine tkN 15 21 rfl rfl hS4 ?_
  go_frame
  refine tkN 16 22 rfl rfl hS4 ?_
  go_frame
  refine tkN 17 23 rfl rfl hS4 ?_
  go_frame
  refine tkP 18 (.bool false) 24 rfl rfl hS4 ?_
  go_frame
  refine tkP 19 (.bool false) 2 rfl rfl hS4 ?_
  go_frame
  clear hS4
  refine wpAnyH_done (by kernel_rfl) ?_ _
  go_wp2_with fail
  go_ret
  refine ⟨false, rfl, ?_, hb4⟩
  have zHur := Hur.out
  unfold BanP
  simp_all
 | true =>
  have Hur : Hid (TokOk a ∧ ValOk b) := htur.1 rfl
  clear htur
  refine tkP 7 (.pointer (some ⟨qv1, 3, none⟩)) 13 rfl rfl hS4 ?_
  go_frame
  refine tkL 8 (.int .i64 t) 14 rfl rfl (Or.inl ⟨by rfl, by intro W hW; have hhv1 := hW; have y3 := (cell_of hhv1 3).trans rfl; go_simp⟩) hS4 ?_
  go_frame
  refine rd1 9 rfl (fun K hK => ?_)
  go_simp
  refine (timeOk_any t _).mono ?_
  rintro e w5 ⟨rfl, hwe⟩
  have bw : Below (w4).heap.size (w4) w5 := by rw [hwe]; exact Below.refl _ _
  clear hwe
  obtain ⟨ut, hut⟩ : ∃ u, u = decide ((0 : Int) ≤ t ∧ t ≤ 1000000) := ⟨_, rfl⟩
  rw [← hut]
  have hb5 := hbt hb4 bw
  have HBv1_5 := hblk HBv1_4 bw
  clear hb4 HBv1_4 bw
  have hS5 := HBv1_5.out
  refine hK.out _ _ hS5 (fun _ => ?_)
  clear hK K hS4
  refine tkP 10 (.bool ut) 16 rfl rfl hS5 ?_
  go_frame
  refine tkP 11 (.bool ut) 17 rfl rfl hS5 ?_
  go_frame
  cases ut with
  | false =>
   have Hut : Hid (¬ (0 ≤ t ∧ t ≤ 1000000)) := (show ¬ (0 ≤ t ∧ t ≤ 1000000) from of_decide_eq_false hut.symm)
   clear hut
   refine tkN 12 18 rfl rfl hS5 ?_
   go_frame
   refine tkN 13 19 rfl rfl hS5 ?_
   go_frame
   refine tkN 14 20 rfl rfl hS5 ?_
   go_frame
   refine tkN 15 21 rfl rfl hS5 ?_
   go_frame
   refine tkN 16 22 rfl rfl hS5 ?_
   go_frame
   refine tkN 17 23 rfl rfl hS5 ?_
   go_frame
   refine tkP 18 (.bool false) 24 rfl rfl hS5 ?_
   go_frame
   refine tkP 19 (.bool false) 2 rfl rfl hS5 ?_
   go_frame
   clear hS5
   refine wpAnyH_done (by kernel_rfl) ?_ _
   go_wp2_with fail
   go_ret
   refine ⟨false, rfl, ?_, hb5⟩
   have zHur := Hur.out
   have zHut := Hut.out
   unfold BanP
   simp_all
  | true =>
   have Hut : Hid (0 ≤ t ∧ t ≤ 1000000) := (show 0 ≤ t ∧ t ≤ 1000000 from of_decide_eq_true hut.symm)
   clear hut
   refine tkP 12 (.iface 260 (.agg #[.string a, .string b])) 18 rfl rfl hS5 ?_
   go_frame
   refine tkP 13 (.pointer (some ⟨qv1, 3, none⟩)) 19 rfl rfl hS5 ?_
   go_frame
   refine tkL 14 (.int .i64 t) 20 rfl rfl (Or.inl ⟨by rfl, by intro W hW; have hhv1 := hW; have y3 := (cell_of hhv1 3).trans rfl; go_simp⟩) hS5 ?_
   go_frame
   refine tkL 16 (.agg #[.int .i64 3, .string a, .string b, .int .i64 t]) 22 rfl rfl (Or.inl ⟨by rfl, by intro W hW; have hhv1 := hW; have y0 := (cell_of hhv1 0).trans rfl; have y1 := (cell_of hhv1 1).trans rfl; have y2 := (cell_of hhv1 2).trans rfl; have y3 := (cell_of hhv1 3).trans rfl; go_simp⟩) hS5 ?_
   go_frame
   refine rd1 15 rfl (fun K hK => ?_)
   go_simp
   refine (banOf_3 a b t _).mono ?_
   rintro e w6 ⟨rfl, bw⟩
   have hb6 := hbt hb5 bw
   have HBv1_6 := hblk HBv1_5 bw
   clear hb5 HBv1_5 bw
   have hS6 := HBv1_6.out
   refine hK.out _ _ hS6 (fun _ => ?_)
   clear hK K hS5
   refine tkP 17 (.bool true) 23 rfl rfl hS6 ?_
   go_frame
   refine tkP 18 (.bool true) 24 rfl rfl hS6 ?_
   go_frame
   refine tkP 19 (.bool true) 2 rfl rfl hS6 ?_
   go_frame
   clear hS6
   refine wpAnyH_done (by kernel_rfl) ?_ _
   go_wp2_with fail
   go_ret
   refine ⟨true, rfl, ?_, hb6⟩
   have zHur := Hur.out
   have zHut := Hut.out
   unfold BanP
   simp_all
theorem implBanOk_no (k : Int) (a b : ByteArray) (t : Int) (w : World) (h1 : ¬ k = 1) (h2 : ¬ k = 2) (h3 : ¬ k = 3) :
  Calls Tryz.prog 135 #[.agg #[.int .i64 k, .string a, .string b, .int .i64 t]] w fun e w' => BoolIs (BanP k a b t) w e w' := by
 have HK1 : Hid (¬ k = 1) := h1
 have HK2 : Hid (¬ k = 2) := h2
 have HK3 : Hid (¬ k = 3) := h3
 have hnn : ∀ W : World, (binOp .neq 222 .nilIface .nilIface).run Tryz.prog W = .ok (.bool false) W := fun _ => by kernel_rfl
 clear h1 h2 h3
 have hb0 : Below w.heap.size w w := Below.refl _ _
 go_enter Tryz.func135, Tryz.ntmps135
 go_upto_region 1 with fail
 obtain ⟨qv1, hqv1⟩ := exq ((w).heap.size)
 obtain ⟨w1, hW1⟩ := exq ((w).alloc (.cells #[.int .i64 k, .string a, .string b, .int .i64 t] 152))
 have hz1 : (w).heap.size = qv1 := hqv1.symm
 first | rw [← hW1, ← hqv1] | rw [← hW1]
 have hs1 := hsa hW1 hz1
 have bw := bal hW1
 have hb1 := hbt hb0 bw
 have HBv1_1 := hnew hW1 hz1
 clear hb0 bw hW1 hz1
 clear hs1 hqv1
 have cv1_0 := (k4c HBv1_1).1
 have cv1_1 := (k4c HBv1_1).2.1
 have cv1_2 := (k4c HBv1_1).2.2.1
 have cv1_3 := (k4c HBv1_1).2.2.2
 go_wp2_with fail
 refine (ruleOf_no k a b t _ HK1.out HK2.out HK3.out).mono ?_
 rintro e w2 ⟨rfl, bw⟩
 have hb2 := hbt hb1 bw
 have HBv1_2 := hblk HBv1_1 bw
 clear hb1 HBv1_1 bw
 clear cv1_0 cv1_1 cv1_2 cv1_3
 go_upto_region 2 with fail
 refine wp_region_held_drew (S := fun W => W.heap[qv1]? = some (.cells #[.int .i64 k, .string a, .string b, .int .i64 t] 152)) (by kernel_rfl) HBv1_2.out (fun _ => ?_)
 obtain ⟨w3, hX⟩ := exq w2.drew
 have bw := bdr hX
 rw [← hX]
 have hb3 := hbt hb2 bw
 have HBv1_3 := hblk HBv1_2 bw
 have hS3 := HBv1_3.out
 clear hb2 HBv1_2 bw hX
 refine tkP 0 (.nilIface) 6 rfl rfl hS3 ?_
 go_frame
 refine tkP 1 (.bool false) 7 rfl rfl hS3 ?_
 go_frame
 refine tkP 2 (.bool false) 8 rfl rfl hS3 ?_
 go_frame
 refine tkN 3 9 rfl rfl hS3 ?_
 go_frame
 refine tkN 4 10 rfl rfl hS3 ?_
 go_frame
 refine tkP 5 (.bool false) 11 rfl rfl hS3 ?_
 go_frame
 refine tkP 6 (.bool false) 12 rfl rfl hS3 ?_
 go_frame
 refine tkN 7 13 rfl rfl hS3 ?_
 go_frame
 refine tkN 8 14 rfl rfl hS3 ?_
 go_frame
 refine tkN 9 15 rfl rfl hS3 ?_
 go_frame
 refine tkP 10 (.bool false) 16 rfl rfl hS3 ?_
 go_frame
 refine tkP 11 (.bool false) 17 rfl rfl hS3 ?_
 go_frame
 refine tkN 12 18 rfl rfl hS3 ?_
 go_frame
 refine tkN 13 19 rfl rfl hS3 ?_
 go_frame
 refine tkN 14 20 rfl rfl hS3 ?_
 go_frame
 refine tkN 15 21 rfl rfl hS3 ?_
 go_frame
 refine tkN 16 22 rfl rfl hS3 ?_
 go_frame
 refine tkN 17 23 rfl rfl hS3 ?_
 go_frame
 refine tkP 18 (.bool false) 24 rfl rfl hS3 ?_
 go_frame
 refine tkP 19 (.bool false) 2 rfl rfl hS3 ?_
 go_frame
 clear hS3
 refine wpAnyH_done (by kernel_rfl) ?_ _
 go_wp2_with fail
 go_ret
 refine BoolIs.no ?_ hb3
 intro h
 rcases h.kinds with h | h | h
 · exact HK1.out h
 · exact HK2.out h
 · exact HK3.out h
theorem implBanOk_any (k : Int) (a b : ByteArray) (t : Int) (w : World) (ha : a.size ≤ maxLen) (hb : b.size ≤ maxLen) :
  Calls Tryz.prog 135 #[.agg #[.int .i64 k, .string a, .string b, .int .i64 t]] w fun e w' => BoolIs (BanP k a b t) w e w' := by
 classical
 by_cases h1 : k = 1
 ·
  subst h1
  by_cases h : b = ⟨#[]⟩
  · subst h; exact implBanOk_1e a t w ha
  · exact implBanOk_1n a b t w ha h
 ·
  by_cases h2 : k = 2
  ·
   subst h2
   by_cases h : b = ⟨#[]⟩
   · subst h; exact implBanOk_2e a t w ha
   · exact implBanOk_2n a b t w ha h
  ·
   by_cases h3 : k = 3
   · subst h3; exact implBanOk_3 a b t w ha hb
   · exact implBanOk_no k a b t w h1 h2 h3
end Go.Proofs.YtbmhonfgffjpcaaGreat
namespace Go.Proofs.YtbmhonfgffjpcaaGreat
open Go.RowKit
open Go.Lib hiding intOf
theorem implHits_1 (a b : ByteArray) (t : Int) (p : ByteArray) (o1 : Option Addr) (n1 c1 : Nat) (xs : List ByteArray) (o2 : Option Addr) (n2 c2 : Nat) (ys : List ByteArray) (st : Int) (v3 : Value) (n3 base : Nat) (fs : List (ByteArray × ByteArray)) (d : ByteArray) (u : Int) (w : World) (ha : a.size ≤ maxLen) (hb : b.size ≤ maxLen) (h1 : TextsA w o1 n1 xs) (h2 : TextsA w o2 n2 ys) (h3 : FieldsV w base v3 n3 fs) (hn1 : n1 ≤ 2000000) (hn2 : n2 ≤ 2000000) (hn3 : n3 ≤ 2000000) (hs1 : ∀ i, i < n1 → (textAt xs i).size ≤ maxLen) (hs2 : ∀ i, i < n2 → (textAt ys i).size ≤ maxLen) (hs3 : WalkF n3 fs) (hc : CopyF fs) (hp : p.size ≤ maxLen) (hx : d.size ≤ maxLen) (hg : (getV fs varyName).size ≤ 1048576) :
    Calls Tryz.prog 148 #[.agg #[.int .i64 1, .string a, .string b, .int .i64 t], .agg #[.string p, .slice o1 n1 c1, .slice o2 n2 c2, .int .i64 st, v3, .string d, .int .i64 u]] w fun e w' => BoolIs (HitP 1 a b t p xs ys st fs d u) w e w' := by
  obtain ⟨o3, c3, rfl, _⟩ := h3.slice
  have HV1 : Hid (∀ W, Below w.heap.size w W → TextsA W o1 n1 xs) := fun W h => h1.below h
  have HV2 : Hid (∀ W, Below w.heap.size w W → TextsA W o2 n2 ys) := fun W h => h2.below h
  have HV3 : Hid (∀ W, Below w.heap.size w W → FieldsV W base (.slice o3 n3 c3) n3 fs) := fun W h => h3.below h
  have HS1 : Hid (∀ i, i < n1 → (textAt xs i).size ≤ maxLen) := hs1
  have HS2 : Hid (∀ i, i < n2 → (textAt ys i).size ≤ maxLen) := hs2
  have HS3 : Hid (WalkF n3 fs) := hs3
  have HC : Hid (CopyF fs) := hc
  have HPM : Hid (p.size ≤ maxLen) := hp
  have HX : Hid (d.size ≤ maxLen) := hx
  have HG : Hid ((getV fs varyName).size ≤ 1048576) := hg
  have HAM : Hid (a.size ≤ maxLen) := ha
  have HBM : Hid (b.size ≤ maxLen) := hb
  clear h1 h2 h3 hs1 hs2 hs3 hc hp hx hg ha hb
  have hna : ∀ W : World, (nilAhead 157 256 (.agg #[.string a]) "loop.example/g00239/impl.bans").run Tryz.prog W = .ok (some false) W := fun _ => by kernel_rfl
  have hmt : ∀ W : World, (method 157 256 (.agg #[.string a]) "loop.example/g00239/impl.bans").run Tryz.prog W = .ok (246, .agg #[.string a]) W := fun _ => by kernel_rfl
  have hb0 : Below w.heap.size w w := Below.refl _ _
  go_enter Tryz.func148, Tryz.ntmps148
  go_upto_region 1 with fail
  obtain ⟨qv1, hqv1⟩ := exq ((w).heap.size)
  obtain ⟨w1, hW1⟩ := exq ((w).alloc (.cells #[.int .i64 1, .string a, .string b, .int .i64 t] 152))
  have hz1 : (w).heap.size = qv1 := hqv1.symm
  first | rw [← hW1, ← hqv1] | rw [← hW1]
  have hs1 := hsa hW1 hz1
  have bw := bal hW1
  have hb1 := hbt hb0 bw
  have HBv1_1 := hnew hW1 hz1
  clear hb0 bw hW1 hz1
  obtain ⟨qv2, hqv2⟩ := exq (qv1 + 1)
  obtain ⟨w2, hW2⟩ := exq ((w1).alloc (.cells #[.string p, .slice o1 n1 c1, .slice o2 n2 c2, .int .i64 st, .slice o3 n3 c3, .string d, .int .i64 u] 66))
  have hz2 : (w1).heap.size = qv2 := by rw [hqv2]; exact hs1
  first | rw [← hW2, ← hqv2] | rw [← hW2]
  have hs2 := hsa hW2 hz2
  have bw := bal hW2
  have hb2 := hbt hb1 bw
  have HBv1_2 := hblk HBv1_1 bw
  have HBv2_2 := hnew hW2 hz2
  clear hb1 HBv1_1 bw hW2 hz2
  clear hs2 hqv2 hs1 hqv1
  go_upto_region 1 with fail
  refine wp_region_held_drew (S := fun W => W.heap[qv1]? = some (.cells #[.int .i64 1, .string a, .string b, .int .i64 t] 152) ∧ W.heap[qv2]? = some (.cells #[.string p, .slice o1 n1 c1, .slice o2 n2 c2, .int .i64 st, .slice o3 n3 c3, .string d, .int .i64 u] 66)) (by kernel_rfl) ⟨HBv1_2.out, HBv2_2.out⟩ (fun _ => ?_)
  obtain ⟨w3, hX⟩ := exq w2.drew
  have bw := bdr hX
  rw [← hX]
  have hb3 := hbt hb2 bw
  have HBv1_3 := hblk HBv1_2 bw
  have HBv2_3 := hblk HBv2_2 bw
  have hS3 := And.intro HBv1_3.out HBv2_3.out
  clear hb2 HBv1_2 HBv2_2 bw hX
  refine tkL 0 (.agg #[.int .i64 1, .string a, .string b, .int .i64 t]) 5 rfl rfl (Or.inl ⟨by rfl, by intro W hW; obtain ⟨hhv1, hhv2⟩ := hW; have y0 := (cell_of hhv1 0).trans rfl; have y1 := (cell_of hhv1 1).trans rfl; have y2 := (cell_of hhv1 2).trans rfl; have y3 := (cell_of hhv1 3).trans rfl; go_simp⟩) hS3 ?_
  go_frame
  refine rd1 1 rfl (fun K hK => ?_)
  go_simp
  refine (implBanOk_any 1 a b t _ HAM.out HBM.out).mono ?_
  rintro e w4 ⟨ub, rfl, htub, bw⟩
  have hb4 := hbt hb3 bw
  have HBv1_4 := hblk HBv1_3 bw
  have HBv2_4 := hblk HBv2_3 bw
  clear hb3 HBv1_3 HBv2_3 bw
  have hS4 := And.intro HBv1_4.out HBv2_4.out
  refine hK.out _ _ hS4 (fun _ => ?_)
  clear hK K hS3
  refine tkP 2 (.bool ub) 7 rfl rfl hS4 ?_
  go_frame
  cases ub with
  | false =>
    have Hub : Hid (¬ (BanP 1 a b t)) := fun h => nomatch htub.2 h
    clear htub
    refine tkN 3 8 rfl rfl hS4 ?_
    go_frame
    refine tkN 4 9 rfl rfl hS4 ?_
    go_frame
    refine tkP 5 (.bool false) 10 rfl rfl hS4 ?_
    go_frame
    refine tkP 6 (.bool false) 11 rfl rfl hS4 ?_
    go_frame
    refine tkN 7 12 rfl rfl hS4 ?_
    go_frame
    refine tkN 8 13 rfl rfl hS4 ?_
    go_frame
    refine tkN 9 14 rfl rfl hS4 ?_
    go_frame
    refine tkN 10 15 rfl rfl hS4 ?_
    go_frame
    refine tkN 11 16 rfl rfl hS4 ?_
    go_frame
    refine tkP 12 (.bool false) 17 rfl rfl hS4 ?_
    go_frame
    refine tkP 13 (.bool false) 18 rfl rfl hS4 ?_
    go_frame
    refine tkN 14 19 rfl rfl hS4 ?_
    go_frame
    refine tkN 15 20 rfl rfl hS4 ?_
    go_frame
    refine tkN 16 21 rfl rfl hS4 ?_
    go_frame
    refine tkN 17 22 rfl rfl hS4 ?_
    go_frame
    refine tkP 18 (.bool false) 23 rfl rfl hS4 ?_
    go_frame
    refine tkP 19 (.bool false) 4 rfl rfl hS4 ?_
    go_frame
    clear hS4
    refine wpAnyH_done (by kernel_rfl) ?_ _
    go_wp2_with fail
    go_ret
    refine ⟨false, rfl, ?_, hb4⟩
    have zHub := Hub.out
    refine ⟨fun h => (by cases h), fun h => ?_⟩
    exfalso
    obtain ⟨q1, q2, q3, q4⟩ := h
    first
      | exact zHub q1
      | exact zHuo q2
      | exact zHLE q3
      | (rcases q4 with ⟨e1, e2⟩ | ⟨e1, e2⟩ | ⟨e1, e2, e3⟩
         all_goals first
           | omega
           | exact zHuh e2
           | exact zHuh ⟨e2, e3⟩)
  | true =>
    have Hub : Hid (BanP 1 a b t) := htub.1 rfl
    clear htub
    refine tkL 3 (.agg #[.string p, .slice o1 n1 c1, .slice o2 n2 c2, .int .i64 st, .slice o3 n3 c3, .string d, .int .i64 u]) 8 rfl rfl (Or.inl ⟨by rfl, by intro W hW; obtain ⟨hhv1, hhv2⟩ := hW; have y0 := (cell_of hhv2 0).trans rfl; have y1 := (cell_of hhv2 1).trans rfl; have y2 := (cell_of hhv2 2).trans rfl; have y3 := (cell_of hhv2 3).trans rfl; have y4 := (cell_of hhv2 4).trans rfl; have y5 := (cell_of hhv2 5).trans rfl; have y6 := (cell_of hhv2 6).trans rfl; go_simp⟩) hS4 ?_
    go_frame
    refine rd1 4 rfl (fun K hK => ?_)
    go_simp
    refine (implObjOk_any p _ n1 _ xs _ n2 _ ys st _ n3 base fs d u _ (HV1.out _ hb4) (HV2.out _ hb4) (HV3.out _ hb4) (by omega) (by omega) (by omega) HS1.out HS2.out HS3.out HC.out HPM.out HX.out HG.out).mono ?_
    rintro e w5 ⟨uo, rfl, htuo, bw⟩
    have hb5 := hbt hb4 bw
    have HBv1_5 := hblk HBv1_4 bw
    have HBv2_5 := hblk HBv2_4 bw
    clear hb4 HBv1_4 HBv2_4 bw
    have hS5 := And.intro HBv1_5.out HBv2_5.out
    refine hK.out _ _ hS5 (fun _ => ?_)
    clear hK K hS4
    refine tkP 5 (.bool uo) 10 rfl rfl hS5 ?_
    go_frame
    refine tkP 6 (.bool uo) 11 rfl rfl hS5 ?_
    go_frame
    cases uo with
    | false =>
      have Huo : Hid (¬ (ObjP p xs ys st fs d u)) := fun h => nomatch htuo.2 h
      clear htuo
      refine tkN 7 12 rfl rfl hS5 ?_
      go_frame
      refine tkN 8 13 rfl rfl hS5 ?_
      go_frame
      refine tkN 9 14 rfl rfl hS5 ?_
      go_frame
      refine tkN 10 15 rfl rfl hS5 ?_
      go_frame
      refine tkN 11 16 rfl rfl hS5 ?_
      go_frame
      refine tkP 12 (.bool false) 17 rfl rfl hS5 ?_
      go_frame
      refine tkP 13 (.bool false) 18 rfl rfl hS5 ?_
      go_frame
      refine tkN 14 19 rfl rfl hS5 ?_
      go_frame
      refine tkN 15 20 rfl rfl hS5 ?_
      go_frame
      refine tkN 16 21 rfl rfl hS5 ?_
      go_frame
      refine tkN 17 22 rfl rfl hS5 ?_
      go_frame
      refine tkP 18 (.bool false) 23 rfl rfl hS5 ?_
      go_frame
      refine tkP 19 (.bool false) 4 rfl rfl hS5 ?_
      go_frame
      clear hS5
      refine wpAnyH_done (by kernel_rfl) ?_ _
      go_wp2_with fail
      go_ret
      refine ⟨false, rfl, ?_, hb5⟩
      have zHub := Hub.out
      have zHuo := Huo.out
      refine ⟨fun h => (by cases h), fun h => ?_⟩
      exfalso
      obtain ⟨q1, q2, q3, q4⟩ := h
      first
        | exact zHub q1
        | exact zHuo q2
        | exact zHLE q3
        | (rcases q4 with ⟨e1, e2⟩ | ⟨e1, e2⟩ | ⟨e1, e2, e3⟩
           all_goals first
             | omega
             | exact zHuh e2
             | exact zHuh ⟨e2, e3⟩)
    | true =>
      have Huo : Hid (ObjP p xs ys st fs d u) := htuo.1 rfl
      clear htuo
      refine tkP 7 (.pointer (some ⟨qv2, 6, none⟩)) 12 rfl rfl hS5 ?_
      go_frame
      refine tkL 8 (.int .i64 u) 13 rfl rfl (Or.inl ⟨by rfl, by intro W hW; obtain ⟨hhv1, hhv2⟩ := hW; have y6 := (cell_of hhv2 6).trans rfl; go_simp⟩) hS5 ?_
      go_frame
      refine tkP 9 (.pointer (some ⟨qv1, 3, none⟩)) 14 rfl rfl hS5 ?_
      go_frame
      refine tkL 10 (.int .i64 t) 15 rfl rfl (Or.inl ⟨by rfl, by intro W hW; obtain ⟨hhv1, hhv2⟩ := hW; have y3 := (cell_of hhv1 3).trans rfl; go_simp⟩) hS5 ?_
      go_frame
      by_cases hc1 : u ≤ t
      · have HLE : Hid (u ≤ t) := hc1
        refine tkP 11 (.bool true) 16 rfl rfl hS5 ?_
        go_frame
        refine tkP 12 (.bool true) 17 rfl rfl hS5 ?_
        go_frame
        refine tkP 13 (.bool true) 18 rfl rfl hS5 ?_
        go_frame
        refine tkL 14 (.agg #[.int .i64 1, .string a, .string b, .int .i64 t]) 19 rfl rfl (Or.inl ⟨by rfl, by intro W hW; obtain ⟨hhv1, hhv2⟩ := hW; have y0 := (cell_of hhv1 0).trans rfl; have y1 := (cell_of hhv1 1).trans rfl; have y2 := (cell_of hhv1 2).trans rfl; have y3 := (cell_of hhv1 3).trans rfl; go_simp⟩) hS5 ?_
        go_frame
        refine tkL 16 (.agg #[.string p, .slice o1 n1 c1, .slice o2 n2 c2, .int .i64 st, .slice o3 n3 c3, .string d, .int .i64 u]) 21 rfl rfl (Or.inl ⟨by rfl, by intro W hW; obtain ⟨hhv1, hhv2⟩ := hW; have y0 := (cell_of hhv2 0).trans rfl; have y1 := (cell_of hhv2 1).trans rfl; have y2 := (cell_of hhv2 2).trans rfl; have y3 := (cell_of hhv2 3).trans rfl; have y4 := (cell_of hhv2 4).trans rfl; have y5 := (cell_of hhv2 5).trans rfl; have y6 := (cell_of hhv2 6).trans rfl; go_simp⟩) hS5 ?_
        go_frame
        refine rd1 15 rfl (fun K hK => ?_)
        go_simp
        refine (ruleOf_1 a b t _).mono ?_
        rintro e w6 ⟨rfl, bw⟩
        have hb6 := hbt hb5 bw
        have HBv1_6 := hblk HBv1_5 bw
        have HBv2_6 := hblk HBv2_5 bw
        clear hb5 HBv1_5 HBv2_5 bw
        have hS6 := And.intro HBv1_6.out HBv2_6.out
        refine hK.out _ _ hS6 (fun _ => ?_)
        clear hK K hS5
        refine rd1 17 rfl (fun K hK => ?_)
        go_simp
        refine (bans_1 a p _ _ st _ d u _).mono ?_
        rintro e w7 ⟨uh, rfl, htuh, bw⟩
        have hb7 := hbt hb6 bw
        have HBv1_7 := hblk HBv1_6 bw
        have HBv2_7 := hblk HBv2_6 bw
        clear hb6 HBv1_6 HBv2_6 bw
        have hS7 := And.intro HBv1_7.out HBv2_7.out
        refine hK.out _ _ hS7 (fun _ => ?_)
        clear hK K hS6
        refine tkP 18 (.bool uh) 23 rfl rfl hS7 ?_
        go_frame
        refine tkP 19 (.bool uh) 4 rfl rfl hS7 ?_
        go_frame
        clear hS7
        refine wpAnyH_done (by kernel_rfl) ?_ _
        cases uh with
        | false =>
          have Huh : Hid (¬ (p = a)) := fun h => nomatch htuh.2 h
          clear htuh
          go_wp2_with fail
          go_ret
          refine ⟨false, rfl, ?_, hb7⟩
          have zHub := Hub.out
          have zHuo := Huo.out
          have zHLE := HLE.out
          have zHuh := Huh.out
          refine ⟨fun h => (by cases h), fun h => ?_⟩
          exfalso
          obtain ⟨q1, q2, q3, q4⟩ := h
          first
            | exact zHub q1
            | exact zHuo q2
            | exact zHLE q3
            | (rcases q4 with ⟨e1, e2⟩ | ⟨e1, e2⟩ | ⟨e1, e2, e3⟩
               all_goals first
                 | omega
                 | exact zHuh e2
                 | exact zHuh ⟨e2, e3⟩)
        | true =>
          have Huh : Hid (p = a) := htuh.1 rfl
          clear htuh
          go_wp2_with fail
          go_ret
          refine ⟨true, rfl, ?_, hb7⟩
          have zHub := Hub.out
          have zHuo := Huo.out
          have zHLE := HLE.out
          have zHuh := Huh.out
          exact ⟨fun _ => ⟨zHub, zHuo, zHLE, .inl ⟨rfl, zHuh⟩⟩, fun _ => rfl⟩
      · have HLE : Hid (¬ u ≤ t) := hc1
        refine tkP 11 (.bool false) 16 rfl rfl hS5 ?_
        go_frame
        refine tkP 12 (.bool false) 17 rfl rfl hS5 ?_
        go_frame
        refine tkP 13 (.bool false) 18 rfl rfl hS5 ?_
        go_frame
        refine tkN 14 19 rfl rfl hS5 ?_
        go_frame
        refine tkN 15 20 rfl rfl hS5 ?_
        go_frame
        refine tkN 16 21 rfl rfl hS5 ?_
        go_frame
        refine tkN 17 22 rfl rfl hS5 ?_
        go_frame
        refine tkP 18 (.bool false) 23 rfl rfl hS5 ?_
        go_frame
        refine tkP 19 (.bool false) 4 rfl rfl hS5 ?_
        go_frame
        clear hS5
        refine wpAnyH_done (by kernel_rfl) ?_ _
        go_wp2_with fail
        go_ret
        refine ⟨false, rfl, ?_, hb5⟩
        have zHub := Hub.out
        have zHuo := Huo.out
        have zHLE := HLE.out
        refine ⟨fun h => (by cases h), fun h => ?_⟩
        exfalso
        obtain ⟨q1, q2, q3, q4⟩ := h
        first
          | exact zHub q1
          | exact zHuo q2
          | exact zHLE q3
          | (rcases q4 with ⟨e1, e2⟩ | ⟨e1, e2⟩ | ⟨e1, e2, e3⟩
             all_goals first
               | omega
               | exact zHuh e2
               | exact zHuh ⟨e2, e3⟩)
theorem implHits_2 (a b : ByteArray) (t : Int) (p : ByteArray) (o1 : Option Addr) (n1 c1 : Nat) (xs : List ByteArray) (o2 : Option Addr) (n2 c2 : Nat) (ys : List ByteArray) (st : Int) (v3 : Value) (n3 base : Nat) (fs : List (ByteArray × ByteArray)) (d : ByteArray) (u : Int) (w : World) (ha : a.size ≤ maxLen) (hb : b.size ≤ maxLen) (h1 : TextsA w o1 n1 xs) (h2 : TextsA w o2 n2 ys) (h3 : FieldsV w base v3 n3 fs) (hn1 : n1 ≤ 2000000) (hn2 : n2 ≤ 2000000) (hn3 : n3 ≤ 2000000) (hs1 : ∀ i, i < n1 → (textAt xs i).size ≤ maxLen) (hs2 : ∀ i, i < n2 → (textAt ys i).size ≤ maxLen) (hs3 : WalkF n3 fs) (hc : CopyF fs) (hp : p.size ≤ maxLen) (hx : d.size ≤ maxLen) (hg : (getV fs varyName).size ≤ 1048576) :
    Calls Tryz.prog 148 #[.agg #[.int .i64 2, .string a, .string b, .int .i64 t], .agg #[.string p, .slice o1 n1 c1, .slice o2 n2 c2, .int .i64 st, v3, .string d, .int .i64 u]] w fun e w' => BoolIs (HitP 2 a b t p xs ys st fs d u) w e w' := by
  obtain ⟨o3, c3, rfl, _⟩ := h3.slice
  have HV1 : Hid (∀ W, Below w.heap.size w W → TextsA W o1 n1 xs) := fun W h => h1.below h
  have HV2 : Hid (∀ W, Below w.heap.size w W → TextsA W o2 n2 ys) := fun W h => h2.below h
  have HV3 : Hid (∀ W, Below w.heap.size w W → FieldsV W base (.slice o3 n3 c3) n3 fs) := fun W h => h3.below h
  have HS1 : Hid (∀ i, i < n1 → (textAt xs i).size ≤ maxLen) := hs1
  have HS2 : Hid (∀ i, i < n2 → (textAt ys i).size ≤ maxLen) := hs2
  have HS3 : Hid (WalkF n3 fs) := hs3
  have HC : Hid (CopyF fs) := hc
  have HPM : Hid (p.size ≤ maxLen) := hp
  have HX : Hid (d.size ≤ maxLen) := hx
  have HG : Hid ((getV fs varyName).size ≤ 1048576) := hg
  have HAM : Hid (a.size ≤ maxLen) := ha
  have HBM : Hid (b.size ≤ maxLen) := hb
  clear h1 h2 h3 hs1 hs2 hs3 hc hp hx hg ha hb
  have hna : ∀ W : World, (nilAhead 157 258 (.agg #[.string a]) "loop.example/g00239/impl.bans").run Tryz.prog W = .ok (some false) W := fun _ => by kernel_rfl
  have hmt : ∀ W : World, (method 157 258 (.agg #[.string a]) "loop.example/g00239/impl.bans").run Tryz.prog W = .ok (248, .agg #[.string a]) W := fun _ => by kernel_rfl
  have hb0 : Below w.heap.size w w := Below.refl _ _
  go_enter Tryz.func148, Tryz.ntmps148
  go_upto_region 1 with fail
  obtain ⟨qv1, hqv1⟩ := exq ((w).heap.size)
  obtain ⟨w1, hW1⟩ := exq ((w).alloc (.cells #[.int .i64 2, .string a, .string b, .int .i64 t] 152))
  have hz1 : (w).heap.size = qv1 := hqv1.symm
  first | rw [← hW1, ← hqv1] | rw [← hW1]
  have hs1 := hsa hW1 hz1
  have bw := bal hW1
  have hb1 := hbt hb0 bw
  have HBv1_1 := hnew hW1 hz1
  clear hb0 bw hW1 hz1
  obtain ⟨qv2, hqv2⟩ := exq (qv1 + 1)
  obtain ⟨w2, hW2⟩ := exq ((w1).alloc (.cells #[.string p, .slice o1 n1 c1, .slice o2 n2 c2, .int .i64 st, .slice o3 n3 c3, .string d, .int .i64 u] 66))
  have hz2 : (w1).heap.size = qv2 := by rw [hqv2]; exact hs1
  first | rw [← hW2, ← hqv2] | rw [← hW2]
  have hs2 := hsa hW2 hz2
  have bw := bal hW2
  have hb2 := hbt hb1 bw
  have HBv1_2 := hblk HBv1_1 bw
  have HBv2_2 := hnew hW2 hz2
  clear hb1 HBv1_1 bw hW2 hz2
  clear hs2 hqv2 hs1 hqv1
  go_upto_region 1 with fail
  refine wp_region_held_drew (S := fun W => W.heap[qv1]? = some (.cells #[.int .i64 2, .string a, .string b, .int .i64 t] 152) ∧ W.heap[qv2]? = some (.cells #[.string p, .slice o1 n1 c1, .slice o2 n2 c2, .int .i64 st, .slice o3 n3 c3, .string d, .int .i64 u] 66)) (by kernel_rfl) ⟨HBv1_2.out, HBv2_2.out⟩ (fun _ => ?_)
  obtain ⟨w3, hX⟩ := exq w2.drew
  have bw := bdr hX
  rw [← hX]
  have hb3 := hbt hb2 bw
  have HBv1_3 := hblk HBv1_2 bw
  have HBv2_3 := hblk HBv2_2 bw
  have hS3 := And.intro HBv1_3.out HBv2_3.out
  clear hb2 HBv1_2 HBv2_2 bw hX
  refine tkL 0 (.agg #[.int .i64 2, .string a, .string b, .int .i64 t]) 5 rfl rfl (Or.inl ⟨by rfl, by intro W hW; obtain ⟨hhv1, hhv2⟩ := hW; have y0 := (cell_of hhv1 0).trans rfl; have y1 := (cell_of hhv1 1).trans rfl; have y2 := (cell_of hhv1 2).trans rfl; have y3 := (cell_of hhv1 3).trans rfl; go_simp⟩) hS3 ?_
  go_frame
  refine rd1 1 rfl (fun K hK => ?_)
  go_simp
  refine (implBanOk_any 2 a b t _ HAM.out HBM.out).mono ?_
  rintro e w4 ⟨ub, rfl, htub, bw⟩
  have hb4 := hbt hb3 bw
  have HBv1_4 := hblk HBv1_3 bw
  have HBv2_4 := hblk HBv2_3 bw
  clear hb3 HBv1_3 HBv2_3 bw
  have hS4 := And.intro HBv1_4.out HBv2_4.out
  refine hK.out _ _ hS4 (fun _ => ?_)
  clear hK K hS3
  refine tkP 2 (.bool ub) 7 rfl rfl hS4 ?_
  go_frame
  cases ub with
  | false =>
    have Hub : Hid (¬ (BanP 2 a b t)) := fun h => nomatch htub.2 h
    clear htub
    refine tkN 3 8 rfl rfl hS4 ?_
    go_frame
    refine tkN 4 9 rfl rfl hS4 ?_
    go_frame
    refine tkP 5 (.bool false) 10 rfl rfl hS4 ?_
    go_frame
    refine tkP 6 (.bool false) 11 rfl rfl hS4 ?_
    go_frame
    refine tkN 7 12 rfl rfl hS4 ?_
    go_frame
    refine tkN 8 13 rfl rfl hS4 ?_
    go_frame
    refine tkN 9 14 rfl rfl hS4 ?_
    go_frame
    refine tkN 10 15 rfl rfl hS4 ?_
    go_frame
    refine tkN 11 16 rfl rfl hS4 ?_
    go_frame
    refine tkP 12 (.bool false) 17 rfl rfl hS4 ?_
    go_frame
    refine tkP 13 (.bool false) 18 rfl rfl hS4 ?_
    go_frame
    refine tkN 14 19 rfl rfl hS4 ?_
    go_frame
    refine tkN 15 20 rfl rfl hS4 ?_
    go_frame
    refine tkN 16 21 rfl rfl hS4 ?_
    go_frame
    refine tkN 17 22 rfl rfl hS4 ?_
    go_frame
    refine tkP 18 (.bool false) 23 rfl rfl hS4 ?_
    go_frame
    refine tkP 19 (.bool false) 4 rfl rfl hS4 ?_
    go_frame
    clear hS4
    refine wpAnyH_done (by kernel_rfl) ?_ _
    go_wp2_with fail
    go_ret
    refine ⟨false, rfl, ?_, hb4⟩
    have zHub := Hub.out
    refine ⟨fun h => (by cases h), fun h => ?_⟩
    exfalso
    obtain ⟨q1, q2, q3, q4⟩ := h
    first
      | exact zHub q1
      | exact zHuo q2
      | exact zHLE q3
      | (rcases q4 with ⟨e1, e2⟩ | ⟨e1, e2⟩ | ⟨e1, e2, e3⟩
         all_goals first
           | omega
           | exact zHuh e2
           | exact zHuh ⟨e2, e3⟩)
  | true =>
    have Hub : Hid (BanP 2 a b t) := htub.1 rfl
    clear htub
    refine tkL 3 (.agg #[.string p, .slice o1 n1 c1, .slice o2 n2 c2, .int .i64 st, .slice o3 n3 c3, .string d, .int .i64 u]) 8 rfl rfl (Or.inl ⟨by rfl, by intro W hW; obtain ⟨hhv1, hhv2⟩ := hW; have y0 := (cell_of hhv2 0).trans rfl; have y1 := (cell_of hhv2 1).trans rfl; have y2 := (cell_of hhv2 2).trans rfl; have y3 := (cell_of hhv2 3).trans rfl; have y4 := (cell_of hhv2 4).trans rfl; have y5 := (cell_of hhv2 5).trans rfl; have y6 := (cell_of hhv2 6).trans rfl; go_simp⟩) hS4 ?_
    go_frame
    refine rd1 4 rfl (fun K hK => ?_)
    go_simp
    refine (implObjOk_any p _ n1 _ xs _ n2 _ ys st _ n3 base fs d u _ (HV1.out _ hb4) (HV2.out _ hb4) (HV3.out _ hb4) (by omega) (by omega) (by omega) HS1.out HS2.out HS3.out HC.out HPM.out HX.out HG.out).mono ?_
    rintro e w5 ⟨uo, rfl, htuo, bw⟩
    have hb5 := hbt hb4 bw
    have HBv1_5 := hblk HBv1_4 bw
    have HBv2_5 := hblk HBv2_4 bw
    clear hb4 HBv1_4 HBv2_4 bw
    have hS5 := And.intro HBv1_5.out HBv2_5.out
    refine hK.out _ _ hS5 (fun _ => ?_)
    clear hK K hS4
    refine tkP 5 (.bool uo) 10 rfl rfl hS5 ?_
    go_frame
    refine tkP 6 (.bool uo) 11 rfl rfl hS5 ?_
    go_frame
    cases uo with
    | false =>
      have Huo : Hid (¬ (ObjP p xs ys st fs d u)) := fun h => nomatch htuo.2 h
      clear htuo
      refine tkN 7 12 rfl rfl hS5 ?_
      go_frame
      refine tkN 8 13 rfl rfl hS5 ?_
      go_frame
      refine tkN 9 14 rfl rfl hS5 ?_
      go_frame
      refine tkN 10 15 rfl rfl hS5 ?_
      go_frame
      refine tkN 11 16 rfl rfl hS5 ?_
      go_frame
      refine tkP 12 (.bool false) 17 rfl rfl hS5 ?_
      go_frame
      refine tkP 13 (.bool false) 18 rfl rfl hS5 ?_
      go_frame
      refine tkN 14 19 rfl rfl hS5 ?_
      go_frame
      refine tkN 15 20 rfl rfl hS5 ?_
      go_frame
      refine tkN 16 21 rfl rfl hS5 ?_
      go_frame
      refine tkN 17 22 rfl rfl hS5 ?_
      go_frame
      refine tkP 18 (.bool false) 23 rfl rfl hS5 ?_
      go_frame
      refine tkP 19 (.bool false) 4 rfl rfl hS5 ?_
      go_frame
      clear hS5
      refine wpAnyH_done (by kernel_rfl) ?_ _
      go_wp2_with fail
      go_ret
      refine ⟨false, rfl, ?_, hb5⟩
      have zHub := Hub.out
      have zHuo := Huo.out
      refine ⟨fun h => (by cases h), fun h => ?_⟩
      exfalso
      obtain ⟨q1, q2, q3, q4⟩ := h
      first
        | exact zHub q1
        | exact zHuo q2
        | exact zHLE q3
        | (rcases q4 with ⟨e1, e2⟩ | ⟨e1, e2⟩ | ⟨e1, e2, e3⟩
           all_goals first
             | omega
             | exact zHuh e2
             | exact zHuh ⟨e2, e3⟩)
    | true =>
      have Huo : Hid (ObjP p xs ys st fs d u) := htuo.1 rfl
      clear htuo
      refine tkP 7 (.pointer (some ⟨qv2, 6, none⟩)) 12 rfl rfl hS5 ?_
      go_frame
      refine tkL 8 (.int .i64 u) 13 rfl rfl (Or.inl ⟨by rfl, by intro W hW; obtain ⟨hhv1, hhv2⟩ := hW; have y6 := (cell_of hhv2 6).trans rfl; go_simp⟩) hS5 ?_
      go_frame
      refine tkP 9 (.pointer (some ⟨qv1, 3, none⟩)) 14 rfl rfl hS5 ?_
      go_frame
      refine tkL 10 (.int .i64 t) 15 rfl rfl (Or.inl ⟨by rfl, by intro W hW; obtain ⟨hhv1, hhv2⟩ := hW; have y3 := (cell_of hhv1 3).trans rfl; go_simp⟩) hS5 ?_
      go_frame
      by_cases hc1 : u ≤ t
      · have HLE : Hid (u ≤ t) := hc1
        refine tkP 11 (.bool true) 16 rfl rfl hS5 ?_
        go_frame
        refine tkP 12 (.bool true) 17 rfl rfl hS5 ?_
        go_frame
        refine tkP 13 (.bool true) 18 rfl rfl hS5 ?_
        go_frame
        refine tkL 14 (.agg #[.int .i64 2, .string a, .string b, .int .i64 t]) 19 rfl rfl (Or.inl ⟨by rfl, by intro W hW; obtain ⟨hhv1, hhv2⟩ := hW; have y0 := (cell_of hhv1 0).trans rfl; have y1 := (cell_of hhv1 1).trans rfl; have y2 := (cell_of hhv1 2).trans rfl; have y3 := (cell_of hhv1 3).trans rfl; go_simp⟩) hS5 ?_
        go_frame
        refine tkL 16 (.agg #[.string p, .slice o1 n1 c1, .slice o2 n2 c2, .int .i64 st, .slice o3 n3 c3, .string d, .int .i64 u]) 21 rfl rfl (Or.inl ⟨by rfl, by intro W hW; obtain ⟨hhv1, hhv2⟩ := hW; have y0 := (cell_of hhv2 0).trans rfl; have y1 := (cell_of hhv2 1).trans rfl; have y2 := (cell_of hhv2 2).trans rfl; have y3 := (cell_of hhv2 3).trans rfl; have y4 := (cell_of hhv2 4).trans rfl; have y5 := (cell_of hhv2 5).trans rfl; have y6 := (cell_of hhv2 6).trans rfl; go_simp⟩) hS5 ?_
        go_frame
        refine rd1 15 rfl (fun K hK => ?_)
        go_simp
        refine (ruleOf_2 a b t _).mono ?_
        rintro e w6 ⟨rfl, bw⟩
        have hb6 := hbt hb5 bw
        have HBv1_6 := hblk HBv1_5 bw
        have HBv2_6 := hblk HBv2_5 bw
        clear hb5 HBv1_5 HBv2_5 bw
        have hS6 := And.intro HBv1_6.out HBv2_6.out
        refine hK.out _ _ hS6 (fun _ => ?_)
        clear hK K hS5
        refine rd1 17 rfl (fun K hK => ?_)
        go_simp
        refine (bans_2 a p _ _ st _ d u _ HPM.out).mono ?_
        rintro e w7 ⟨uh, rfl, htuh, bw⟩
        have hb7 := hbt hb6 bw
        have HBv1_7 := hblk HBv1_6 bw
        have HBv2_7 := hblk HBv2_6 bw
        clear hb6 HBv1_6 HBv2_6 bw
        have hS7 := And.intro HBv1_7.out HBv2_7.out
        refine hK.out _ _ hS7 (fun _ => ?_)
        clear hK K hS6
        refine tkP 18 (.bool uh) 23 rfl rfl hS7 ?_
        go_frame
        refine tkP 19 (.bool uh) 4 rfl rfl hS7 ?_
        go_frame
        clear hS7
        refine wpAnyH_done (by kernel_rfl) ?_ _
        cases uh with
        | false =>
          have Huh : Hid (¬ (Begins a p)) := fun h => nomatch htuh.2 h
          clear htuh
          go_wp2_with fail
          go_ret
          refine ⟨false, rfl, ?_, hb7⟩
          have zHub := Hub.out
          have zHuo := Huo.out
          have zHLE := HLE.out
          have zHuh := Huh.out
          refine ⟨fun h => (by cases h), fun h => ?_⟩
          exfalso
          obtain ⟨q1, q2, q3, q4⟩ := h
          first
            | exact zHub q1
            | exact zHuo q2
            | exact zHLE q3
            | (rcases q4 with ⟨e1, e2⟩ | ⟨e1, e2⟩ | ⟨e1, e2, e3⟩
               all_goals first
                 | omega
                 | exact zHuh e2
                 | exact zHuh ⟨e2, e3⟩)
        | true =>
          have Huh : Hid (Begins a p) := htuh.1 rfl
          clear htuh
          go_wp2_with fail
          go_ret
          refine ⟨true, rfl, ?_, hb7⟩
          have zHub := Hub.out
          have zHuo := Huo.out
          have zHLE := HLE.out
          have zHuh := Huh.out
          exact ⟨fun _ => ⟨zHub, zHuo, zHLE, .inr (.inl ⟨rfl, zHuh⟩)⟩, fun _ => rfl⟩
      · have HLE : Hid (¬ u ≤ t) := hc1
        refine tkP 11 (.bool false) 16 rfl rfl hS5 ?_
        go_frame
        refine tkP 12 (.bool false) 17 rfl rfl hS5 ?_
        go_frame
        refine tkP 13 (.bool false) 18 rfl rfl hS5 ?_
        go_frame
        refine tkN 14 19 rfl rfl hS5 ?_
        go_frame
        refine tkN 15 20 rfl rfl hS5 ?_
        go_frame
        refine tkN 16 21 rfl rfl hS5 ?_
        go_frame
        refine tkN 17 22 rfl rfl hS5 ?_
        go_frame
        refine tkP 18 (.bool false) 23 rfl rfl hS5 ?_
        go_frame
        refine tkP 19 (.bool false) 4 rfl rfl hS5 ?_
        go_frame
        clear hS5
        refine wpAnyH_done (by kernel_rfl) ?_ _
        go_wp2_with fail
        go_ret
        refine ⟨false, rfl, ?_, hb5⟩
        have zHub := Hub.out
        have zHuo := Huo.out
        have zHLE := HLE.out
        refine ⟨fun h => (by cases h), fun h => ?_⟩
        exfalso
        obtain ⟨q1, q2, q3, q4⟩ := h
        first
          | exact zHub q1
          | exact zHuo q2
          | exact zHLE q3
          | (rcases q4 with ⟨e1, e2⟩ | ⟨e1, e2⟩ | ⟨e1, e2, e3⟩
             all_goals first
               | omega
               | exact zHuh e2
               | exact zHuh ⟨e2, e3⟩)
theorem implHits_3 (a b : ByteArray) (t : Int) (p : ByteArray) (o1 : Option Addr) (n1 c1 : Nat) (xs : List ByteArray) (o2 : Option Addr) (n2 c2 : Nat) (ys : List ByteArray) (st : Int) (v3 : Value) (n3 base : Nat) (fs : List (ByteArray × ByteArray)) (d : ByteArray) (u : Int) (w : World) (ha : a.size ≤ maxLen) (hb : b.size ≤ maxLen) (h1 : TextsA w o1 n1 xs) (h2 : TextsA w o2 n2 ys) (h3 : FieldsV w base v3 n3 fs) (hn1 : n1 ≤ 2000000) (hn2 : n2 ≤ 2000000) (hn3 : n3 ≤ 2000000) (hs1 : ∀ i, i < n1 → (textAt xs i).size ≤ maxLen) (hs2 : ∀ i, i < n2 → (textAt ys i).size ≤ maxLen) (hs3 : WalkF n3 fs) (hc : CopyF fs) (hp : p.size ≤ maxLen) (hx : d.size ≤ maxLen) (hg : (getV fs varyName).size ≤ 1048576) :
    Calls Tryz.prog 148 #[.agg #[.int .i64 3, .string a, .string b, .int .i64 t], .agg #[.string p, .slice o1 n1 c1, .slice o2 n2 c2, .int .i64 st, v3, .string d, .int .i64 u]] w fun e w' => BoolIs (HitP 3 a b t p xs ys st fs d u) w e w' := by
  obtain ⟨o3, c3, rfl, _⟩ := h3.slice
  have HV1 : Hid (∀ W, Below w.heap.size w W → TextsA W o1 n1 xs) := fun W h => h1.below h
  have HV2 : Hid (∀ W, Below w.heap.size w W → TextsA W o2 n2 ys) := fun W h => h2.below h
  have HV3 : Hid (∀ W, Below w.heap.size w W → FieldsV W base (.slice o3 n3 c3) n3 fs) := fun W h => h3.below h
  have HS1 : Hid (∀ i, i < n1 → (textAt xs i).size ≤ maxLen) := hs1
  have HS2 : Hid (∀ i, i < n2 → (textAt ys i).size ≤ maxLen) := hs2
  have HS3 : Hid (WalkF n3 fs) := hs3
  have HC : Hid (CopyF fs) := hc
  have HPM : Hid (p.size ≤ maxLen) := hp
  have HX : Hid (d.size ≤ maxLen) := hx
  have HG : Hid ((getV fs varyName).size ≤ 1048576) := hg
  have HAM : Hid (a.size ≤ maxLen) := ha
  have HBM : Hid (b.size ≤ maxLen) := hb
  clear h1 h2 h3 hs1 hs2 hs3 hc hp hx hg ha hb
  have hna : ∀ W : World, (nilAhead 157 260 (.agg #[.string a, .string b]) "loop.example/g00239/impl.bans").run Tryz.prog W = .ok (some false) W := fun _ => by kernel_rfl
  have hmt : ∀ W : World, (method 157 260 (.agg #[.string a, .string b]) "loop.example/g00239/impl.bans").run Tryz.prog W = .ok (251, .agg #[.string a, .string b]) W := fun _ => by kernel_rfl
  have hb0 : Below w.heap.size w w := Below.refl _ _
  go_enter Tryz.func148, Tryz.ntmps148
  go_upto_region 1 with fail
  obtain ⟨qv1, hqv1⟩ := exq ((w).heap.size)
  obtain ⟨w1, hW1⟩ := exq ((w).alloc (.cells #[.int .i64 3, .string a, .string b, .int .i64 t] 152))
  have hz1 : (w).heap.size = qv1 := hqv1.symm
  first | rw [← hW1, ← hqv1] | rw [← hW1]
  have hs1 := hsa hW1 hz1
  have bw := bal hW1
  have hb1 := hbt hb0 bw
  have HBv1_1 := hnew hW1 hz1
  clear hb0 bw hW1 hz1
  obtain ⟨qv2, hqv2⟩ := exq (qv1 + 1)
  obtain ⟨w2, hW2⟩ := exq ((w1).alloc (.cells #[.string p, .slice o1 n1 c1, .slice o2 n2 c2, .int .i64 st, .slice o3 n3 c3, .string d, .int .i64 u] 66))
  have hz2 : (w1).heap.size = qv2 := by rw [hqv2]; exact hs1
  first | rw [← hW2, ← hqv2] | rw [← hW2]
  have hs2 := hsa hW2 hz2
  have bw := bal hW2
  have hb2 := hbt hb1 bw
  have HBv1_2 := hblk HBv1_1 bw
  have HBv2_2 := hnew hW2 hz2
  clear hb1 HBv1_1 bw hW2 hz2
  clear hs2 hqv2 hs1 hqv1
  go_upto_region 1 with fail
  refine wp_region_held_drew (S := fun W => W.heap[qv1]? = some (.cells #[.int .i64 3, .string a, .string b, .int .i64 t] 152) ∧ W.heap[qv2]? = some (.cells #[.string p, .slice o1 n1 c1, .slice o2 n2 c2, .int .i64 st, .slice o3 n3 c3, .string d, .int .i64 u] 66)) (by kernel_rfl) ⟨HBv1_2.out, HBv2_2.out⟩ (fun _ => ?_)
  obtain ⟨w3, hX⟩ := exq w2.drew
  have bw := bdr hX
  rw [← hX]
  have hb3 := hbt hb2 bw
  have HBv1_3 := hblk HBv1_2 bw
  have HBv2_3 := hblk HBv2_2 bw
  have hS3 := And.intro HBv1_3.out HBv2_3.out
  clear hb2 HBv1_2 HBv2_2 bw hX
  refine tkL 0 (.agg #[.int .i64 3, .string a, .string b, .int .i64 t]) 5 rfl rfl (Or.inl ⟨by rfl, by intro W hW; obtain ⟨hhv1, hhv2⟩ := hW; have y0 := (cell_of hhv1 0).trans rfl; have y1 := (cell_of hhv1 1).trans rfl; have y2 := (cell_of hhv1 2).trans rfl; have y3 := (cell_of hhv1 3).trans rfl; go_simp⟩) hS3 ?_
  go_frame
  refine rd1 1 rfl (fun K hK => ?_)
  go_simp
  refine (implBanOk_any 3 a b t _ HAM.out HBM.out).mono ?_
  rintro e w4 ⟨ub, rfl, htub, bw⟩
  have hb4 := hbt hb3 bw
  have HBv1_4 := hblk HBv1_3 bw
  have HBv2_4 := hblk HBv2_3 bw
  clear hb3 HBv1_3 HBv2_3 bw
  have hS4 := And.intro HBv1_4.out HBv2_4.out
  refine hK.out _ _ hS4 (fun _ => ?_)
  clear hK K hS3
  refine tkP 2 (.bool ub) 7 rfl rfl hS4 ?_
  go_frame
  cases ub with
  | false =>
    have Hub : Hid (¬ (BanP 3 a b t)) := fun h => nomatch htub.2 h
    clear htub
    refine tkN 3 8 rfl rfl hS4 ?_
    go_frame
    refine tkN 4 9 rfl rfl hS4 ?_
    go_frame
    refine tkP 5 (.bool false) 10 rfl rfl hS4 ?_
    go_frame
    refine tkP 6 (.bool false) 11 rfl rfl hS4 ?_
    go_frame
    refine tkN 7 12 rfl rfl hS4 ?_
    go_frame
    refine tkN 8 13 rfl rfl hS4 ?_
    go_frame
    refine tkN 9 14 rfl rfl hS4 ?_
    go_frame
    refine tkN 10 15 rfl rfl hS4 ?_
    go_frame
    refine tkN 11 16 rfl rfl hS4 ?_
    go_frame
    refine tkP 12 (.bool false) 17 rfl rfl hS4 ?_
    go_frame
    refine tkP 13 (.bool false) 18 rfl rfl hS4 ?_
    go_frame
    refine tkN 14 19 rfl rfl hS4 ?_
    go_frame
    refine tkN 15 20 rfl rfl hS4 ?_
    go_frame
    refine tkN 16 21 rfl rfl hS4 ?_
    go_frame
    refine tkN 17 22 rfl rfl hS4 ?_
    go_frame
    refine tkP 18 (.bool false) 23 rfl rfl hS4 ?_
    go_frame
    refine tkP 19 (.bool false) 4 rfl rfl hS4 ?_
    go_frame
    clear hS4
    refine wpAnyH_done (by kernel_rfl) ?_ _
    go_wp2_with fail
    go_ret
    refine ⟨false, rfl, ?_, hb4⟩
    have zHub := Hub.out
    refine ⟨fun h => (by cases h), fun h => ?_⟩
    exfalso
    obtain ⟨q1, q2, q3, q4⟩ := h
    first
      | exact zHub q1
      | exact zHuo q2
      | exact zHLE q3
      | (rcases q4 with ⟨e1, e2⟩ | ⟨e1, e2⟩ | ⟨e1, e2, e3⟩
         all_goals first
           | omega
           | exact zHuh e2
           | exact zHuh ⟨e2, e3⟩)
  | true =>
    have Hub : Hid (BanP 3 a b t) := htub.1 rfl
    clear htub
    refine tkL 3 (.agg #[.string p, .slice o1 n1 c1, .slice o2 n2 c2, .int .i64 st, .slice o3 n3 c3, .string d, .int .i64 u]) 8 rfl rfl (Or.inl ⟨by rfl, by intro W hW; obtain ⟨hhv1, hhv2⟩ := hW; have y0 := (cell_of hhv2 0).trans rfl; have y1 := (cell_of hhv2 1).trans rfl; have y2 := (cell_of hhv2 2).trans rfl; have y3 := (cell_of hhv2 3).trans rfl; have y4 := (cell_of hhv2 4).trans rfl; have y5 := (cell_of hhv2 5).trans rfl; have y6 := (cell_of hhv2 6).trans rfl; go_simp⟩) hS4 ?_
    go_frame
    refine rd1 4 rfl (fun K hK => ?_)
    go_simp
    refine (implObjOk_any p _ n1 _ xs _ n2 _ ys st _ n3 base fs d u _ (HV1.out _ hb4) (HV2.out _ hb4) (HV3.out _ hb4) (by omega) (by omega) (by omega) HS1.out HS2.out HS3.out HC.out HPM.out HX.out HG.out).mono ?_
    rintro e w5 ⟨uo, rfl, htuo, bw⟩
    have hb5 := hbt hb4 bw
    have HBv1_5 := hblk HBv1_4 bw
    have HBv2_5 := hblk HBv2_4 bw
    clear hb4 HBv1_4 HBv2_4 bw
    have hS5 := And.intro HBv1_5.out HBv2_5.out
    refine hK.out _ _ hS5 (fun _ => ?_)
    clear hK K hS4
    refine tkP 5 (.bool uo) 10 rfl rfl hS5 ?_
    go_frame
    refine tkP 6 (.bool uo) 11 rfl rfl hS5 ?_
    go_frame
    cases uo with
    | false =>
      have Huo : Hid (¬ (ObjP p xs ys st fs d u)) := fun h => nomatch htuo.2 h
      clear htuo
      refine tkN 7 12 rfl rfl hS5 ?_
      go_frame
      refine tkN 8 13 rfl rfl hS5 ?_
      go_frame
      refine tkN 9 14 rfl rfl hS5 ?_
      go_frame
      refine tkN 10 15 rfl rfl hS5 ?_
      go_frame
      refine tkN 11 16 rfl rfl hS5 ?_
      go_frame
      refine tkP 12 (.bool false) 17 rfl rfl hS5 ?_
      go_frame
      refine tkP 13 (.bool false) 18 rfl rfl hS5 ?_
      go_frame
      refine tkN 14 19 rfl rfl hS5 ?_
      go_frame
      refine tkN 15 20 rfl rfl hS5 ?_
      go_frame
      refine tkN 16 21 rfl rfl hS5 ?_
      go_frame
      refine tkN 17 22 rfl rfl hS5 ?_
      go_frame
      refine tkP 18 (.bool false) 23 rfl rfl hS5 ?_
      go_frame
      refine tkP 19 (.bool false) 4 rfl rfl hS5 ?_
      go_frame
      clear hS5
      refine wpAnyH_done (by kernel_rfl) ?_ _
      go_wp2_with fail
      go_ret
      refine ⟨false, rfl, ?_, hb5⟩
      have zHub := Hub.out
      have zHuo := Huo.out
      refine ⟨fun h => (by cases h), fun h => ?_⟩
      exfalso
      obtain ⟨q1, q2, q3, q4⟩ := h
      first
        | exact zHub q1
        | exact zHuo q2
        | exact zHLE q3
        | (rcases q4 with ⟨e1, e2⟩ | ⟨e1, e2⟩ | ⟨e1, e2, e3⟩
           all_goals first
             | omega
             | exact zHuh e2
             | exact zHuh ⟨e2, e3⟩)
    | true =>
      have Huo : Hid (ObjP p xs ys st fs d u) := htuo.1 rfl
      clear htuo
      refine tkP 7 (.pointer (some ⟨qv2, 6, none⟩)) 12 rfl rfl hS5 ?_
      go_frame
      refine tkL 8 (.int .i64 u) 13 rfl rfl (Or.inl ⟨by rfl, by intro W hW; obtain ⟨hhv1, hhv2⟩ := hW; have y6 := (cell_of hhv2 6).trans rfl; go_simp⟩) hS5 ?_
      go_frame
      refine tkP 9 (.pointer (some ⟨qv1, 3, none⟩)) 14 rfl rfl hS5 ?_
      go_frame
      refine tkL 10 (.int .i64 t) 15 rfl rfl (Or.inl ⟨by rfl, by intro W hW; obtain ⟨hhv1, hhv2⟩ := hW; have y3 := (cell_of hhv1 3).trans rfl; go_simp⟩) hS5 ?_
      go_frame
      by_cases hc1 : u ≤ t
      · have HLE : Hid (u ≤ t) := hc1
        refine tkP 11 (.bool true) 16 rfl rfl hS5 ?_
        go_frame
        refine tkP 12 (.bool true) 17 rfl rfl hS5 ?_
        go_frame
        refine tkP 13 (.bool true) 18 rfl rfl hS5 ?_
        go_frame
        refine tkL 14 (.agg #[.int .i64 3, .string a, .string b, .int .i64 t]) 19 rfl rfl (Or.inl ⟨by rfl, by intro W hW; obtain ⟨hhv1, hhv2⟩ := hW; have y0 := (cell_of hhv1 0).trans rfl; have y1 := (cell_of hhv1 1).trans rfl; have y2 := (cell_of hhv1 2).trans rfl; have y3 := (cell_of hhv1 3).trans rfl; go_simp⟩) hS5 ?_
        go_frame
        refine tkL 16 (.agg #[.string p, .slice o1 n1 c1, .slice o2 n2 c2, .int .i64 st, .slice o3 n3 c3, .string d, .int .i64 u]) 21 rfl rfl (Or.inl ⟨by rfl, by intro W hW; obtain ⟨hhv1, hhv2⟩ := hW; have y0 := (cell_of hhv2 0).trans rfl; have y1 := (cell_of hhv2 1).trans rfl; have y2 := (cell_of hhv2 2).trans rfl; have y3 := (cell_of hhv2 3).trans rfl; have y4 := (cell_of hhv2 4).trans rfl; have y5 := (cell_of hhv2 5).trans rfl; have y6 := (cell_of hhv2 6).trans rfl; go_simp⟩) hS5 ?_
        go_frame
        refine rd1 15 rfl (fun K hK => ?_)
        go_simp
        refine (ruleOf_3 a b t _).mono ?_
        rintro e w6 ⟨rfl, bw⟩
        have hb6 := hbt hb5 bw
        have HBv1_6 := hblk HBv1_5 bw
        have HBv2_6 := hblk HBv2_5 bw
        clear hb5 HBv1_5 HBv2_5 bw
        have hS6 := And.intro HBv1_6.out HBv2_6.out
        refine hK.out _ _ hS6 (fun _ => ?_)
        clear hK K hS5
        refine rd1 17 rfl (fun K hK => ?_)
        go_simp
        refine (bans_3 a b p _ _ st _ d u _ n3 base fs (HV3.out _ hb6) (by omega) HC.out).mono ?_
        rintro e w7 ⟨uh, rfl, htuh, bw⟩
        have hb7 := hbt hb6 bw
        have HBv1_7 := hblk HBv1_6 bw
        have HBv2_7 := hblk HBv2_6 bw
        clear hb6 HBv1_6 HBv2_6 bw
        have hS7 := And.intro HBv1_7.out HBv2_7.out
        refine hK.out _ _ hS7 (fun _ => ?_)
        clear hK K hS6
        refine tkP 18 (.bool uh) 23 rfl rfl hS7 ?_
        go_frame
        refine tkP 19 (.bool uh) 4 rfl rfl hS7 ?_
        go_frame
        clear hS7
        refine wpAnyH_done (by kernel_rfl) ?_ _
        cases uh with
        | false =>
          have Huh : Hid (¬ (getB fs a = true ∧ getV fs a = b)) := fun h => nomatch htuh.2 h
          clear htuh
          go_wp2_with fail
          go_ret
          refine ⟨false, rfl, ?_, hb7⟩
          have zHub := Hub.out
          have zHuo := Huo.out
          have zHLE := HLE.out
          have zHuh := Huh.out
          refine ⟨fun h => (by cases h), fun h => ?_⟩
          exfalso
          obtain ⟨q1, q2, q3, q4⟩ := h
          first
            | exact zHub q1
            | exact zHuo q2
            | exact zHLE q3
            | (rcases q4 with ⟨e1, e2⟩ | ⟨e1, e2⟩ | ⟨e1, e2, e3⟩
               all_goals first
                 | omega
                 | exact zHuh e2
                 | exact zHuh ⟨e2, e3⟩)
        | true =>
          have Huh : Hid (getB fs a = true ∧ getV fs a = b) := htuh.1 rfl
          clear htuh
          go_wp2_with fail
          go_ret
          refine ⟨true, rfl, ?_, hb7⟩
          have zHub := Hub.out
          have zHuo := Huo.out
          have zHLE := HLE.out
          have zHuh := Huh.out
          exact ⟨fun _ => ⟨zHub, zHuo, zHLE, .inr (.inr ⟨rfl, zHuh.1, zHuh.2⟩)⟩, fun _ => rfl⟩
      · have HLE : Hid (¬ u ≤ t) := hc1
        refine tkP 11 (.bool false) 16 rfl rfl hS5 ?_
        go_frame
        refine tkP 12 (.bool false) 17 rfl rfl hS5 ?_
        go_frame
        refine tkP 13 (.bool false) 18 rfl rfl hS5 ?_
        go_frame
        refine tkN 14 19 rfl rfl hS5 ?_
        go_frame
        refine tkN 15 20 rfl rfl hS5 ?_
        go_frame
        refine tkN 16 21 rfl rfl hS5 ?_
        go_frame
        refine tkN 17 22 rfl rfl hS5 ?_
        go_frame
        refine tkP 18 (.bool false) 23 rfl rfl hS5 ?_
        go_frame
        refine tkP 19 (.bool false) 4 rfl rfl hS5 ?_
        go_frame
        clear hS5
        refine wpAnyH_done (by kernel_rfl) ?_ _
        go_wp2_with fail
        go_ret
        refine ⟨false, rfl, ?_, hb5⟩
        have zHub := Hub.out
        have zHuo := Huo.out
        have zHLE := HLE.out
        refine ⟨fun h => (by cases h), fun h => ?_⟩
        exfalso
        obtain ⟨q1, q2, q3, q4⟩ := h
        first
          | exact zHub q1
          | exact zHuo q2
          | exact zHLE q3
          | (rcases q4 with ⟨e1, e2⟩ | ⟨e1, e2⟩ | ⟨e1, e2, e3⟩
             all_goals first
               | omega
               | exact zHuh e2
               | exact zHuh ⟨e2, e3⟩)
theorem implHits_no (k : Int) (hk1 : ¬ k = 1) (hk2 : ¬ k = 2) (hk3 : ¬ k = 3) (a b : ByteArray) (t : Int) (p : ByteArray) (o1 : Option Addr) (n1 c1 : Nat) (xs : List ByteArray) (o2 : Option Addr) (n2 c2 : Nat) (ys : List ByteArray) (st : Int) (v3 : Value) (n3 base : Nat) (fs : List (ByteArray × ByteArray)) (d : ByteArray) (u : Int) (w : World) (ha : a.size ≤ maxLen) (hb : b.size ≤ maxLen) (h1 : TextsA w o1 n1 xs) (h2 : TextsA w o2 n2 ys) (h3 : FieldsV w base v3 n3 fs) (_hn1 : n1 ≤ 2000000) (_hn2 : n2 ≤ 2000000) (_hn3 : n3 ≤ 2000000) (hs1 : ∀ i, i < n1 → (textAt xs i).size ≤ maxLen) (hs2 : ∀ i, i < n2 → (textAt ys i).size ≤ maxLen) (hs3 : WalkF n3 fs) (hc : CopyF fs) (hp : p.size ≤ maxLen) (hx : d.size ≤ maxLen) (hg : (getV fs varyName).size ≤ 1048576) :
  Calls Tryz.prog 148 #[.agg #[.int .i64 k, .string a, .string b, .int .i64 t], .agg #[.string p, .slice o1 n1 c1, .slice o2 n2 c2, .int .i64 st, v3, .string d, .int .i64 u]] w fun e w' => BoolIs (HitP k a b t p xs ys st fs d u) w e w' := by
 obtain ⟨o3, c3, rfl, _⟩ := h3.slice
 have HV1 : Hid (∀ W, Below w.heap.size w W → TextsA W o1 n1 xs) := fun W h => h1.below h
 have HV2 : Hid (∀ W, Below w.heap.size w W → TextsA W o2 n2 ys) := fun W h => h2.below h
 have HV3 : Hid (∀ W, Below w.heap.size w W → FieldsV W base (.slice o3 n3 c3) n3 fs) := fun W h => h3.below h
 have HS1 : Hid (∀ i, i < n1 → (textAt xs i).size ≤ maxLen) := hs1
 have HS2 : Hid (∀ i, i < n2 → (textAt ys i).size ≤ maxLen) := hs2
 have HS3 : Hid (WalkF n3 fs) := hs3
 have HC : Hid (CopyF fs) := hc
 have HPM : Hid (p.size ≤ maxLen) := hp
 have HX : Hid (d.size ≤ maxLen) := hx
 have HG : Hid ((getV fs varyName).size ≤ 1048576) := hg
 have HAM : Hid (a.size ≤ maxLen) := ha
 have HBM : Hid (b.size ≤ maxLen) := hb
 clear h1 h2 h3 hs1 hs2 hs3 hc hp hx hg ha hb
 have HK1 : Hid (¬ k = 1) := hk1
 have HK2 : Hid (¬ k = 2) := hk2
 have HK3 : Hid (¬ k = 3) := hk3
 clear hk1 hk2 hk3
 have hb0 : Below w.heap.size w w := Below.refl _ _
 go_enter Tryz.func148, Tryz.ntmps148
 go_upto_region 1 with fail
 obtain ⟨qv1, hqv1⟩ := exq ((w).heap.size)
 obtain ⟨w1, hW1⟩ := exq ((w).alloc (.cells #[.int .i64 k, .string a, .string b, .int .i64 t] 152))
 have hz1 : (w).heap.size = qv1 := hqv1.symm
 first | rw [← hW1, ← hqv1] | rw [← hW1]
 have hs1 := hsa hW1 hz1
 have bw := bal hW1
 have hb1 := hbt hb0 bw
 have HBv1_1 := hnew hW1 hz1
 clear hb0 bw hW1 hz1
 obtain ⟨qv2, hqv2⟩ := exq (qv1 + 1)
 obtain ⟨w2, hW2⟩ := exq ((w1).alloc (.cells #[.string p, .slice o1 n1 c1, .slice o2 n2 c2, .int .i64 st, .slice o3 n3 c3, .string d, .int .i64 u] 66))
 have hz2 : (w1).heap.size = qv2 := by rw [hqv2]; exact hs1
 first | rw [← hW2, ← hqv2] | rw [← hW2]
 have hs2 := hsa hW2 hz2
 have bw := bal hW2
 have hb2 := hbt hb1 bw
 have HBv1_2 := hblk HBv1_1 bw
 have HBv2_2 := hnew hW2 hz2
 clear hb1 HBv1_1 bw hW2 hz2
 clear hs2 hqv2 hs1 hqv1
 go_upto_region 1 with fail
 refine wp_region_held_drew (S := fun W => W.heap[qv1]? = some (.cells #[.int .i64 k, .string a, .string b, .int .i64 t] 152) ∧ W.heap[qv2]? = some (.cells #[.string p, .slice o1 n1 c1, .slice o2 n2 c2, .int .i64 st, .slice o3 n3 c3, .string d, .int .i64 u] 66)) (by kernel_rfl) ⟨HBv1_2.out, HBv2_2.out⟩ (fun _ => ?_)
 obtain ⟨w3, hX⟩ := exq w2.drew
 have bw := bdr hX
 rw [← hX]
 have hb3 := hbt hb2 bw
 have HBv1_3 := hblk HBv1_2 bw
 have HBv2_3 := hblk HBv2_2 bw
 have hS3 := And.intro HBv1_3.out HBv2_3.out
 clear hb2 HBv1_2 HBv2_2 bw hX
 refine tkL 0 (.agg #[.int .i64 k, .string a, .string b, .int .i64 t]) 5 rfl rfl (Or.inl ⟨by rfl, by intro W hW; obtain ⟨hhv1, hhv2⟩ := hW; have y0 := (cell_of hhv1 0).trans rfl; have y1 := (cell_of hhv1 1).trans rfl; have y2 := (cell_of hhv1 2).trans rfl; have y3 := (cell_of hhv1 3).trans rfl; go_simp⟩) hS3 ?_
 go_frame
 refine rd1 1 rfl (fun K hK => ?_)
 go_simp
 refine (implBanOk_any k a b t _ HAM.out HBM.out).mono ?_
 rintro e w4 ⟨ub, rfl, htub, bw⟩
 have HNB : Hid (¬ BanP k a b t) := fun h => h.kinds.elim HK1.out (fun h => h.elim HK2.out HK3.out)
 obtain rfl : ub = false := by
  cases ub with
  | false => rfl
  | true => exact absurd (htub.1 rfl) HNB.out
 clear htub
 have hb4 := hbt hb3 bw
 have HBv1_4 := hblk HBv1_3 bw
 have HBv2_4 := hblk HBv2_3 bw
 clear hb3 HBv1_3 HBv2_3 bw
 have hS4 := And.intro HBv1_4.out HBv2_4.out
 refine hK.out _ _ hS4 (fun _ => ?_)
 clear hK K hS3
 refine tkP 2 (.bool false) 7 rfl rfl hS4 ?_
 go_frame
 refine tkN 3 8 rfl rfl hS4 ?_
 go_frame
 refine tkN 4 9 rfl rfl hS4 ?_
 go_frame
 refine tkP 5 (.bool false) 10 rfl rfl hS4 ?_
 go_frame
 refine tkP 6 (.bool false) 11 rfl rfl hS4 ?_
 go_frame
 refine tkN 7 12 rfl rfl hS4 ?_
 go_frame
 refine tkN 8 13 rfl rfl hS4 ?_
 go_frame
 refine tkN 9 14 rfl rfl hS4 ?_
 go_frame
 refine tkN 10 15 rfl rfl hS4 ?_
 go_frame
 refine tkN 11 16 rfl rfl hS4 ?_
 go_frame
 refine tkP 12 (.bool false) 17 rfl rfl hS4 ?_
 go_frame
 refine tkP 13 (.bool false) 18 rfl rfl hS4 ?_
 go_frame
 refine tkN 14 19 rfl rfl hS4 ?_
 go_frame
 refine tkN 15 20 rfl rfl hS4 ?_
 go_frame
 refine tkN 16 21 rfl rfl hS4 ?_
 go_frame
 refine tkN 17 22 rfl rfl hS4 ?_
 go_frame
 refine tkP 18 (.bool false) 23 rfl rfl hS4 ?_
 go_frame
 refine tkP 19 (.bool false) 4 rfl rfl hS4 ?_
 go_frame
 clear hS4
 refine wpAnyH_done (by kernel_rfl) ?_ _
 go_wp2_with fail
 go_ret
 exact BoolIs.no (fun h => HNB.out h.1) hb4
theorem implHits_any (k : Int) (a b : ByteArray) (t : Int) (p : ByteArray) (o1 : Option Addr) (n1 c1 : Nat) (xs : List ByteArray) (o2 : Option Addr) (n2 c2 : Nat) (ys : List ByteArray) (st : Int) (v3 : Value) (n3 base : Nat) (fs : List (ByteArray × ByteArray)) (d : ByteArray) (u : Int) (w : World) (ha : a.size ≤ maxLen) (hb : b.size ≤ maxLen) (h1 : TextsA w o1 n1 xs) (h2 : TextsA w o2 n2 ys) (h3 : FieldsV w base v3 n3 fs) (hn1 : n1 ≤ 2000000) (hn2 : n2 ≤ 2000000) (hn3 : n3 ≤ 2000000) (hs1 : ∀ i, i < n1 → (textAt xs i).size ≤ maxLen) (hs2 : ∀ i, i < n2 → (textAt ys i).size ≤ maxLen) (hs3 : WalkF n3 fs) (hc : CopyF fs) (hp : p.size ≤ maxLen) (hx : d.size ≤ maxLen) (hg : (getV fs varyName).size ≤ 1048576) :
  Calls Tryz.prog 148 #[.agg #[.int .i64 k, .string a, .string b, .int .i64 t], .agg #[.string p, .slice o1 n1 c1, .slice o2 n2 c2, .int .i64 st, v3, .string d, .int .i64 u]] w fun e w' => BoolIs (HitP k a b t p xs ys st fs d u) w e w' := by
 by_cases h1' : k = 1
 · subst h1'; exact implHits_1 a b t p o1 n1 c1 xs o2 n2 c2 ys st v3 n3 base fs d u w ha hb h1 h2 h3 hn1 hn2 hn3 hs1 hs2 hs3 hc hp hx hg
 ·
  by_cases h2' : k = 2
  · subst h2'; exact implHits_2 a b t p o1 n1 c1 xs o2 n2 c2 ys st v3 n3 base fs d u w ha hb h1 h2 h3 hn1 hn2 hn3 hs1 hs2 hs3 hc hp hx hg
  ·
   by_cases h3' : k = 3
   · subst h3'; exact implHits_3 a b t p o1 n1 c1 xs o2 n2 c2 ys st v3 n3 base fs d u w ha hb h1 h2 h3 hn1 hn2 hn3 hs1 hs2 hs3 hc hp hx hg
   · exact implHits_no k h1' h2' h3' a b t p o1 n1 c1 xs o2 n2 c2 ys st v3 n3 base fs d u w ha hb h1 h2 h3 hn1 hn2 hn3 hs1 hs2 hs3 hc hp hx hg
end Go.Proofs.YtbmhonfgffjpcaaGreat
namespace Go.Proofs.YtbmhonfgffjpcaaGreat
open Go.RowKit
open Go.Lib hiding intOf
theorem implHitsAny_any (oa : Option Addr) (n cap : Nat) (l : List (Int × ByteArray × ByteArray × Int)) (p : ByteArray) (o1 : Option Addr) (n1 c1 : Nat) (xs : List ByteArray) (o2 : Option Addr) (n2 c2 : Nat) (ys : List ByteArray) (st : Int) (v3 : Value) (n3 base : Nat) (fs : List (ByteArray × ByteArray)) (d : ByteArray) (u : Int) (w : World) (hl : BanA w oa n l) (hn : n ≤ 2000000) (hlz : ∀ x ∈ l, x.2.1.size ≤ maxLen ∧ x.2.2.1.size ≤ maxLen) (h1 : TextsA w o1 n1 xs) (h2 : TextsA w o2 n2 ys) (h3 : FieldsV w base v3 n3 fs) (hn1 : n1 ≤ 2000000) (hn2 : n2 ≤ 2000000) (hn3 : n3 ≤ 2000000) (hs1 : ∀ i, i < n1 → (textAt xs i).size ≤ maxLen) (hs2 : ∀ i, i < n2 → (textAt ys i).size ≤ maxLen) (hs3 : WalkF n3 fs) (hc : CopyF fs) (hp : p.size ≤ maxLen) (hx : d.size ≤ maxLen) (hg : (getV fs varyName).size ≤ 1048576) :
  Calls Tryz.prog 123 #[.slice oa n cap, .agg #[.string p, .slice o1 n1 c1, .slice o2 n2 c2, .int .i64 st, v3, .string d, .int .i64 u]] w fun e w' => BoolIs (AnyP l p xs ys st fs d u) w e w' := by
 obtain ⟨o3, c3, rfl, _⟩ := h3.slice
 have HL : Hid (∀ W, Below w.heap.size w W → BanA W oa n l) := fun W h => hl.below h
 have HLN : Hid (l.length = n) := hl.1
 have HC : Hid (∀ (k : Int) (a b : ByteArray) (t : Int) (W : World), Below w.heap.size w W → a.size ≤ maxLen → b.size ≤ maxLen → Calls Tryz.prog 148 #[.agg #[.int .i64 k, .string a, .string b, .int .i64 t], .agg #[.string p, .slice o1 n1 c1, .slice o2 n2 c2, .int .i64 st, .slice o3 n3 c3, .string d, .int .i64 u]] W fun e w' => BoolIs (HitP k a b t p xs ys st fs d u) W e w') := fun k a b t W h ha hb =>
  implHits_any k a b t p o1 n1 c1 xs o2 n2 c2 ys st _ n3 base fs d u W ha hb (h1.below h) (h2.below h) (h3.below h) hn1 hn2 hn3 hs1 hs2 hs3 hc hp hx hg
 have HLZ : Hid (∀ x ∈ l, x.2.1.size ≤ maxLen ∧ x.2.2.1.size ≤ maxLen) := hlz
 clear hl hlz h1 h2 h3 hs1 hs2 hs3 hc hp hx hg
 have hb0 : Below w.heap.size w w := Below.refl _ _
 go_enter Tryz.func123, Tryz.ntmps123
 go_upto_region 1 with fail
 obtain ⟨qv1, hqv1⟩ := exq ((w).heap.size)
 obtain ⟨w1, hW1⟩ := exq ((w).alloc (.cells #[.string p, .slice o1 n1 c1, .slice o2 n2 c2, .int .i64 st, .slice o3 n3 c3, .string d, .int .i64 u] 66))
 have hz1 : (w).heap.size = qv1 := hqv1.symm
 first | rw [← hW1, ← hqv1] | rw [← hW1]
 have hs1 := hsa hW1 hz1
 have bw := bal hW1
 have hb1 := hbt hb0 bw
 have HBv1_1 := hnew hW1 hz1
 clear hb0 bw hW1 hz1
 clear hs1 hqv1
 go_wp2_with fail
 go_loopw [9] (fun i wr => ∃ j : Nat, j ≤ n ∧ i = .int .i64 (j : Int) ∧ Hid (Below w.heap.size w wr ∧ (wr).heap[qv1]? = some (.cells #[.string p, .slice o1 n1 c1, .slice o2 n2 c2, .int .i64 st, .slice o3 n3 c3, .string d, .int .i64 u] 66)) ∧ Hid (∀ x ∈ l.take j, ¬ HitP x.1 x.2.1 x.2.2.1 x.2.2.2 p xs ys st fs d u)) (fun i _ => n - (intOf i).toNat)
 case atStart => exact ⟨0, Nat.zero_le _, rfl, ⟨hb1, HBv1_1.out⟩, fun x hx => by simp at hx⟩
 case round =>
  obtain ⟨j, hj, rfl, HW, HN⟩ := hrel
  by_cases hlt : (j : Int) < (n : Int)
  ·
   have hb2 := HW.out.1
   have HBv1_2 : Hid ((wr).heap[qv1]? = some (.cells #[.string p, .slice o1 n1 c1, .slice o2 n2 c2, .int .i64 st, .slice o3 n3 c3, .string d, .int .i64 u] 66)) := HW.out.2
   clear HW hb1 HBv1_1
   have hjx : j < l.length := by rw [HLN.out]; omega
   obtain ⟨g, hog, hgl, r0, r1, r2, r3⟩ := (HL.out wr hb2).2 j (by omega)
   subst hog
   obtain ⟨y, hy⟩ := exq (banAt l j)
   rw [← hy] at r0 r1 r2 r3
   have HM : Hid (y ∈ l) := by show _ ∈ _; rw [hy]; exact banAt_mem l j hjx
   have HTK : Hid (l.take (j + 1) = l.take j ++ [y]) := by show _ = _; rw [hy]; exact take_banAt l j hjx
   have HZ : Hid (y.2.1.size ≤ maxLen ∧ y.2.2.1.size ≤ maxLen) := HLZ.out y HM.out
   clear hy hjx hgl
   obtain ⟨y0, y1, y2, y3⟩ := y
   go_upto_region 4 with fail
   obtain ⟨qv2, hqv2⟩ := exq ((wr).heap.size)
   obtain ⟨w3, hW3⟩ := exq ((wr).alloc (.cells #[.int .i64 y0, .string y1, .string y2, .int .i64 y3] 152))
   have hz3 : (wr).heap.size = qv2 := hqv2.symm
   first | rw [← hW3, ← hqv2] | rw [← hW3]
   have hs3 := hsa hW3 hz3
   have bw := bal hW3
   have hb3 := hbt hb2 bw
   have HBv1_3 := hblk HBv1_2 bw
   have HBv2_3 := hnew hW3 hz3
   clear hb2 HBv1_2 bw hW3 hz3
   clear hs3 hqv2
   clear r0 r1 r2 r3
   have cv1_0 := (k7c HBv1_3).1
   have cv1_1 := (k7c HBv1_3).2.1
   have cv1_2 := (k7c HBv1_3).2.2.1
   have cv1_3 := (k7c HBv1_3).2.2.2.1
   have cv1_4 := (k7c HBv1_3).2.2.2.2.1
   have cv1_5 := (k7c HBv1_3).2.2.2.2.2.1
   have cv1_6 := (k7c HBv1_3).2.2.2.2.2.2
   have cv2_0 := (k4c HBv2_3).1
   have cv2_1 := (k4c HBv2_3).2.1
   have cv2_2 := (k4c HBv2_3).2.2.1
   have cv2_3 := (k4c HBv2_3).2.2.2
   go_wp2_with fail
   refine (HC.out y0 y1 y2 y3 _ hb3 HZ.out.1 HZ.out.2).mono ?_
   rintro e w4 ⟨uh, rfl, htuh, bw⟩
   have hb4 := hbt hb3 bw
   have HBv1_4 := hblk HBv1_3 bw
   have HBv2_4 := hblk HBv2_3 bw
   clear hb3 HBv1_3 HBv2_3 bw
   clear cv1_0 cv1_1 cv1_2 cv1_3 cv1_4 cv1_5 cv1_6 cv2_0 cv2_1 cv2_2 cv2_3
   cases uh with
   | false =>
    have HN2 : Hid (∀ x ∈ l.take (j + 1), ¬ HitP x.1 x.2.1 x.2.2.1 x.2.2.2 p xs ys st fs d u) := by
     intro x hx
     rw [HTK.out] at hx
     rcases List.mem_append.1 hx with hx | hx
     · exact HN.out x hx
     · rw [List.mem_singleton.1 hx]; exact fun h => nomatch htuh.2 h
    clear htuh HN
    go_wp2_with fail
    go_roundw
    case rel => exact ⟨j + 1, by omega, by go_num, ⟨hb4, HBv1_4.out⟩, HN2⟩
    case measure => simp [intOf]; omega
   | true =>
    have HA : Hid (AnyP l p xs ys st fs d u) := ⟨_, HM.out, htuh.1 rfl⟩
    clear htuh HN
    go_wp2_with fail
    go_ret
    exact ⟨true, rfl, ⟨fun _ => HA.out, fun _ => rfl⟩, hb4⟩
  ·
   have hb2 := HW.out.1
   have HBv1_2 : Hid ((wr).heap[qv1]? = some (.cells #[.string p, .slice o1 n1 c1, .slice o2 n2 c2, .int .i64 st, .slice o3 n3 c3, .string d, .int .i64 u] 66)) := HW.out.2
   clear HW hb1 HBv1_1
   have HA : Hid (¬ AnyP l p xs ys st fs d u) := by
    rintro ⟨x, hx, h⟩
    have h2 := HN.out
    rw [List.take_of_length_le (by rw [HLN.out]; omega)] at h2
    exact h2 x hx h
   clear HN
   go_wp2_with fail
   go_ret
   exact BoolIs.no HA.out hb2
end Go.Proofs.YtbmhonfgffjpcaaGreat
namespace Go.Proofs.YtbmhonfgffjpcaaGreat
open Go.RowKit
open Go.Lib hiding intOf
/-- ObjOk of one that is kept. -/
theorem implObjOk_k (k : KpD) (v1 v2 v3 : Value) (w : World) (h : KpRead w k v1 v2 v3) (hs : KpSmall k) :
  Calls Tryz.prog 133 #[.agg #[.string k.p, v1, v2, .int .i64 k.st, v3, .string k.b, .int .i64 k.t]] w fun e w' => BoolIs (ObjK k) w e w' := by
 obtain ⟨B, h⟩ := h
 have ho : ObjO w B v1 k.xs.length k.xs v2 k.ys.length k.ys v3 k.fs.length k.fs := rows_objO h
 obtain ⟨o1, c1, rfl⟩ := slice_of_owns ho.names
 obtain ⟨o2, c2, rfl⟩ := slice_of_owns ho.vals
 exact implObjOk_any k.p o1 _ c1 k.xs o2 _ c2 k.ys k.st v3 _ B k.fs k.b k.t w (texts_view ho.names) (texts_view ho.vals) (FieldsV.of_owns ho.flds) (by have := hs.2.1.1; omega) (by have := hs.2.2.1.1; omega) (by have := hs.2.2.2.1; omega) (small_text hs.2.1.2) (small_text hs.2.2.1.2) (small_walk hs) (small_copy hs) (by have := hs.1.1; unfold maxLen; omega) (by have := hs.1.2; unfold maxLen; omega) (small_get hs _)
/-- HitsAny of one that is kept. -/
theorem implHitsAny_k (oa : Option Addr) (n cap : Nat) (l : List (Int × ByteArray × ByteArray × Int)) (k : KpD) (v1 v2 v3 : Value) (w : World) (hl : BanA w oa n l) (hn : n ≤ 2000000) (hlz : ∀ x ∈ l, x.2.1.size ≤ maxLen ∧ x.2.2.1.size ≤ maxLen) (h : KpRead w k v1 v2 v3) (hs : KpSmall k) :
  Calls Tryz.prog 123 #[.slice oa n cap, .agg #[.string k.p, v1, v2, .int .i64 k.st, v3, .string k.b, .int .i64 k.t]] w fun e w' => BoolIs (AnyK l k) w e w' := by
 obtain ⟨B, h⟩ := h
 have ho : ObjO w B v1 k.xs.length k.xs v2 k.ys.length k.ys v3 k.fs.length k.fs := rows_objO h
 obtain ⟨o1, c1, rfl⟩ := slice_of_owns ho.names
 obtain ⟨o2, c2, rfl⟩ := slice_of_owns ho.vals
 exact implHitsAny_any oa n cap l k.p o1 _ c1 k.xs o2 _ c2 k.ys k.st v3 _ B k.fs k.b k.t w hl hn hlz (texts_view ho.names) (texts_view ho.vals) (FieldsV.of_owns ho.flds) (by have := hs.2.1.1; omega) (by have := hs.2.2.1.1; omega) (by have := hs.2.2.2.1; omega) (small_text hs.2.1.2) (small_text hs.2.2.1.2) (small_walk hs) (small_copy hs) (by have := hs.1.1; unfold maxLen; omega) (by have := hs.1.2; unfold maxLen; omega) (small_get hs _)
end Go.Proofs.YtbmhonfgffjpcaaGreat
namespace Go.Proofs.YtbmhonfgffjpcaaGreat
open Go.RowKit
open Go.Lib hiding intOf
theorem cc_nc (c0 c1 c2 c3 c4 : Bool) (c5 : Int) (W : World) : (Instr.field 190 (.agg #[.bool c0, .bool c1, .bool c2, .bool c3, .bool c4, .int .i64 c5]) 1).run Tryz.prog W = .ok (.bool c1) W := by
 first | kernel_rfl | rfl | simp [Instr.field, go_sem]
end Go.Proofs.YtbmhonfgffjpcaaGreat
namespace Go.Proofs.YtbmhonfgffjpcaaGreat
open Go.RowKit
open Go.Lib hiding intOf
/-- Who may be answered from here. -/
def HereP (m : Int) (p : ByteArray) (fs : List (ByteArray × ByteArray)) (b : ByteArray) : Prop := (ReqP m p fs b ∧ m = 1) ∧ (ccR (getV fs ccName)).ns = false
/-- Both ask for the same. -/
def AlikeP (m : Int) (p : ByteArray) (fs : List (ByteArray × ByteArray)) (b : ByteArray) (m2 : Int) (p2 : ByteArray) (gs : List (ByteArray × ByteArray)) (c : ByteArray) : Prop := (HereP m p fs b ∧ HereP m2 p2 gs c) ∧ p = p2 ∧ fs = gs
/-- The first fields of both are the same. -/
def SameTo (fs gs : List (ByteArray × ByteArray)) (k : Nat) : Prop := ∀ j, j < k → nameAt fs j = nameAt gs j ∧ valAt fs j = valAt gs j
theorem SameTo.zero (fs gs : List (ByteArray × ByteArray)) : SameTo fs gs 0 := fun j h => absurd h (Nat.not_lt_zero j)
theorem SameTo.step {fs gs : List (ByteArray × ByteArray)} {k : Nat} (h : SameTo fs gs k) (h1 : nameAt fs k = nameAt gs k) (h2 : valAt fs k = valAt gs k) : SameTo fs gs (k + 1) := fun j hj => by
 by_cases e : j = k
 · subst e; exact ⟨h1, h2⟩
 · exact h j (by omega)
theorem SameTo.all {fs gs : List (ByteArray × ByteArray)} {n : Nat} (h : SameTo fs gs n) (h1 : fs.length = n) (h2 : gs.length = n) : fs = gs := by
 apply List.ext_getElem (by omega)
 intro i hi hj
 have := h i (by omega)
 unfold nameAt valAt at this
 rw [List.getD_eq_getElem?_getD, List.getElem?_eq_getElem hi, List.getD_eq_getElem?_getD, List.getElem?_eq_getElem hj] at this
 exact Prod.ext this.1 this.2
end Go.Proofs.YtbmhonfgffjpcaaGreat
namespace Go.Proofs.YtbmhonfgffjpcaaGreat
open Go.RowKit
open Go.Lib hiding intOf
theorem cc_ns (c0 c1 c2 c3 c4 : Bool) (c5 : Int) (W : World) : (Instr.field 190 (.agg #[.bool c0, .bool c1, .bool c2, .bool c3, .bool c4, .int .i64 c5]) 0).run Tryz.prog W = .ok (.bool c0) W := by
 first | kernel_rfl | rfl | simp [Instr.field, go_sem]
theorem guardFld : Tryz.prog.eqGuardType Tryz.prog.depth 171 = false := by kernel_rfl
open Classical in
theorem eqFldIn (a a' b b' : ByteArray) (w : World) : (Op.equalIn 10000 171 (.agg #[.string a, .string b]) (.agg #[.string a', .string b'])).run Tryz.prog w = .ok (decide (a = a' ∧ b = b')) w := by
 have u9 := Tryz.underlying9
 have a9 := Tryz.isAgg9
 have z9 := Tryz.sizeOf9
 have hS : Tryz.prog.underlying 171 = some (.struct (Tryz.prog.fieldsOf 171)) := by kernel_rfl
 have hp : Tryz.prog.stoodInHeld 171 = false := by kernel_rfl
 rw [show (10000 : Nat) = 9999 + 1 from rfl, run_equalIn_agg w 9999 171 _ _ hS hp]
 simp only [Program.fieldsOf, Tryz.underlying171]
 have ea : ∀ x y : ByteArray, (x.toList == y.toList) = decide (x = y) := fun x y => by
  by_cases h : x = y
  · rw [decide_eq_true h]; exact (text_beq _ _).2 h
  · rw [decide_eq_false h]; exact text_beq_no h
 go_simp
 by_cases h1 : a = a'
 ·
  by_cases h2 : b = b'
  · simp [h1, h2]
  · simp [h1, h2]
 · simp [h1]
open Classical in
theorem neqFld (a a' b b' : ByteArray) (w : World) : (binOp .neq 171 (.agg #[.string a, .string b]) (.agg #[.string a', .string b'])).run Tryz.prog w = .ok (.bool (!(decide (a = a' ∧ b = b')))) w := by
 rw [run_neq_struct, eqFldIn]
 rfl
end Go.Proofs.YtbmhonfgffjpcaaGreat
namespace Go.Proofs.YtbmhonfgffjpcaaGreat
open Go.RowKit
open Go.Lib hiding intOf
theorem l15Fields_any (v1 v2 : Value) (n m b1 b2 : Nat) (fs gs : List (ByteArray × ByteArray)) (w : World) (h1 : FieldsV w b1 v1 n fs) (h2 : FieldsV w b2 v2 m gs) (hn : n ≤ 1073741824) (hm : m ≤ 1073741824) :
  Calls Tryz.prog 121 #[v1, v2] w fun e w' => BoolIs (fs = gs) w e w' := by
 classical
 have HL1 : Hid (fs.length = n) := h1.len
 have HL2 : Hid (gs.length = m) := h2.len
 obtain ⟨oa, ca, rfl, ra⟩ := h1.slice
 obtain ⟨ob, cb, rfl, rb⟩ := h2.slice
 have HRA : Hid (∀ k, k < n → ∃ g, oa = some ⟨g, 0, none⟩ ∧ FieldRow b1 w g n ca fs) := ra
 have HRB : Hid (∀ k, k < m → ∃ g, ob = some ⟨g, 0, none⟩ ∧ FieldRow b2 w g m cb gs) := rb
 clear ra rb h1 h2
 have hgd := guardFld
 go_enter Tryz.func121, Tryz.ntmps121
 go_wp2
 go_loopw [5] (fun i wr => ∃ k : Nat, k ≤ n ∧ k ≤ m ∧ i = .int .i64 (k : Int) ∧ Below w.heap.size w wr ∧ Hid (SameTo fs gs k)) (fun i _ => n - (intOf i).toNat)
 case atStart => exact ⟨0, Nat.zero_le _, Nat.zero_le _, rfl, Below.refl _ _, SameTo.zero _ _⟩
 case round =>
  obtain ⟨k, hk, hkm, rfl, hbw, HST⟩ := hrel
  by_cases hlt : k < n
  ·
   by_cases hltm : k < m
   ·
    have hlt2 : (k : Int) < (n : Int) := by omega
    have hlt3 : (k : Int) < (m : Int) := by omega
    obtain ⟨g1, hoa, r1⟩ := HRA.out k hlt
    obtain ⟨g2, hob, r2⟩ := HRB.out k hltm
    subst hoa hob
    obtain ⟨na, hna⟩ := exq (nameAt fs k)
    obtain ⟨va, hva⟩ := exq (valAt fs k)
    obtain ⟨nb, hnb⟩ := exq (nameAt gs k)
    obtain ⟨vb, hvb⟩ := exq (valAt gs k)
    have ha := (r1.below hbw r1.lt).name k hlt
    have hb := (r1.below hbw r1.lt).val k hlt
    have hc := (r2.below hbw r2.lt).name k hltm
    have hd := (r2.below hbw r2.lt).val k hltm
    rw [← hna] at ha
    rw [← hva] at hb
    rw [← hnb] at hc
    rw [← hvb] at hd
    by_cases he : na = nb ∧ va = vb
    ·
     have HS2 : Hid (SameTo fs gs (k + 1)) := HST.out.step (by rw [← hna, ← hnb]; exact he.1) (by rw [← hva, ← hvb]; exact he.2)
     obtain ⟨e1, e2⟩ := he
     subst e1 e2
     have hq : ∀ W : World, (binOp .neq 171 (.agg #[.string na, .string va]) (.agg #[.string na, .string va])).run Tryz.prog W = .ok (.bool false) W := fun W => by rw [neqFld]; simp
     clear hna hva hnb hvb r1 r2 HST
     go_wp2
     go_region
     go_wp2
     go_roundw
     case rel => exact ⟨k + 1, by omega, by omega, by go_num, hbw.drew, HS2⟩
     case measure => simp [intOf]; omega
    ·
     have HNE : Hid (¬ fs = gs) := fun e => he ⟨by rw [hna, hnb, e], by rw [hva, hvb, e]⟩
     have hq : ∀ W : World, (binOp .neq 171 (.agg #[.string na, .string va]) (.agg #[.string nb, .string vb])).run Tryz.prog W = .ok (.bool true) W := fun W => by rw [neqFld, decide_eq_false he]; rfl
     clear hna hva hnb hvb r1 r2 HST he
     go_wp2
     go_region
     go_wp2
     go_ret
     exact BoolIs.no HNE.out hbw.drew
   ·
    have HNE : Hid (¬ fs = gs) := fun e => by
     have h1 := HL1.out
     have h2 := HL2.out
     rw [e] at h1
     omega
    have hnm : ((n : Int) == (m : Int)) = false := by simpa using (show ¬ (n : Int) = (m : Int) by omega)
    go_wp2
    go_ret
    exact BoolIs.no HNE.out hbw
  ·
   by_cases hnm : n = m
   ·
    subst hnm
    have HEQ : Hid (fs = gs) := by
     have h := HST.out
     rw [show k = n by omega] at h
     exact h.all HL1.out HL2.out
    have hnn : ((n : Int) == (n : Int)) = true := by simp
    go_wp2
    go_ret
    exact BoolIs.yes HEQ.out hbw
   ·
    have HNE : Hid (¬ fs = gs) := fun e => by
     have h1 := HL1.out
     have h2 := HL2.out
     rw [e] at h1
     omega
    have hnmb : ((n : Int) == (m : Int)) = false := by simpa using (show ¬ (n : Int) = (m : Int) by omega)
    go_wp2
    go_ret
    exact BoolIs.no HNE.out hbw
end Go.Proofs.YtbmhonfgffjpcaaGreat
namespace Go.Proofs.YtbmhonfgffjpcaaGreat
open Go.RowKit
open Go.Lib hiding intOf
theorem specAlike_any (ma : Int) (pa : ByteArray) (va : Value) (ba : ByteArray) (na basea : Nat) (fsa : List (ByteArray × ByteArray)) (mb : Int) (pb : ByteArray) (vb : Value) (bb : ByteArray) (nb baseb : Nat) (fsb : List (ByteArray × ByteArray)) (w : World) (hva : FieldsV w basea va na fsa) (hna : na ≤ 1048576) (hsa : WalkF na fsa) (hpa : pa.size ≤ maxLen) (hba : ba.size ≤ maxLen) (hga : ∀ x, (getV fsa x).size ≤ 1048576) (hvb : FieldsV w baseb vb nb fsb) (hnb : nb ≤ 1048576) (hsb : WalkF nb fsb) (hpb : pb.size ≤ maxLen) (hbb : bb.size ≤ maxLen) (hgb : ∀ x, (getV fsb x).size ≤ 1048576) :
  Calls Tryz.prog 83 #[.agg #[.int .i64 ma, .string pa, va, .string ba], .agg #[.int .i64 mb, .string pb, vb, .string bb]] w fun e w' => BoolIs (AlikeP ma pa fsa ba mb pb fsb bb) w e w' := by
 obtain ⟨oa, ca, hsl, _⟩ := hva.slice
 subst hsl
 have HVa : Hid (∀ W, Below w.heap.size w W → FieldsV W basea (.slice oa na ca) na fsa) := fun W h => hva.below h
 have HLFa : Hid (fsa.length = na) := hva.len
 have HSa : Hid (WalkF na fsa) := hsa
 have HPMa : Hid (pa.size ≤ maxLen) := hpa
 have HBMa : Hid (ba.size ≤ maxLen) := hba
 have HQVa : Hid (∀ x, (getV fsa x).size ≤ 1048576) := hga
 clear hva hsa hpa hba hga
 obtain ⟨ka, hka⟩ := exq (ccR (getV fsa ccName))
 have HCCa : Hid (∀ W, Below w.heap.size w W → Calls Tryz.prog 122 #[.slice oa na ca] W fun e w' => e = .returned (.agg #[.bool ka.ns, .bool ka.nc, .bool ka.pr, .bool ka.mu, .bool ka.ha, .int .i64 ka.age]) ∧ Below W.heap.size W w') := fun W hW => by
  have h := specCcOf_any _ na basea fsa W (HVa.out W hW) (by omega) (HQVa.out _)
  rw [← hka] at h
  exact h
 have HCKa : Hid (ccR (getV fsa ccName) = ka) := hka.symm
 clear hka
 obtain ⟨xa0, xa1, xa2, xa3, xa4, xa5⟩ := ka
 dsimp only at HCCa
 obtain ⟨ob, cb, hsl, _⟩ := hvb.slice
 subst hsl
 have HVb : Hid (∀ W, Below w.heap.size w W → FieldsV W baseb (.slice ob nb cb) nb fsb) := fun W h => hvb.below h
 have HLFb : Hid (fsb.length = nb) := hvb.len
 have HSb : Hid (WalkF nb fsb) := hsb
 have HPMb : Hid (pb.size ≤ maxLen) := hpb
 have HBMb : Hid (bb.size ≤ maxLen) := hbb
 have HQVb : Hid (∀ x, (getV fsb x).size ≤ 1048576) := hgb
 clear hvb hsb hpb hbb hgb
 obtain ⟨kb, hkb⟩ := exq (ccR (getV fsb ccName))
 have HCCb : Hid (∀ W, Below w.heap.size w W → Calls Tryz.prog 122 #[.slice ob nb cb] W fun e w' => e = .returned (.agg #[.bool kb.ns, .bool kb.nc, .bool kb.pr, .bool kb.mu, .bool kb.ha, .int .i64 kb.age]) ∧ Below W.heap.size W w') := fun W hW => by
  have h := specCcOf_any _ nb baseb fsb W (HVb.out W hW) (by omega) (HQVb.out _)
  rw [← hkb] at h
  exact h
 have HCKb : Hid (ccR (getV fsb ccName) = kb) := hkb.symm
 clear hkb
 obtain ⟨xb0, xb1, xb2, xb3, xb4, xb5⟩ := kb
 dsimp only at HCCb
 have hfna := fun W => cc_ns xa0 xa1 xa2 xa3 xa4 xa5 W
 have hfca := fun W => cc_nc xa0 xa1 xa2 xa3 xa4 xa5 W
 have hb0 : Below w.heap.size w w := Below.refl _ _
 go_enter Tryz.func83, Tryz.ntmps83
 go_upto_region 1 with fail
 obtain ⟨qv1, hqv1⟩ := exq ((w).heap.size)
 obtain ⟨w1, hW1⟩ := exq ((w).alloc (.cells #[.int .i64 ma, .string pa, .slice oa na ca, .string ba] 62))
 have hz1 : (w).heap.size = qv1 := hqv1.symm
 first | rw [← hW1, ← hqv1] | rw [← hW1]
 have hs1 := hsa hW1 hz1
 have bw := bal hW1
 have hb1 := hbt hb0 bw
 have HBv1_1 := hnew hW1 hz1
 clear hb0 bw hW1 hz1
 obtain ⟨qv2, hqv2⟩ := exq (qv1 + 1)
 obtain ⟨w2, hW2⟩ := exq ((w1).alloc (.cells #[.int .i64 mb, .string pb, .slice ob nb cb, .string bb] 62))
 have hz2 : (w1).heap.size = qv2 := by rw [hqv2]; exact hs1
 first | rw [← hW2, ← hqv2] | rw [← hW2]
 have hs2 := hsa hW2 hz2
 have bw := bal hW2
 have hb2 := hbt hb1 bw
 have HBv1_2 := hblk HBv1_1 bw
 have HBv2_2 := hnew hW2 hz2
 clear hb1 HBv1_1 bw hW2 hz2
 clear hs2 hqv2 hs1 hqv1
 have cv1_0 := (k4c HBv1_2).1
 have cv1_1 := (k4c HBv1_2).2.1
 have cv1_2 := (k4c HBv1_2).2.2.1
 have cv1_3 := (k4c HBv1_2).2.2.2
 go_wp2_with fail
 refine (specReqOk_any ma pa _ ba na basea fsa _ (HVa.out _ hb2) (by omega) HSa.out HPMa.out HBMa.out).mono ?_
 rintro e w3 ⟨ra, rfl, hra, bw⟩
 have hb3 := hbt hb2 bw
 have HBv1_3 := hblk HBv1_2 bw
 have HBv2_3 := hblk HBv2_2 bw
 clear hb2 HBv1_2 HBv2_2 bw
 clear cv1_0 cv1_1 cv1_2 cv1_3
 cases ra with
 | false =>
  have HNra : Hid (¬ (ReqP ma pa fsa ba)) := fun h => nomatch hra.2 h
  clear hra
  go_wp2_with fail
  go_ret
  exact BoolIs.no (fun h => HNra.out h.1.1.1.1) hb3
 | true =>
  have HYra : Hid (ReqP ma pa fsa ba) := hra.1 rfl
  clear hra
  have cv2_0 := (k4c HBv2_3).1
  have cv2_1 := (k4c HBv2_3).2.1
  have cv2_2 := (k4c HBv2_3).2.2.1
  have cv2_3 := (k4c HBv2_3).2.2.2
  go_wp2_with fail
  refine (specReqOk_any mb pb _ bb nb baseb fsb _ (HVb.out _ hb3) (by omega) HSb.out HPMb.out HBMb.out).mono ?_
  rintro e w4 ⟨rb, rfl, hrb, bw⟩
  have hb4 := hbt hb3 bw
  have HBv1_4 := hblk HBv1_3 bw
  have HBv2_4 := hblk HBv2_3 bw
  clear hb3 HBv1_3 HBv2_3 bw
  clear cv2_0 cv2_1 cv2_2 cv2_3
  cases rb with
  | false =>
   have HNrb : Hid (¬ (ReqP mb pb fsb bb)) := fun h => nomatch hrb.2 h
   clear hrb
   go_wp2_with fail
   go_ret
   exact BoolIs.no (fun h => HNrb.out h.1.2.1.1) hb4
  | true =>
   have HYrb : Hid (ReqP mb pb fsb bb) := hrb.1 rfl
   clear hrb
   by_cases hc1 : ma = 1
   ·
    have hc1b : ((ma : Int) == (1 : Int)) = true := by simpa using hc1
    have hc1n : ((ma : Int) != (1 : Int)) = false := by simpa using hc1
    have HMEa : Hid ((ma = 1)) := hc1
    have hc1H : Hid (ma = 1) := hc1
    clear hc1
    by_cases hc2 : mb = 1
    ·
     have hc2b : ((mb : Int) == (1 : Int)) = true := by simpa using hc2
     have hc2n : ((mb : Int) != (1 : Int)) = false := by simpa using hc2
     have HMEb : Hid ((mb = 1)) := hc2
     have hc2H : Hid (mb = 1) := hc2
     clear hc2
     have cv1_0 := (k4c HBv1_4).1
     have cv1_1 := (k4c HBv1_4).2.1
     have cv2_0 := (k4c HBv2_4).1
     have cv2_1 := (k4c HBv2_4).2.1
     by_cases hc3 : pa = pb
     ·
      have hc3b : ((pa).toList == (pb).toList) = true := (text_beq _ _).2 hc3
      have HPP : Hid ((pa = pb)) := hc3
      clear hc3
      have cv1_2 := (k4c HBv1_4).2.2.1
      have cv2_2 := (k4c HBv2_4).2.2.1
      go_wp2_with fail
      refine (l15Fields_any _ _ na nb _ _ fsa fsb _ (HVa.out _ hb4) (HVb.out _ hb4) (by omega) (by omega)).mono ?_
      rintro e w5 ⟨lf, rfl, hlf, bw⟩
      have hb5 := hbt hb4 bw
      have HBv1_5 := hblk HBv1_4 bw
      have HBv2_5 := hblk HBv2_4 bw
      clear hb4 HBv1_4 HBv2_4 bw
      clear cv1_0 cv1_1 cv2_0 cv2_1 cv1_2 cv2_2
      cases lf with
      | false =>
       have HNlf : Hid (¬ (fsa = fsb)) := fun h => nomatch hlf.2 h
       clear hlf
       go_wp2_with fail
       go_ret
       exact BoolIs.no (fun h => HNlf.out h.2.2) hb5
      | true =>
       have HYlf : Hid (fsa = fsb) := hlf.1 rfl
       clear hlf
       have cv1_2 := (k4c HBv1_5).2.2.1
       go_wp2_with fail
       refine (HCCa.out _ hb5).mono ?_
       rintro e w6 ⟨rfl, bw⟩
       have hb6 := hbt hb5 bw
       have HBv1_6 := hblk HBv1_5 bw
       have HBv2_6 := hblk HBv2_5 bw
       clear hb5 HBv1_5 HBv2_5 bw
       clear cv1_2
       cases xa0 with
       | false =>
        have HXNa : Hid ((ccR (getV fsa ccName)).ns = false) := by show _ = _; rw [HCKa.out]
        go_wp2_with fail
        go_ret
        exact BoolIs.yes ⟨⟨⟨⟨HYra.out, HMEa.out⟩, HXNa.out⟩, ⟨HYrb.out, HMEb.out⟩, by rw [← HYlf.out]; exact HXNa.out⟩, HPP.out, HYlf.out⟩ hb6
       | true =>
        have HXNa : Hid ((ccR (getV fsa ccName)).ns = true) := by show _ = _; rw [HCKa.out]
        go_wp2_with fail
        go_ret
        exact BoolIs.no (fun h => (by have h1 := h.1.1.2; rw [HXNa.out] at h1; exact absurd h1 (by decide))) hb6
     ·
      have hc3b : ((pa).toList == (pb).toList) = false := text_beq_no hc3
      have HPP : Hid (¬ (pa = pb)) := hc3
      clear hc3
      go_wp2_with fail
      go_ret
      exact BoolIs.no (fun h => HPP.out h.2.1) hb4
    ·
     have hc2b : ((mb : Int) == (1 : Int)) = false := by simpa using hc2
     have hc2n : ((mb : Int) != (1 : Int)) = true := by simpa using hc2
     have HMEb : Hid (¬ (mb = 1)) := hc2
     have hc2H : Hid (¬ (mb = 1)) := hc2
     clear hc2
     have cv1_0 := (k4c HBv1_4).1
     have cv2_0 := (k4c HBv2_4).1
     go_wp2_with fail
     go_ret
     exact BoolIs.no (fun h => HMEb.out h.1.2.1.2) hb4
   ·
    have hc1b : ((ma : Int) == (1 : Int)) = false := by simpa using hc1
    have hc1n : ((ma : Int) != (1 : Int)) = true := by simpa using hc1
    have HMEa : Hid (¬ (ma = 1)) := hc1
    have hc1H : Hid (¬ (ma = 1)) := hc1
    clear hc1
    have cv1_0 := (k4c HBv1_4).1
    go_wp2_with fail
    go_ret
    exact BoolIs.no (fun h => HMEa.out h.1.1.1.2) hb4
end Go.Proofs.YtbmhonfgffjpcaaGreat
namespace Go.Proofs.YtbmhonfgffjpcaaGreat
open Go.RowKit
open Go.Lib hiding intOf
theorem equalFld_eq (v1 v2 : Value) (n b1 b2 : Nat) (fs gs : List (ByteArray × ByteArray)) (w : World) (h1 : FieldsV w b1 v1 n fs) (h2 : FieldsV w b2 v2 n gs) (hn : n ≤ 1073741824) :
  Calls Tryz.prog 164 #[v1, v2] w fun e w' => BoolIs (fs = gs) w e w' := by
 classical
 have HL1 : Hid (fs.length = n) := h1.len
 have HL2 : Hid (gs.length = n) := h2.len
 obtain ⟨oa, ca, rfl, ra⟩ := h1.slice
 obtain ⟨ob, cb, rfl, rb⟩ := h2.slice
 have HRA : Hid (∀ k, k < n → ∃ g, oa = some ⟨g, 0, none⟩ ∧ FieldRow b1 w g n ca fs) := ra
 have HRB : Hid (∀ k, k < n → ∃ g, ob = some ⟨g, 0, none⟩ ∧ FieldRow b2 w g n cb gs) := rb
 clear ra rb h1 h2
 have hgd := guardFld
 have hnn : ((n : Int) != (n : Int)) = false := by simp
 go_enter Tryz.func164, Tryz.ntmps164
 go_wp2
 go_loopw [13] (fun i wr => ∃ k : Nat, k ≤ n ∧ i = .int .i64 (k : Int) ∧ Below w.heap.size w wr ∧ Hid (SameTo fs gs k)) (fun i _ => n - (intOf i).toNat)
 case atStart => exact ⟨0, Nat.zero_le _, rfl, Below.refl _ _, SameTo.zero _ _⟩
 case round =>
  obtain ⟨k, hk, rfl, hbw, HST⟩ := hrel
  by_cases hlt : k < n
  ·
   ·
    have hlt2 : (k : Int) < (n : Int) := by omega
    obtain ⟨g1, hoa, r1⟩ := HRA.out k hlt
    obtain ⟨g2, hob, r2⟩ := HRB.out k hlt
    subst hoa hob
    obtain ⟨na, hna⟩ := exq (nameAt fs k)
    obtain ⟨va, hva⟩ := exq (valAt fs k)
    obtain ⟨nb, hnb⟩ := exq (nameAt gs k)
    obtain ⟨vb, hvb⟩ := exq (valAt gs k)
    have ha := (r1.below hbw r1.lt).name k hlt
    have hb := (r1.below hbw r1.lt).val k hlt
    have hc := (r2.below hbw r2.lt).name k hlt
    have hd := (r2.below hbw r2.lt).val k hlt
    rw [← hna] at ha
    rw [← hva] at hb
    rw [← hnb] at hc
    rw [← hvb] at hd
    by_cases he : na = nb ∧ va = vb
    ·
     have HS2 : Hid (SameTo fs gs (k + 1)) := HST.out.step (by rw [← hna, ← hnb]; exact he.1) (by rw [← hva, ← hvb]; exact he.2)
     obtain ⟨e1, e2⟩ := he
     subst e1 e2
     have hq : ∀ W : World, (binOp .neq 171 (.agg #[.string na, .string va]) (.agg #[.string na, .string va])).run Tryz.prog W = .ok (.bool false) W := fun W => by rw [neqFld]; simp
     clear hna hva hnb hvb r1 r2 HST
     go_wp2
     go_region
     go_wp2
     go_roundw
     case rel => exact ⟨k + 1, by omega, by go_num, hbw.drew, HS2⟩
     case measure => simp [intOf]; omega
    ·
     have HNE : Hid (¬ fs = gs) := fun e => he ⟨by rw [hna, hnb, e], by rw [hva, hvb, e]⟩
     have hq : ∀ W : World, (binOp .neq 171 (.agg #[.string na, .string va]) (.agg #[.string nb, .string vb])).run Tryz.prog W = .ok (.bool true) W := fun W => by rw [neqFld, decide_eq_false he]; rfl
     clear hna hva hnb hvb r1 r2 HST he
     go_wp2
     go_region
     go_wp2
     go_ret
     exact BoolIs.no HNE.out hbw.drew
  ·
   have HEQ : Hid (fs = gs) := by
    have h := HST.out
    rw [show k = n by omega] at h
    exact h.all HL1.out HL2.out
   go_wp2
   go_ret
   exact BoolIs.yes HEQ.out hbw
theorem equalFld_any (v1 v2 : Value) (n m b1 b2 : Nat) (fs gs : List (ByteArray × ByteArray)) (w : World) (h1 : FieldsV w b1 v1 n fs) (h2 : FieldsV w b2 v2 m gs) (hn : n ≤ 1073741824) (hm : m ≤ 1073741824) :
  Calls Tryz.prog 164 #[v1, v2] w fun e w' => BoolIs (fs = gs) w e w' := by
 by_cases hnm : n = m
 ·
  subst hnm
  exact equalFld_eq v1 v2 n b1 b2 fs gs w h1 h2 hn
 ·
  have HNE : Hid (¬ fs = gs) := fun e => by
   have e1 := h1.len
   have e2 := h2.len
   rw [e] at e1
   omega
  have hne : ((n : Int) != (m : Int)) = true := by simpa using (show ¬ (n : Int) = (m : Int) by omega)
  obtain ⟨oa, ca, rfl, _⟩ := h1.slice
  obtain ⟨ob, cb, rfl, _⟩ := h2.slice
  go_enter Tryz.func164, Tryz.ntmps164
  go_wp2
  go_ret
  exact BoolIs.no HNE.out (Below.refl _ _)
end Go.Proofs.YtbmhonfgffjpcaaGreat
namespace Go.Proofs.YtbmhonfgffjpcaaGreat
open Go.RowKit
open Go.Lib hiding intOf
theorem saidByFlag_any (x : ByteArray) (w : World) :
  Calls Tryz.prog 225 #[.string x] w fun e w' => e = .returned (saidF x).v ∧ Below w.heap.size w w' := by
 have hR : CcAt (w.alloc (.cells #[.bool false, .bool false, .bool false, .bool false, .bool false, .int .i64 0] 190)) w.heap.size cc0 := heap_alloc_new w _
 have HB0 : Hid (Below w.heap.size w (w.alloc (.cells #[.bool false, .bool false, .bool false, .bool false, .bool false, .int .i64 0] 190))) := (Below.refl _ _).alloc (Nat.le_refl _) _
 obtain ⟨W1, hW1⟩ := exq (w.alloc (.cells #[.bool false, .bool false, .bool false, .bool false, .bool false, .int .i64 0] 190))
 have HW1 : Hid (w.alloc (.cells #[.bool false, .bool false, .bool false, .bool false, .bool false, .int .i64 0] 190) = W1) := hW1.symm
 rw [← hW1] at hR HB0
 obtain ⟨H, hH⟩ := exq (w.heap.size)
 have HW : Hid (w.heap.size = H) := hH.symm
 rw [← hH] at hR HB0
 clear hW1
 obtain ⟨r0, r1, r2, r3, r4, r5⟩ := hR.cells
 have f0 := hR.frozen 0
 have f1 := hR.frozen 1
 have f2 := hR.frozen 2
 have f3 := hR.frozen 3
 have f4 := hR.frozen 4
 have f5 := hR.frozen 5
 obtain ⟨c, hc⟩ := exq (saidF x)
 have HC : Hid (saidF x = c) := hc.symm
 obtain ⟨m0, m1, m2, m3, m4, m5⟩ := (hR.putAll c).cells
 have HB : Hid (Below H w (putCc W1 H c)) := below_putCc HB0.out (Nat.le_refl _) c
 unfold putCc at m0 m1 m2 m3 m4 m5 HB
 clear hR HB0
 unfold saidF at hc
 by_cases h0 : x = nsW
 ·
  have t0 : (x.toList == nsW.toList) = true := (text_beq _ _).2 h0
  rw [nsW_list] at t0
  rw [if_pos h0] at hc
  subst hc
  clear h0 
  dsimp only at m0 m1 m2 m3 m4 m5 HB
  go_enter Tryz.func225, Tryz.ntmps225
  go_upto_region 1 with fail
  rw [HW1.out, ← hH]
  clear hH HW1
  go_wp2_with fail
  refine bodyPost_ret (v := (saidF x).v) (by rw [HC.out]; simp [results, Tryz.results225, go_sem, m0, m1, m2, m3, m4, m5, CcD.v]) rfl ?_
  exact ⟨rfl, by rw [HW.out]; exact HB.out⟩
 have t0 : (x.toList == nsW.toList) = false := text_beq_no h0
 rw [nsW_list] at t0
 by_cases h1 : x = ncW
 ·
  have t1 : (x.toList == ncW.toList) = true := (text_beq _ _).2 h1
  rw [ncW_list] at t1
  rw [if_neg h0, if_pos h1] at hc
  subst hc
  clear h1 h0
  dsimp only at m0 m1 m2 m3 m4 m5 HB
  go_enter Tryz.func225, Tryz.ntmps225
  go_upto_region 1 with fail
  rw [HW1.out, ← hH]
  clear hH HW1
  go_wp2_with fail
  refine bodyPost_ret (v := (saidF x).v) (by rw [HC.out]; simp [results, Tryz.results225, go_sem, m0, m1, m2, m3, m4, m5, CcD.v]) rfl ?_
  exact ⟨rfl, by rw [HW.out]; exact HB.out⟩
 have t1 : (x.toList == ncW.toList) = false := text_beq_no h1
 rw [ncW_list] at t1
 by_cases h2 : x = prW
 ·
  have t2 : (x.toList == prW.toList) = true := (text_beq _ _).2 h2
  rw [prW_list] at t2
  rw [if_neg h0, if_neg h1, if_pos h2] at hc
  subst hc
  clear h2 h0 h1
  dsimp only at m0 m1 m2 m3 m4 m5 HB
  go_enter Tryz.func225, Tryz.ntmps225
  go_upto_region 1 with fail
  rw [HW1.out, ← hH]
  clear hH HW1
  go_wp2_with fail
  refine bodyPost_ret (v := (saidF x).v) (by rw [HC.out]; simp [results, Tryz.results225, go_sem, m0, m1, m2, m3, m4, m5, CcD.v]) rfl ?_
  exact ⟨rfl, by rw [HW.out]; exact HB.out⟩
 have t2 : (x.toList == prW.toList) = false := text_beq_no h2
 rw [prW_list] at t2
 by_cases h4 : x = muW
 ·
  have t3 : (x.toList == muW.toList) = true := (text_beq _ _).2 h4
  rw [muW_list] at t3
  rw [if_neg h0, if_neg h1, if_neg h2, if_pos h4] at hc
  subst hc
  clear h4 h0 h1 h2
  dsimp only at m0 m1 m2 m3 m4 m5 HB
  go_enter Tryz.func225, Tryz.ntmps225
  go_upto_region 1 with fail
  rw [HW1.out, ← hH]
  clear hH HW1
  go_wp2_with fail
  refine bodyPost_ret (v := (saidF x).v) (by rw [HC.out]; simp [results, Tryz.results225, go_sem, m0, m1, m2, m3, m4, m5, CcD.v]) rfl ?_
  exact ⟨rfl, by rw [HW.out]; exact HB.out⟩
 have t3 : (x.toList == muW.toList) = false := text_beq_no h4
 rw [muW_list] at t3
 rw [if_neg h0, if_neg h1, if_neg h2, if_neg h4] at hc
 subst hc
 clear h0 h1 h2 h4
 dsimp only [cc0] at m0 m1 m2 m3 m4 m5 HB
 go_enter Tryz.func225, Tryz.ntmps225
 go_upto_region 1 with fail
 rw [HW1.out, ← hH]
 clear hH HW1
 go_wp2_with fail
 refine bodyPost_ret (v := (saidF x).v) (by rw [HC.out]; simp [results, Tryz.results225, go_sem, m0, m1, m2, m3, m4, m5, CcD.v, cc0]) rfl ?_
 exact ⟨rfl, by rw [HW.out]; exact HB.out⟩
end Go.Proofs.YtbmhonfgffjpcaaGreat
namespace Go.Proofs.YtbmhonfgffjpcaaGreat
open Go.RowKit
open Go.Lib hiding intOf
theorem pre_age {x : ByteArray} (h : Lib.hasPrefix x.data.toList maW.data.toList = true) : ageOf x = some (numV ⟨(Lib.trimPrefix x.data.toList maW.data.toList).toArray⟩) := by
 unfold ageOf
 have e : (bs x).take 8 = bs maW := by
  have := List.isPrefixOf_iff_prefix.1 h
  obtain ⟨t, ht⟩ := this
  show x.data.toList.take 8 = _
  rw [← ht]
  rfl
 rw [if_pos e]
 unfold Lib.trimPrefix
 rw [if_pos h]
 rfl
theorem pre_none {x : ByteArray} (h : Lib.hasPrefix x.data.toList maW.data.toList = false) : ageOf x = none := by
 unfold ageOf
 rw [if_neg]
 intro e
 have : Lib.hasPrefix x.data.toList maW.data.toList = true := by
  refine List.isPrefixOf_iff_prefix.2 ⟨x.data.toList.drop 8, ?_⟩
  have e' : x.data.toList.take 8 = maW.data.toList := e
  rw [← e', List.take_append_drop]
 rw [this] at h
 cases h
theorem saidBy_any (x : ByteArray) (w : World) (hs : x.size ≤ 4000000) :
  Calls Tryz.prog 215 #[.string x] w fun e w' => e = .returned (saidB x).v ∧ Below w.heap.size w w' := by
 have HR0 : Hid (CcAt (w.alloc (.cells cc0.cs 190)) w.heap.size cc0) := heap_alloc_new w _
 have HB0 : Hid (Below w.heap.size w (w.alloc (.cells cc0.cs 190))) := (Below.refl _ _).alloc (Nat.le_refl _) _
 obtain ⟨W1, hW1⟩ := exq (w.alloc (.cells cc0.cs 190))
 have HW1 : Hid (w.alloc (.cells #[.bool false, .bool false, .bool false, .bool false, .bool false, .int .i64 0] 190) = W1) := hW1.symm
 rw [← hW1] at HR0 HB0
 obtain ⟨H, hH⟩ := exq (w.heap.size)
 have HW : Hid (w.heap.size = H) := hH.symm
 rw [← hH] at HR0 HB0
 clear hW1
 cases hp : Lib.hasPrefix x.data.toList maW.data.toList with
 | true =>
  have HA : Hid _ := pre_age hp
  obtain ⟨t, ht⟩ : ∃ t : ByteArray, t = ⟨(Lib.trimPrefix x.data.toList maW.data.toList).toArray⟩ := ⟨_, rfl⟩
  have hts : t.size ≤ maxLen := by
   rw [ht]
   unfold Lib.trimPrefix maxLen
   rw [if_pos hp]
   show (List.toArray _).size ≤ _
   simp
   omega
  rw [← ht] at HA
  have HT : Hid (⟨(Lib.trimPrefix x.data.toList maW.data.toList).toArray⟩ = t) := ht.symm
  clear ht
  go_enter Tryz.func215, Tryz.ntmps215
  go_wp2_with fail
  rw [HW1.out, ← hH]
  refine (Tryz.strings_CutPrefix x maW _).mono ?_
  rintro e w1 ⟨rfl, rfl⟩
  rw [hp, HT.out]
  clear hp hH HW1
  go_wp2_with fail
  refine (implNumRead_any t _ hts).mono ?_
  rintro e w2 ⟨b, n, rfl, hb1, hb2, hb3, b2⟩
  have HV : Hid (numV t = n) := by
   show _ = _
   unfold numV
   cases b with
   | true => rw [if_pos (hb1.1 rfl), hb2 rfl]
   | false => rw [if_neg (fun h => nomatch hb1.2 h), hb3 rfl]
  obtain ⟨c, hc⟩ : ∃ c : CcD, c = ⟨false, false, false, false, true, n⟩ := ⟨_, rfl⟩
  have HC : Hid (saidB x = c) := by show _ = _; unfold saidB; rw [HA.out, HV.out, hc]
  have hR := HR0.out.same (b2.block _ HR0.out.lt)
  have HB : Hid (Below H w (putCc w2 H c)) := below_putCc (HB0.out.trans (b2.mono (Nat.le_of_lt HR0.out.lt))) (Nat.le_refl _) c
  obtain ⟨r0, r1, r2, r3, r4, r5⟩ := hR.cells
  have f0 := hR.frozen 0
  have f1 := hR.frozen 1
  have f2 := hR.frozen 2
  have f3 := hR.frozen 3
  have f4 := hR.frozen 4
  have f5 := hR.frozen 5
  obtain ⟨m0, m1, m2, m3, m4, m5⟩ := (hR.putAll c).cells
  unfold putCc at m0 m1 m2 m3 m4 m5 HB
  subst hc
  dsimp only at m0 m1 m2 m3 m4 m5 HB
  clear hb1 hb2 hb3 hR b2 HR0 HB0 HA
  go_wp2_with fail
  refine bodyPost_ret (v := CcD.v ⟨false, false, false, false, true, n⟩) (by simp [results, Tryz.results215, go_sem, m0, m1, m2, m3, m4, m5, CcD.v]) rfl ?_
  exact ⟨by rw [HC.out], by rw [HW.out]; exact HB.out⟩
 | false =>
  have HA : Hid (saidB x = saidF x) := by show _ = _; unfold saidB; rw [pre_none hp]
  go_enter Tryz.func215, Tryz.ntmps215
  go_wp2_with fail
  rw [HW1.out, ← hH]
  refine (Tryz.strings_CutPrefix x maW _).mono ?_
  rintro e w1 ⟨rfl, rfl⟩
  rw [hp]
  clear hp hH HW1
  go_wp2_with fail
  refine (saidByFlag_any x _).mono ?_
  rintro e w2 ⟨rfl, b2⟩
  obtain ⟨c, hc⟩ := exq (saidF x)
  rw [← hc] at HA ⊢
  have hR := HR0.out.same (b2.block _ HR0.out.lt)
  have HB : Hid (Below H w (putCc w2 H c)) := below_putCc (HB0.out.trans (b2.mono (Nat.le_of_lt HR0.out.lt))) (Nat.le_refl _) c
  obtain ⟨r0, r1, r2, r3, r4, r5⟩ := hR.cells
  have f0 := hR.frozen 0
  have f1 := hR.frozen 1
  have f2 := hR.frozen 2
  have f3 := hR.frozen 3
  have f4 := hR.frozen 4
  have f5 := hR.frozen 5
  obtain ⟨m0, m1, m2, m3, m4, m5⟩ := (hR.putAll c).cells
  unfold putCc at m0 m1 m2 m3 m4 m5 HB
  clear hc hR b2 HR0 HB0
  unfold CcD.v
  go_wp2_with fail
  refine bodyPost_ret (v := c.v) (by simp [results, Tryz.results215, go_sem, m0, m1, m2, m3, m4, m5, CcD.v]) rfl ?_
  exact ⟨by rw [HA.out], by rw [HW.out]; exact HB.out⟩
/-- While words are read, here. -/
structure CiRd (w : World) (H : Nat) (c : CcD) (v : Value) (l : List ByteArray) (wr : World) : Prop where
 res : CcAt wr H cc0
 cur : CcAt wr (H + 1) c
 row : wr.ownsRow (H + 1 + 1) 9 1 v l.length (l.map Value.string)
 low : Below H w wr
theorem CiRd.later {w : World} {H : Nat} {c : CcD} {v : Value} {l : List ByteArray} {wr w' : World} (h : CiRd w H c v l wr) (hb : Below wr.heap.size wr w') : CiRd w H c v l w' :=
 ⟨h.res.same (hb.block _ h.res.lt), h.cur.same (hb.block _ h.cur.lt), owns_below h.row hb (fun _ hg => owns_lt h.row hg), h.low.trans (hb.mono (Nat.le_of_lt h.res.lt))⟩
theorem CiRd.putCc {w : World} {H : Nat} {c : CcD} {v : Value} {l : List ByteArray} {wr : World} (h : CiRd w H c v l wr) (d : CcD) : CiRd w H d v l (putCc wr (H + 1) d) :=
 ⟨h.res.same (putCc_other (by omega)), h.cur.putAll d, owns_same h.row (fun j hj => putCc_other (by have := (own_ltR h.row hj).1; omega)), below_putCc h.low (by omega) d⟩
theorem implCcRead_any (s : ByteArray) (w : World) (hs : s.size ≤ 1048576) :
  Calls Tryz.prog 207 #[.string s] w fun e w' => e = .returned (ccR s).v ∧ Below w.heap.size w w' := by
 obtain ⟨H, hH⟩ := exq (w.heap.size)
 have HW : Hid (w.heap.size = H) := hH.symm
 obtain ⟨W0, hW0⟩ := exq ((w.alloc (.cells cc0.cs 190)).alloc (.cells cc0.cs 190))
 have HA : Hid (CcAt W0 H cc0 ∧ CcAt W0 (H + 1) cc0 ∧ Below H w W0 ∧ W0.heap.size = H + 1 + 1) := by
  have e1 := heap_alloc_new w (.cells cc0.cs 190)
  have e2 := heap_alloc_new (w.alloc (.cells cc0.cs 190)) (.cells cc0.cs 190)
  rw [World.size_alloc] at e2
  refine ⟨?_, ?_, ?_, ?_⟩
  · unfold CcAt; rw [hW0, hH, heap_alloc_old _ _ (by simp)]; exact e1
  · unfold CcAt; rw [hW0, hH]; exact e2
  · rw [hW0, hH]; exact ((Below.refl _ w).alloc (Nat.le_refl _) _).alloc (by simp) _
  · rw [hW0, hH]; simp
 have HW0 : Hid ((w.alloc (.cells #[.bool false, .bool false, .bool false, .bool false, .bool false, .int .i64 0] 190)).alloc (.cells #[.bool false, .bool false, .bool false, .bool false, .bool false, .int .i64 0] 190) = W0) := hW0.symm
 clear hW0
 go_enter Tryz.func207, Tryz.ntmps207
 go_wp2_with fail
 rw [HW0.out, ← hH]
 clear hH
 refine (implSplit_any s _ hs).mono ?_
 rintro e w0 ⟨v, rfl, hown, bb⟩
 rw [HA.out.2.2.2] at hown bb
 obtain ⟨l, hl⟩ := exq (splitL s)
 rw [← hl] at hown
 have HLS : Hid (splitL s = l) := hl.symm
 have HLB : Hid (∀ x ∈ l, x.size ≤ 1048576) := fun x hx => by rw [hl] at hx; have := (splitL_le s).2 x hx; omega
 have hll : l.length ≤ 1048577 := by rw [hl]; have := (splitL_le s).1; omega
 have HS1 : Hid (CiRd w H (ccTo (l.take 0)) v l w0) := ⟨HA.out.1.same (bb.block _ (by omega)), HA.out.2.1.same (bb.block _ (by omega)), hown, HA.out.2.2.1.trans (bb.mono (by omega))⟩
 obtain ⟨oa, cp, rfl⟩ := slice_of_owns hown
 obtain ⟨n, hn⟩ := exq l.length
 have HN : Hid (l.length = n) := hn.symm
 rw [← hn] at hll HS1 ⊢
 clear hown bb hl hn
 go_wp2_with fail
 go_loopw [9] (fun i wr => ∃ k : Nat, k ≤ n ∧ i = .int .i64 (k : Int) ∧ Hid (CiRd w H (ccTo (l.take k)) (.slice oa n cp) l wr)) (fun i _ => n - (intOf i).toNat)
 case atStart => exact ⟨0, Nat.zero_le _, rfl, HS1⟩
 case round =>
  obtain ⟨k, hk, rfl, HS⟩ := hrel
  by_cases hlt : (k : Int) < (n : Int)
  ·
   have hkl : k < l.length := by have := HN.out; omega
   obtain ⟨g, rfl⟩ : ∃ g, oa = some ⟨g, 0, none⟩ := by
    rcases HS.out.row.2 with ⟨e, _⟩ | ⟨g, _, _, e, _⟩
    · injection e with _ e2 _; omega
    · injection e with e1 _ _; exact ⟨g, e1⟩
   obtain ⟨x, hx⟩ := exq (l[k]'hkl)
   have hc0 : wr.cell? ⟨g, k, none⟩ = some (.string x) := by
    have hr := HS.out.row
    rw [HN.out] at hr
    exact (owns_cellC hr k (.string x) (by rw [List.getElem?_map, List.getElem?_eq_getElem hkl, hx]; rfl)).1
   have hxs : x.size ≤ 1048576 := by rw [hx]; exact HLB.out _ (List.getElem_mem hkl)
   obtain ⟨y, hy⟩ := exq (lowerOf x)
   have hys : y.size ≤ 4000000 := by rw [hy, ccLow_size]; omega
   have HY : Hid (lowerOf x = y) := hy.symm
   obtain ⟨d, hd⟩ := exq (ccTo (l.take (k + 1)))
   obtain ⟨c, hc⟩ := exq (ccTo (l.take k))
   obtain ⟨u, hu⟩ := exq (saidB y)
   have HSB : Hid (saidB y = u) := hu.symm
   have HTD : Hid (toge c u = d) := by
    show _ = _
    rw [hd, List.take_succ_eq_append_getElem hkl, ccTo_snoc, ← hx, ← hy, step_toge (ccTo_fit _), hc, hu]
   have HTG : Hid (∀ W, Calls Tryz.prog 214 #[.agg #[.bool c.ns, .bool c.nc, .bool c.pr, .bool c.mu, .bool c.ha, .int .i64 c.age], .agg #[.bool u.ns, .bool u.nc, .bool u.pr, .bool u.mu, .bool u.ha, .int .i64 u.age]] W fun e w' => e = .returned (toge c u).v ∧ Below W.heap.size W w') := fun W => together_any c u W
   have HD : Hid (∀ W, CiRd w H d (.slice (some ⟨g, 0, none⟩) n cp) l W → CiRd w H (ccTo (l.take (k + 1))) (.slice (some ⟨g, 0, none⟩) n cp) l W) := fun W h => by rw [← hd]; exact h
   rw [← hc] at HS
   clear hx hy hkl hc hd hu
   have HT1 : Hid (CiRd w H c (.slice (some ⟨g, 0, none⟩) n cp) l wr.drew) := HS.out.later (Below.refl _ _).drew
   go_upto_region 5 with fail
   clear hc0 HS
   refine wp_region_held_drew (S := fun _ => True) (by kernel_rfl) trivial (fun _ => ?_)
   refine wpAnyH_takeD (i := 1) (v := .string x) (some 14) rfl rfl (by kernel_rfl) (by kernel_rfl) (by kernel_rfl) (fun _ _ _ h => h) (Or.inl ⟨by rfl, by intro W _; go_simp⟩) trivial ?_
   go_frame
   refine wpAnyH_ready (rs := [0, 2]) (by kernel_rfl) (by simp) ?_
   refine AllReadyH.cons rfl (fun K hK => ?_) (AllReadyH.cons rfl (fun K hK => ?_) AllReadyH.nil)
   ·
    obtain ⟨q0, q1, q2, q3, q4, q5⟩ := HT1.out.cur.cells
    go_simp
    refine hK.out _ _ trivial (fun _ => ?_)
    clear hK K q0 q1 q2 q3 q4 q5
    refine rd1 2 rfl (fun K hK => ?_)
    go_simp
    refine (implLower_any x _).mono ?_
    rintro e w2 ⟨rfl, hb2⟩
    rw [HY.out]
    have HT2 : Hid (CiRd w H c (.slice (some ⟨g, 0, none⟩) n cp) l w2) := HT1.out.later hb2
    clear hb2
    refine hK.out _ _ trivial (fun _ => ?_)
    clear hK K HT1
    refine rd1 3 rfl (fun K hK => ?_)
    go_simp
    refine (saidBy_any y _ hys).mono ?_
    rintro e w3 ⟨rfl, hb3⟩
    rw [HSB.out]
    unfold CcD.v
    have HT3 : Hid (CiRd w H c (.slice (some ⟨g, 0, none⟩) n cp) l w3) := HT2.out.later hb3
    clear hb3
    refine hK.out _ _ trivial (fun _ => ?_)
    clear hK K HT2
    refine rd1 4 rfl (fun K hK => ?_)
    go_simp
    refine (HTG.out _).mono ?_
    rintro e w4 ⟨rfl, hb4⟩
    rw [HTD.out]
    unfold CcD.v
    have HT4 : Hid (CiRd w H c (.slice (some ⟨g, 0, none⟩) n cp) l w4) := HT3.out.later hb4
    clear hb4
    refine hK.out _ _ trivial (fun _ => ?_)
    clear hK K HT3
    refine rd1 5 rfl (fun K hK => ?_)
    have HZ : Hid (CiRd w H d (.slice (some ⟨g, 0, none⟩) n cp) l (putCc w4 (H + 1) d)) := HT4.out.putCc d
    obtain ⟨q0, q1, q2, q3, q4, q5⟩ := HT4.out.cur.cells
    have f0 := HT4.out.cur.frozen 0
    have f1 := HT4.out.cur.frozen 1
    have f2 := HT4.out.cur.frozen 2
    have f3 := HT4.out.cur.frozen 3
    have f4 := HT4.out.cur.frozen 4
    have f5 := HT4.out.cur.frozen 5
    unfold putCc at HZ
    clear HT4
    go_simp
    refine hK.out _ _ trivial (fun _ => ?_)
    clear hK K q0 q1 q2 q3 q4 q5 f0 f1 f2 f3 f4 f5
    refine wpAnyH_done (by kernel_rfl) ?_ _
    go_wp2_with fail
    go_roundw
    case rel => exact ⟨k + 1, by omega, by go_num, HD.out _ HZ.out⟩
    case measure => simp [intOf]; omega
   ·
    go_simp
    refine (implLower_any x _).mono ?_
    rintro e w2 ⟨rfl, hb2⟩
    rw [HY.out]
    have HT2 : Hid (CiRd w H c (.slice (some ⟨g, 0, none⟩) n cp) l w2) := HT1.out.later hb2
    clear hb2
    refine hK.out _ _ trivial (fun _ => ?_)
    clear hK K HT1
    refine wpAnyH_ready (rs := [0, 3]) (by kernel_rfl) (by simp) ?_
    refine AllReadyH.cons rfl (fun K hK => ?_) (AllReadyH.cons rfl (fun K hK => ?_) AllReadyH.nil)
    ·
     obtain ⟨q0, q1, q2, q3, q4, q5⟩ := HT2.out.cur.cells
     go_simp
     refine hK.out _ _ trivial (fun _ => ?_)
     clear hK K q0 q1 q2 q3 q4 q5
     refine rd1 3 rfl (fun K hK => ?_)
     go_simp
     refine (saidBy_any y _ hys).mono ?_
     rintro e w3 ⟨rfl, hb3⟩
     rw [HSB.out]
     unfold CcD.v
     have HT3 : Hid (CiRd w H c (.slice (some ⟨g, 0, none⟩) n cp) l w3) := HT2.out.later hb3
     clear hb3
     refine hK.out _ _ trivial (fun _ => ?_)
     clear hK K HT2
     refine rd1 4 rfl (fun K hK => ?_)
     go_simp
     refine (HTG.out _).mono ?_
     rintro e w4 ⟨rfl, hb4⟩
     rw [HTD.out]
     unfold CcD.v
     have HT4 : Hid (CiRd w H c (.slice (some ⟨g, 0, none⟩) n cp) l w4) := HT3.out.later hb4
     clear hb4
     refine hK.out _ _ trivial (fun _ => ?_)
     clear hK K HT3
     refine rd1 5 rfl (fun K hK => ?_)
     have HZ : Hid (CiRd w H d (.slice (some ⟨g, 0, none⟩) n cp) l (putCc w4 (H + 1) d)) := HT4.out.putCc d
     obtain ⟨q0, q1, q2, q3, q4, q5⟩ := HT4.out.cur.cells
     have f0 := HT4.out.cur.frozen 0
     have f1 := HT4.out.cur.frozen 1
     have f2 := HT4.out.cur.frozen 2
     have f3 := HT4.out.cur.frozen 3
     have f4 := HT4.out.cur.frozen 4
     have f5 := HT4.out.cur.frozen 5
     unfold putCc at HZ
     clear HT4
     go_simp
     refine hK.out _ _ trivial (fun _ => ?_)
     clear hK K q0 q1 q2 q3 q4 q5 f0 f1 f2 f3 f4 f5
     refine wpAnyH_done (by kernel_rfl) ?_ _
     go_wp2_with fail
     go_roundw
     case rel => exact ⟨k + 1, by omega, by go_num, HD.out _ HZ.out⟩
     case measure => simp [intOf]; omega
    ·
     go_simp
     refine (saidBy_any y _ hys).mono ?_
     rintro e w3 ⟨rfl, hb3⟩
     rw [HSB.out]
     unfold CcD.v
     have HT3 : Hid (CiRd w H c (.slice (some ⟨g, 0, none⟩) n cp) l w3) := HT2.out.later hb3
     clear hb3
     refine hK.out _ _ trivial (fun _ => ?_)
     clear hK K HT2
     refine rd1 0 rfl (fun K hK => ?_)
     obtain ⟨q0, q1, q2, q3, q4, q5⟩ := HT3.out.cur.cells
     go_simp
     refine hK.out _ _ trivial (fun _ => ?_)
     clear hK K q0 q1 q2 q3 q4 q5
     refine rd1 4 rfl (fun K hK => ?_)
     go_simp
     refine (HTG.out _).mono ?_
     rintro e w4 ⟨rfl, hb4⟩
     rw [HTD.out]
     unfold CcD.v
     have HT4 : Hid (CiRd w H c (.slice (some ⟨g, 0, none⟩) n cp) l w4) := HT3.out.later hb4
     clear hb4
     refine hK.out _ _ trivial (fun _ => ?_)
     clear hK K HT3
     refine rd1 5 rfl (fun K hK => ?_)
     have HZ : Hid (CiRd w H d (.slice (some ⟨g, 0, none⟩) n cp) l (putCc w4 (H + 1) d)) := HT4.out.putCc d
     obtain ⟨q0, q1, q2, q3, q4, q5⟩ := HT4.out.cur.cells
     have f0 := HT4.out.cur.frozen 0
     have f1 := HT4.out.cur.frozen 1
     have f2 := HT4.out.cur.frozen 2
     have f3 := HT4.out.cur.frozen 3
     have f4 := HT4.out.cur.frozen 4
     have f5 := HT4.out.cur.frozen 5
     unfold putCc at HZ
     clear HT4
     go_simp
     refine hK.out _ _ trivial (fun _ => ?_)
     clear hK K q0 q1 q2 q3 q4 q5 f0 f1 f2 f3 f4 f5
     refine wpAnyH_done (by kernel_rfl) ?_ _
     go_wp2_with fail
     go_roundw
     case rel => exact ⟨k + 1, by omega, by go_num, HD.out _ HZ.out⟩
     case measure => simp [intOf]; omega
  ·
   obtain rfl : k = n := by omega
   have HE : Hid (ccTo (l.take k) = ccR s) := by
    show _ = _
    rw [List.take_of_length_le (by rw [HN.out]; exact Nat.le_refl _)]
    unfold ccR
    rw [HLS.out]
   rw [HE.out] at HS
   obtain ⟨c, hc⟩ := exq (ccR s)
   rw [← hc] at HS
   have HC : Hid (c = ccR s) := hc
   obtain ⟨q0, q1, q2, q3, q4, q5⟩ := HS.out.cur.cells
   obtain ⟨r0, r1, r2, r3, r4, r5⟩ := HS.out.res.cells
   have f0 := HS.out.res.frozen 0
   have f1 := HS.out.res.frozen 1
   have f2 := HS.out.res.frozen 2
   have f3 := HS.out.res.frozen 3
   have f4 := HS.out.res.frozen 4
   have f5 := HS.out.res.frozen 5
   obtain ⟨m0, m1, m2, m3, m4, m5⟩ := (HS.out.res.putAll c).cells
   have HB : Hid (Below H w (putCc wr H c)) := below_putCc HS.out.low (Nat.le_refl _) c
   clear hc HE
   unfold putCc at m0 m1 m2 m3 m4 m5 HB
   go_wp2_with fail
   refine bodyPost_ret (v := c.v) (by simp [results, Tryz.results207, go_sem, m0, m1, m2, m3, m4, m5, CcD.v]) rfl ?_
   exact ⟨by rw [HC.out], by rw [HW.out]; exact HB.out⟩
theorem implCcOf_any (v : Value) (n base : Nat) (fs : List (ByteArray × ByteArray)) (w : World) (hv : FieldsV w base v n fs) (hn : n ≤ 1073741824) (hcp : CopyF fs) (hsz : (getV fs ccName).size ≤ 1048576) :
  Calls Tryz.prog 192 #[v] w fun e w' => e = .returned (ccR (getV fs ccName)).v ∧ Below w.heap.size w w' := by
 have hv1 : FieldsV (w.alloc (.cells cc0.cs 190)) base v n fs := hv.below ((Below.refl _ _).alloc (Nat.le_refl _) _)
 have HR0 : Hid (CcAt (w.alloc (.cells cc0.cs 190)) w.heap.size cc0) := heap_alloc_new w _
 have HB0 : Hid (Below w.heap.size w (w.alloc (.cells cc0.cs 190))) := (Below.refl _ _).alloc (Nat.le_refl _) _
 obtain ⟨t, ht⟩ := exq (getV fs ccName)
 have HT : Hid (getV fs ccName = t) := ht.symm
 rw [← ht] at hsz
 obtain ⟨c, hc⟩ := exq (ccR t)
 have HC : Hid (ccR t = c) := hc.symm
 rw [← ht, ← hc]
 clear ht hc hv
 go_enter Tryz.func192, Tryz.ntmps192
 go_wp2_with fail
 refine (implGet_any v n base fs ccName _ hv1 hn hcp).mono ?_
 rintro e w1 ⟨rfl, b1⟩
 rw [HT.out]
 have HR1 : Hid (CcAt w1 w.heap.size cc0) := HR0.out.same (b1.block _ HR0.out.lt)
 have HB1 : Hid (Below w.heap.size w w1) := HB0.out.trans (b1.mono (Nat.le_of_lt HR0.out.lt))
 clear hv1 b1 HR0 HB0
 go_wp2_with fail
 refine (implCcRead_any t _ hsz).mono ?_
 rintro e w2 ⟨rfl, b2⟩
 rw [HC.out]
 have hR := HR1.out.same (b2.block _ HR1.out.lt)
 obtain ⟨r0, r1, r2, r3, r4, r5⟩ := hR.cells
 have f0 := hR.frozen 0
 have f1 := hR.frozen 1
 have f2 := hR.frozen 2
 have f3 := hR.frozen 3
 have f4 := hR.frozen 4
 have f5 := hR.frozen 5
 obtain ⟨m0, m1, m2, m3, m4, m5⟩ := (hR.putAll c).cells
 have HB : Hid (Below w.heap.size w (putCc w2 w.heap.size c)) := below_putCc (HB1.out.trans (b2.mono (Nat.le_of_lt HR1.out.lt))) (Nat.le_refl _) c
 unfold putCc at m0 m1 m2 m3 m4 m5 HB
 clear hR b2 HR1 HB1
 unfold CcD.v
 go_wp2_with fail
 refine bodyPost_ret (v := c.v) (by simp [results, Tryz.results192, go_sem, m0, m1, m2, m3, m4, m5, CcD.v]) rfl ?_
 exact ⟨rfl, HB.out⟩
end Go.Proofs.YtbmhonfgffjpcaaGreat
namespace Go.Proofs.YtbmhonfgffjpcaaGreat
open Go.RowKit
open Go.Lib hiding intOf
theorem isRightGet_any (m : Int) (p : ByteArray) (v : Value) (b : ByteArray) (n base : Nat) (fs : List (ByteArray × ByteArray)) (w : World) (hv : FieldsV w base v n fs) (hn : n ≤ 1073741824) (hsz : WalkF n fs) (hp : p.size ≤ maxLen) (hb : b.size ≤ maxLen) :
  Calls Tryz.prog 191 #[.agg #[.int .i64 m, .string p, v, .string b]] w fun e w' => BoolIs (ReqP m p fs b ∧ m = 1) w e w' := by
 obtain ⟨oa, cap, rfl, _⟩ := hv.slice
 obtain ⟨r, hr⟩ := exq (w.heap.size)
 obtain ⟨W1, hW1⟩ := exq (w.alloc (.cells #[.int .i64 m, .string p, .slice oa n cap, .string b] 62))
 have HW1 : Hid (w.alloc (.cells #[.int .i64 m, .string p, .slice oa n cap, .string b] 62) = W1) := hW1.symm
 have H1 : Hid (W1.heap[r]? = some (.cells #[.int .i64 m, .string p, .slice oa n cap, .string b] 62)) := by show _ = _; rw [hW1, hr]; exact heap_alloc_new w _
 have HB1 : Hid (Below w.heap.size w W1) := by show Below _ _ _; rw [hW1]; exact (Below.refl _ _).alloc (Nat.le_refl _) _
 have hv1 := hv.below HB1.out
 obtain ⟨⟨c0, c1, c2, c3⟩, _⟩ := four_facts H1.out
 clear hW1 hv
 go_enter Tryz.func191, Tryz.ntmps191
 go_upto_region 1 with fail
 rw [HW1.out, ← hr]
 clear hr HW1
 go_wp2_with fail
 refine (implReqOk_any m p _ b n base fs _ hv1 hn hsz hp hb).mono ?_
 rintro e w2 ⟨t, rfl, ht, b2⟩
 have HB2 : Hid (Below w.heap.size w w2) := HB1.out.trans (b2.mono HB1.out.size)
 have H2 : Hid (w2.heap[r]? = some (.cells #[.int .i64 m, .string p, .slice oa n cap, .string b] 62)) := by show _ = _; rw [b2.block r (Array.getElem?_eq_some_iff.1 H1.out).1]; exact H1.out
 clear c0 c1 c2 c3 hv1 H1 HB1 b2
 cases t with
 | false =>
  have HF : Hid (¬ (ReqP m p fs b ∧ m = 1)) := fun h => nomatch ht.2 h.1
  clear ht
  go_wp2_with fail
  go_ret
  exact BoolIs.no HF.out HB2.out
 | true =>
  have HQ : Hid (ReqP m p fs b) := ht.1 rfl
  obtain ⟨⟨c0, _⟩, _⟩ := four_facts H2.out
  have HT : Hid ((m == 1) = true ↔ (ReqP m p fs b ∧ m = 1)) := by show _ ↔ _; simp [HQ.out]
  clear ht HQ H2
  go_wp2_with fail
  go_ret
  exact ⟨_, rfl, HT.out, HB2.out⟩
end Go.Proofs.YtbmhonfgffjpcaaGreat
namespace Go.Proofs.YtbmhonfgffjpcaaGreat
open Go.RowKit
open Go.Lib hiding intOf
theorem mayBeFromHere_any (ma : Int) (pa : ByteArray) (va : Value) (ba : ByteArray) (na basea : Nat) (fsa : List (ByteArray × ByteArray)) (w : World) (hva : FieldsV w basea va na fsa) (hna : na ≤ 1048576) (hsa : WalkF na fsa) (hpa : pa.size ≤ maxLen) (hba : ba.size ≤ maxLen) (hga : ∀ x, (getV fsa x).size ≤ 1048576) (hca : CopyF fsa) :
  Calls Tryz.prog 163 #[.agg #[.int .i64 ma, .string pa, va, .string ba]] w fun e w' => BoolIs (HereP ma pa fsa ba) w e w' := by
 obtain ⟨oa, ca, hsl, _⟩ := hva.slice
 subst hsl
 have HVa : Hid (∀ W, Below w.heap.size w W → FieldsV W basea (.slice oa na ca) na fsa) := fun W h => hva.below h
 have HLFa : Hid (fsa.length = na) := hva.len
 have HSa : Hid (WalkF na fsa) := hsa
 have HPMa : Hid (pa.size ≤ maxLen) := hpa
 have HBMa : Hid (ba.size ≤ maxLen) := hba
 have HQVa : Hid (∀ x, (getV fsa x).size ≤ 1048576) := hga
 have HCa : Hid (CopyF fsa) := hca
 clear hva hsa hpa hba hga hca
 obtain ⟨ka, hka⟩ := exq (ccR (getV fsa ccName))
 have HCCa : Hid (∀ W, Below w.heap.size w W → Calls Tryz.prog 192 #[.slice oa na ca] W fun e w' => e = .returned (.agg #[.bool ka.ns, .bool ka.nc, .bool ka.pr, .bool ka.mu, .bool ka.ha, .int .i64 ka.age]) ∧ Below W.heap.size W w') := fun W hW => by
  have h := implCcOf_any _ na basea fsa W (HVa.out W hW) (by omega) HCa.out (HQVa.out _)
  rw [← hka] at h
  exact h
 have HCKa : Hid (ccR (getV fsa ccName) = ka) := hka.symm
 clear hka
 obtain ⟨xa0, xa1, xa2, xa3, xa4, xa5⟩ := ka
 dsimp only at HCCa
 have hfna := fun W => cc_ns xa0 xa1 xa2 xa3 xa4 xa5 W
 have hfca := fun W => cc_nc xa0 xa1 xa2 xa3 xa4 xa5 W
 have hb0 : Below w.heap.size w w := Below.refl _ _
 go_enter Tryz.func163, Tryz.ntmps163
 go_upto_region 1 with fail
 obtain ⟨qv1, hqv1⟩ := exq ((w).heap.size)
 obtain ⟨w1, hW1⟩ := exq ((w).alloc (.cells #[.int .i64 ma, .string pa, .slice oa na ca, .string ba] 62))
 have hz1 : (w).heap.size = qv1 := hqv1.symm
 first | rw [← hW1, ← hqv1] | rw [← hW1]
 have hs1 := hsa hW1 hz1
 have bw := bal hW1
 have hb1 := hbt hb0 bw
 have HBv1_1 := hnew hW1 hz1
 clear hb0 bw hW1 hz1
 clear hs1 hqv1
 have cv1_0 := (k4c HBv1_1).1
 have cv1_1 := (k4c HBv1_1).2.1
 have cv1_2 := (k4c HBv1_1).2.2.1
 have cv1_3 := (k4c HBv1_1).2.2.2
 go_wp2_with fail
 refine (isRightGet_any ma pa _ ba na basea fsa _ (HVa.out _ hb1) (by omega) HSa.out HPMa.out HBMa.out).mono ?_
 rintro e w2 ⟨rg, rfl, hrg, bw⟩
 have hb2 := hbt hb1 bw
 have HBv1_2 := hblk HBv1_1 bw
 clear hb1 HBv1_1 bw
 clear cv1_0 cv1_1 cv1_2 cv1_3
 cases rg with
 | false =>
  have HNrg : Hid (¬ (ReqP ma pa fsa ba ∧ ma = 1)) := fun h => nomatch hrg.2 h
  clear hrg
  go_wp2_with fail
  go_ret
  exact BoolIs.no (fun h => HNrg.out h.1) hb2
 | true =>
  have HYrg : Hid (ReqP ma pa fsa ba ∧ ma = 1) := hrg.1 rfl
  clear hrg
  have cv1_2 := (k4c HBv1_2).2.2.1
  go_wp2_with fail
  refine (HCCa.out _ hb2).mono ?_
  rintro e w3 ⟨rfl, bw⟩
  have hb3 := hbt hb2 bw
  have HBv1_3 := hblk HBv1_2 bw
  clear hb2 HBv1_2 bw
  clear cv1_2
  cases xa0 with
  | false =>
   have HXNa : Hid ((ccR (getV fsa ccName)).ns = false) := by show _ = _; rw [HCKa.out]
   go_wp2_with fail
   go_ret
   exact BoolIs.yes ⟨HYrg.out, HXNa.out⟩ hb3
  | true =>
   have HXNa : Hid ((ccR (getV fsa ccName)).ns = true) := by show _ = _; rw [HCKa.out]
   go_wp2_with fail
   go_ret
   exact BoolIs.no (fun h => by have h1 := h.2; rw [HXNa.out] at h1; exact absurd h1 (by decide)) hb3
end Go.Proofs.YtbmhonfgffjpcaaGreat
