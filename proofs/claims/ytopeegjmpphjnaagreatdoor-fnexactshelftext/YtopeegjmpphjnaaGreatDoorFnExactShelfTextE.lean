/- What the proof of FnExactShelfText leans on: contracts of the program's and the specification's functions, and plain facts (part 5 of 5). -/
import Derived.Test.YtopeegjmpphjnaaGreatDoorFnExactShelfTextD
set_option maxHeartbeats 16000000
set_option maxRecDepth 100000
namespace Go.Proofs.YtopeegjmpphjnaaGreatDoor
open Go.RowKit
open Go.Lib hiding intOf
theorem guardBan : Tryz.prog.eqGuardType Tryz.prog.depth 111 = false := by kernel_rfl
open Classical in
theorem eqBanIn (k k' : Int) (a a' b b' : Tx) (t t' : Int) (w : World) : (Op.equalIn 10000 111 (.agg #[.int .i64 k, .string a, .string b, .int .i64 t]) (.agg #[.int .i64 k', .string a', .string b', .int .i64 t'])).run Tryz.prog w = .ok (decide (k = k' ∧ a = a' ∧ b = b' ∧ t = t')) w := by
 have u3 := Tryz.underlying3
 have a3 := Tryz.isAgg3
 have z3 := Tryz.sizeOf3
 have u9 := Tryz.underlying9
 have a9 := Tryz.isAgg9
 have z9 := Tryz.sizeOf9
 have hS : Tryz.prog.underlying 111 = some (.struct (Tryz.prog.fieldsOf 111)) := by kernel_rfl
 have hp : Tryz.prog.stoodInHeld 111 = false := by kernel_rfl
 rw [show (10000 : Nat) = 9999 + 1 from rfl, run_equalIn_agg w 9999 111 _ _ hS hp]
 simp only [Program.fieldsOf, Tryz.underlying111]
 have ea : ∀ x y : ByteArray, (x.toList == y.toList) = decide (x = y) := fun x y => by
  by_cases h : x = y
  · rw [decide_eq_true h]; exact (text_beq _ _).2 h
  · rw [decide_eq_false h]; exact text_beq_no h
 go_simp
 by_cases h1 : k = k'
 rotate_left
 · simp [h1]
 by_cases h2 : a = a'
 rotate_left
 · simp [h1, h2]
 by_cases h3 : b = b'
 rotate_left
 · simp [h1, h2, h3]
 by_cases h4 : t = t'
 · simp [h1, h2, h3, h4]
 simp [h1, h2, h3, h4]
open Classical in
theorem eqlBan (k k' : Int) (a a' b b' : Tx) (t t' : Int) (w : World) : (binOp .eql 111 (.agg #[.int .i64 k, .string a, .string b, .int .i64 t]) (.agg #[.int .i64 k', .string a', .string b', .int .i64 t'])).run Tryz.prog w = .ok (.bool (decide (k = k' ∧ a = a' ∧ b = b' ∧ t = t'))) w := by
 rw [run_eql_struct, eqBanIn]
 rfl
theorem implBanOk_1e (a : Tx) (t : Int) (w : World) (ha : a.size ≤ maxLen) :
  Calls Tryz.prog 84 #[.agg #[.int .i64 1, .string a, .string ⟨#[]⟩, .int .i64 t]] w fun e w' => BoolIs (BanP 1 a ⟨#[]⟩ t) w e w' := by
 classical
 have HAM := hid ha
 have hnn : ∀ W : World, (binOp .neq 193 (.iface 237 (.agg #[.string a])) .nilIface).run Tryz.prog W = .ok (.bool true) W := fun _ => by kernel_rfl
 have hna : ∀ W : World, (nilAhead 157 237 (.agg #[.string a]) "loop.example/g00239/impl.right").run Tryz.prog W = .ok (some false) W := fun _ => by kernel_rfl
 have hmt : ∀ W : World, (method 157 237 (.agg #[.string a]) "loop.example/g00239/impl.right").run Tryz.prog W = .ok (275, .agg #[.string a]) W := fun _ => by kernel_rfl
 have hgb := guardBan
 have hqe : ∀ W : World, (binOp .eql 111 (.agg #[.int .i64 1, .string a, .string ⟨#[]⟩, .int .i64 t]) (.agg #[.int .i64 1, .string a, .string ⟨#[]⟩, .int .i64 t])).run Tryz.prog W = .ok (.bool true) W := fun W => by
  rw [eqlBan]
  first | (simp; done) | (have z := HB0.out; simp; exact fun e => z e.symm)
 clear ha
 have hb0 := Below.refl w.heap.size w
 go_enter Tryz.func84, Tryz.ntmps84
 go_upto_region 1 with fail
 obtain ⟨q1, hq1⟩ := exq (w.heap.size)
 obtain ⟨w1, hW1⟩ := exq (w.alloc (.cells #[.int .i64 1, .string a, .string ⟨#[]⟩, .int .i64 t] 111))
 have hz1 := hq1.symm
 rw [← hW1]; try rw [← hq1]
 have hs1 := hsa hW1 hz1
 have bw := bal hW1
 have hb1 := hbt hb0 bw
 have B1_1 := hnew hW1 hz1
 clear hb0 bw hW1 hz1
 clear hs1 hq1
 have c1_0 := (k4c B1_1).1
 have c1_1 := (k4c B1_1).2.1
 have c1_2 := (k4c B1_1).2.2.1
 have c1_3 := (k4c B1_1).2.2.2
 go_wp2_with fail
 refine (ruleOf_1 a ⟨#[]⟩ t _).mono ?_
 rintro e w2 ⟨rfl, bw⟩
 have hb2 := hbt hb1 bw
 have B1_2 := hblk B1_1 bw
 clear hb1 bw
 clear c1_0 c1_1 c1_2 c1_3
 go_upto_region 2 with fail
 refine wp_region_held_drew (S := fun W => W.heap[q1]? = some (.cells #[.int .i64 1, .string a, .string ⟨#[]⟩, .int .i64 t] 111)) (by kernel_rfl) B1_2.out (fun _ => ?_)
 obtain ⟨w3, hX⟩ := exq w2.drew
 have bw := bdr hX
 rw [← hX]
 have hb3 := hbt hb2 bw
 have B1_3 := hblk B1_2 bw
 have hS3 := B1_3.out
 clear hb2 bw hX
 refine tkP 0 (.iface 237 (.agg #[.string a])) 6 rfl rfl hS3 (tkP 1 (.bool true) 7 rfl rfl hS3 (tkP 2 (.bool true) 8 rfl rfl hS3 ?_))
 go_frame
 refine tkP 3 (.iface 237 (.agg #[.string a])) 9 rfl rfl hS3 ?_
 go_frame
 refine rd1 4 rfl (fun K hK => ?_)
 go_simp
 refine (right_1 a _ HAM.out).mono ?_
 rintro e w4 ⟨ur, rfl, htur, bw⟩
 have hb4 := hbt hb3 bw
 have B1_4 := hblk B1_3 bw
 clear hb3 bw
 have hS4 := B1_4.out
 refine hK.out _ _ hS4 (fun _ => ?_)
 clear hK K hS3
 refine tkP 5 (.bool ur) 11 rfl rfl hS4 (tkP 6 (.bool ur) 12 rfl rfl hS4 ?_)
 go_frame
 cases ur
 ·have Hur : Hid (¬ (PathOk a)) := fun h => nomatch htur.2 h
  clear htur
  refine tkN 7 13 rfl rfl hS4 (tkN 8 14 rfl rfl hS4 (tkN 9 15 rfl rfl hS4 ?_))
  go_frame
  refine tkP 10 (.bool false) 16 rfl rfl hS4 (tkP 11 (.bool false) 17 rfl rfl hS4 (tkN 12 18 rfl rfl hS4 ?_))
  go_frame
  refine tkN 13 19 rfl rfl hS4 (tkN 14 20 rfl rfl hS4 (tkN 15 21 rfl rfl hS4 ?_))
  go_frame
  refine tkN 16 22 rfl rfl hS4 (tkN 17 23 rfl rfl hS4 (tkP 18 (.bool false) 24 rfl rfl hS4 ?_))
  go_frame
  refine tkP 19 (.bool false) 2 rfl rfl hS4 ?_
  go_frame
  clear hS4
  refine wdn ?_
  go_wp2_with fail
  go_ret
  refine ⟨false, rfl, ?_, hb4⟩
  have zHur := Hur.out
  unfold BanP
  simp_all
 have Hur : Hid (PathOk a) := htur.1 rfl
 clear htur
 refine tkP 7 (.pointer (some ⟨q1, 3, none⟩)) 13 rfl rfl hS4 ?_
 go_frame
 refine tkL 8 (.int .i64 t) 14 rfl rfl (Or.inl ⟨by rfl, by intro W hW; have hhv1 := hW; have y3 := (cell_of hhv1 3).trans rfl; go_simp⟩) hS4 ?_
 go_frame
 refine rd1 9 rfl (fun K hK => ?_)
 go_simp
 refine (timeOk_any t _).mono ?_
 rintro e w5 ⟨rfl, hwe⟩
 have bw : Below w4.heap.size (w4) w5 := by rw [hwe]; exact Below.refl _ _
 clear hwe
 obtain ⟨ut, hut⟩ : ∃ u, u = decide ((0 : Int) ≤ t ∧ t ≤ 1000000) := ⟨_, rfl⟩
 rw [← hut]
 have hb5 := hbt hb4 bw
 have B1_5 := hblk B1_4 bw
 clear hb4 bw
 have hS5 := B1_5.out
 refine hK.out _ _ hS5 (fun _ => ?_)
 clear hK K hS4
 refine tkP 10 (.bool ut) 16 rfl rfl hS5 (tkP 11 (.bool ut) 17 rfl rfl hS5 ?_)
 go_frame
 cases ut
 ·have Hut : Hid (¬ (0 ≤ t ∧ t ≤ 1000000)) := (show ¬ (0 ≤ t ∧ t ≤ 1000000) from of_decide_eq_false hut.symm)
  clear hut
  refine tkN 12 18 rfl rfl hS5 (tkN 13 19 rfl rfl hS5 (tkN 14 20 rfl rfl hS5 ?_))
  go_frame
  refine tkN 15 21 rfl rfl hS5 (tkN 16 22 rfl rfl hS5 (tkN 17 23 rfl rfl hS5 ?_))
  go_frame
  refine tkP 18 (.bool false) 24 rfl rfl hS5 (tkP 19 (.bool false) 2 rfl rfl hS5 ?_)
  go_frame
  clear hS5
  refine wdn ?_
  go_wp2_with fail
  go_ret
  refine ⟨false, rfl, ?_, hb5⟩
  have zHur := Hur.out
  have zHut := Hut.out
  unfold BanP
  simp_all
 have Hut : Hid (0 ≤ t ∧ t ≤ 1000000) := (show 0 ≤ t ∧ t ≤ 1000000 from of_decide_eq_true hut.symm)
 clear hut
 refine tkP 12 (.iface 237 (.agg #[.string a])) 18 rfl rfl hS5 (tkP 13 (.pointer (some ⟨q1, 3, none⟩)) 19 rfl rfl hS5 ?_)
 go_frame
 refine tkL 14 (.int .i64 t) 20 rfl rfl (Or.inl ⟨by rfl, by intro W hW; have hhv1 := hW; have y3 := (cell_of hhv1 3).trans rfl; go_simp⟩) hS5 ?_
 go_frame
 refine tkL 16 (.agg #[.int .i64 1, .string a, .string ⟨#[]⟩, .int .i64 t]) 22 rfl rfl (Or.inl ⟨by rfl, by intro W hW; have hhv1 := hW; have y0 := (cell_of hhv1 0).trans rfl; have y1 := (cell_of hhv1 1).trans rfl; have y2 := (cell_of hhv1 2).trans rfl; have y3 := (cell_of hhv1 3).trans rfl; go_simp⟩) hS5 ?_
 go_frame
 refine rd1 15 rfl (fun K hK => ?_)
 go_simp
 refine (banOf_1 a t _).mono ?_
 rintro e w6 ⟨rfl, bw⟩
 have hb6 := hbt hb5 bw
 have B1_6 := hblk B1_5 bw
 clear hb5 bw
 have hS6 := B1_6.out
 refine hK.out _ _ hS6 (fun _ => ?_)
 clear hK K hS5
 refine tkP 17 (.bool true) 23 rfl rfl hS6 (tkP 18 (.bool true) 24 rfl rfl hS6 (tkP 19 (.bool true) 2 rfl rfl hS6 ?_))
 go_frame
 clear hS6
 refine wdn ?_
 go_wp2_with fail
 go_ret
 refine ⟨true, rfl, ?_, hb6⟩
 have zHur := Hur.out
 have zHut := Hut.out
 unfold BanP
 simp_all
theorem implBanOk_1n (a b : Tx) (t : Int) (w : World) (ha : a.size ≤ maxLen) (hb0 : ¬ b = ⟨#[]⟩) :
  Calls Tryz.prog 84 #[.agg #[.int .i64 1, .string a, .string b, .int .i64 t]] w fun e w' => BoolIs (BanP 1 a b t) w e w' := by
 classical
 have HAM := hid ha
 have HB0 := hid hb0
 have hnn : ∀ W : World, (binOp .neq 193 (.iface 237 (.agg #[.string a])) .nilIface).run Tryz.prog W = .ok (.bool true) W := fun _ => by kernel_rfl
 have hna : ∀ W : World, (nilAhead 157 237 (.agg #[.string a]) "loop.example/g00239/impl.right").run Tryz.prog W = .ok (some false) W := fun _ => by kernel_rfl
 have hmt : ∀ W : World, (method 157 237 (.agg #[.string a]) "loop.example/g00239/impl.right").run Tryz.prog W = .ok (275, .agg #[.string a]) W := fun _ => by kernel_rfl
 have hgb := guardBan
 have hqe : ∀ W : World, (binOp .eql 111 (.agg #[.int .i64 1, .string a, .string ⟨#[]⟩, .int .i64 t]) (.agg #[.int .i64 1, .string a, .string b, .int .i64 t])).run Tryz.prog W = .ok (.bool false) W := fun W => by
  rw [eqlBan]
  first | (simp; done) | (have z := HB0.out; simp; exact fun e => z e.symm)
 clear ha hb0
 have hb0 := Below.refl w.heap.size w
 go_enter Tryz.func84, Tryz.ntmps84
 go_upto_region 1 with fail
 obtain ⟨q1, hq1⟩ := exq (w.heap.size)
 obtain ⟨w1, hW1⟩ := exq (w.alloc (.cells #[.int .i64 1, .string a, .string b, .int .i64 t] 111))
 have hz1 := hq1.symm
 rw [← hW1]; try rw [← hq1]
 have hs1 := hsa hW1 hz1
 have bw := bal hW1
 have hb1 := hbt hb0 bw
 have B1_1 := hnew hW1 hz1
 clear hb0 bw hW1 hz1
 clear hs1 hq1
 have c1_0 := (k4c B1_1).1
 have c1_1 := (k4c B1_1).2.1
 have c1_2 := (k4c B1_1).2.2.1
 have c1_3 := (k4c B1_1).2.2.2
 go_wp2_with fail
 refine (ruleOf_1 a b t _).mono ?_
 rintro e w2 ⟨rfl, bw⟩
 have hb2 := hbt hb1 bw
 have B1_2 := hblk B1_1 bw
 clear hb1 bw
 clear c1_0 c1_1 c1_2 c1_3
 go_upto_region 2 with fail
 refine wp_region_held_drew (S := fun W => W.heap[q1]? = some (.cells #[.int .i64 1, .string a, .string b, .int .i64 t] 111)) (by kernel_rfl) B1_2.out (fun _ => ?_)
 obtain ⟨w3, hX⟩ := exq w2.drew
 have bw := bdr hX
 rw [← hX]
 have hb3 := hbt hb2 bw
 have B1_3 := hblk B1_2 bw
 have hS3 := B1_3.out
 clear hb2 bw hX
 refine tkP 0 (.iface 237 (.agg #[.string a])) 6 rfl rfl hS3 (tkP 1 (.bool true) 7 rfl rfl hS3 (tkP 2 (.bool true) 8 rfl rfl hS3 ?_))
 go_frame
 refine tkP 3 (.iface 237 (.agg #[.string a])) 9 rfl rfl hS3 ?_
 go_frame
 refine rd1 4 rfl (fun K hK => ?_)
 go_simp
 refine (right_1 a _ HAM.out).mono ?_
 rintro e w4 ⟨ur, rfl, htur, bw⟩
 have hb4 := hbt hb3 bw
 have B1_4 := hblk B1_3 bw
 clear hb3 bw
 have hS4 := B1_4.out
 refine hK.out _ _ hS4 (fun _ => ?_)
 clear hK K hS3
 refine tkP 5 (.bool ur) 11 rfl rfl hS4 (tkP 6 (.bool ur) 12 rfl rfl hS4 ?_)
 go_frame
 cases ur
 ·have Hur : Hid (¬ (PathOk a)) := fun h => nomatch htur.2 h
  clear htur
  refine tkN 7 13 rfl rfl hS4 (tkN 8 14 rfl rfl hS4 (tkN 9 15 rfl rfl hS4 ?_))
  go_frame
  refine tkP 10 (.bool false) 16 rfl rfl hS4 (tkP 11 (.bool false) 17 rfl rfl hS4 (tkN 12 18 rfl rfl hS4 ?_))
  go_frame
  refine tkN 13 19 rfl rfl hS4 (tkN 14 20 rfl rfl hS4 (tkN 15 21 rfl rfl hS4 ?_))
  go_frame
  refine tkN 16 22 rfl rfl hS4 (tkN 17 23 rfl rfl hS4 (tkP 18 (.bool false) 24 rfl rfl hS4 ?_))
  go_frame
  refine tkP 19 (.bool false) 2 rfl rfl hS4 ?_
  go_frame
  clear hS4
  refine wdn ?_
  go_wp2_with fail
  go_ret
  refine ⟨false, rfl, ?_, hb4⟩
  have zHur := Hur.out
  have zHB := HB0.out
  unfold BanP
  simp_all
 have Hur : Hid (PathOk a) := htur.1 rfl
 clear htur
 refine tkP 7 (.pointer (some ⟨q1, 3, none⟩)) 13 rfl rfl hS4 ?_
 go_frame
 refine tkL 8 (.int .i64 t) 14 rfl rfl (Or.inl ⟨by rfl, by intro W hW; have hhv1 := hW; have y3 := (cell_of hhv1 3).trans rfl; go_simp⟩) hS4 ?_
 go_frame
 refine rd1 9 rfl (fun K hK => ?_)
 go_simp
 refine (timeOk_any t _).mono ?_
 rintro e w5 ⟨rfl, hwe⟩
 have bw : Below w4.heap.size (w4) w5 := by rw [hwe]; exact Below.refl _ _
 clear hwe
 obtain ⟨ut, hut⟩ : ∃ u, u = decide ((0 : Int) ≤ t ∧ t ≤ 1000000) := ⟨_, rfl⟩
 rw [← hut]
 have hb5 := hbt hb4 bw
 have B1_5 := hblk B1_4 bw
 clear hb4 bw
 have hS5 := B1_5.out
 refine hK.out _ _ hS5 (fun _ => ?_)
 clear hK K hS4
 refine tkP 10 (.bool ut) 16 rfl rfl hS5 (tkP 11 (.bool ut) 17 rfl rfl hS5 ?_)
 go_frame
 cases ut
 ·have Hut : Hid (¬ (0 ≤ t ∧ t ≤ 1000000)) := (show ¬ (0 ≤ t ∧ t ≤ 1000000) from of_decide_eq_false hut.symm)
  clear hut
  refine tkN 12 18 rfl rfl hS5 (tkN 13 19 rfl rfl hS5 (tkN 14 20 rfl rfl hS5 ?_))
  go_frame
  refine tkN 15 21 rfl rfl hS5 (tkN 16 22 rfl rfl hS5 (tkN 17 23 rfl rfl hS5 ?_))
  go_frame
  refine tkP 18 (.bool false) 24 rfl rfl hS5 (tkP 19 (.bool false) 2 rfl rfl hS5 ?_)
  go_frame
  clear hS5
  refine wdn ?_
  go_wp2_with fail
  go_ret
  refine ⟨false, rfl, ?_, hb5⟩
  have zHur := Hur.out
  have zHut := Hut.out
  have zHB := HB0.out
  unfold BanP
  simp_all
 have Hut : Hid (0 ≤ t ∧ t ≤ 1000000) := (show 0 ≤ t ∧ t ≤ 1000000 from of_decide_eq_true hut.symm)
 clear hut
 refine tkP 12 (.iface 237 (.agg #[.string a])) 18 rfl rfl hS5 (tkP 13 (.pointer (some ⟨q1, 3, none⟩)) 19 rfl rfl hS5 ?_)
 go_frame
 refine tkL 14 (.int .i64 t) 20 rfl rfl (Or.inl ⟨by rfl, by intro W hW; have hhv1 := hW; have y3 := (cell_of hhv1 3).trans rfl; go_simp⟩) hS5 ?_
 go_frame
 refine tkL 16 (.agg #[.int .i64 1, .string a, .string b, .int .i64 t]) 22 rfl rfl (Or.inl ⟨by rfl, by intro W hW; have hhv1 := hW; have y0 := (cell_of hhv1 0).trans rfl; have y1 := (cell_of hhv1 1).trans rfl; have y2 := (cell_of hhv1 2).trans rfl; have y3 := (cell_of hhv1 3).trans rfl; go_simp⟩) hS5 ?_
 go_frame
 refine rd1 15 rfl (fun K hK => ?_)
 go_simp
 refine (banOf_1 a t _).mono ?_
 rintro e w6 ⟨rfl, bw⟩
 have hb6 := hbt hb5 bw
 have B1_6 := hblk B1_5 bw
 clear hb5 bw
 have hS6 := B1_6.out
 refine hK.out _ _ hS6 (fun _ => ?_)
 clear hK K hS5
 refine tkP 17 (.bool false) 23 rfl rfl hS6 (tkP 18 (.bool false) 24 rfl rfl hS6 (tkP 19 (.bool false) 2 rfl rfl hS6 ?_))
 go_frame
 clear hS6
 refine wdn ?_
 go_wp2_with fail
 go_ret
 refine ⟨false, rfl, ?_, hb6⟩
 have zHur := Hur.out
 have zHut := Hut.out
 have zHB := HB0.out
 unfold BanP
 simp_all
theorem implBanOk_2e (a : Tx) (t : Int) (w : World) (ha : a.size ≤ maxLen) :
  Calls Tryz.prog 84 #[.agg #[.int .i64 2, .string a, .string ⟨#[]⟩, .int .i64 t]] w fun e w' => BoolIs (BanP 2 a ⟨#[]⟩ t) w e w' := by
 classical
 have HAM := hid ha
 have hnn : ∀ W : World, (binOp .neq 193 (.iface 239 (.agg #[.string a])) .nilIface).run Tryz.prog W = .ok (.bool true) W := fun _ => by kernel_rfl
 have hna : ∀ W : World, (nilAhead 157 239 (.agg #[.string a]) "loop.example/g00239/impl.right").run Tryz.prog W = .ok (some false) W := fun _ => by kernel_rfl
 have hmt : ∀ W : World, (method 157 239 (.agg #[.string a]) "loop.example/g00239/impl.right").run Tryz.prog W = .ok (277, .agg #[.string a]) W := fun _ => by kernel_rfl
 have hgb := guardBan
 have hqe : ∀ W : World, (binOp .eql 111 (.agg #[.int .i64 2, .string a, .string ⟨#[]⟩, .int .i64 t]) (.agg #[.int .i64 2, .string a, .string ⟨#[]⟩, .int .i64 t])).run Tryz.prog W = .ok (.bool true) W := fun W => by
  rw [eqlBan]
  first | (simp; done) | (have z := HB0.out; simp; exact fun e => z e.symm)
 clear ha
 have hb0 := Below.refl w.heap.size w
 go_enter Tryz.func84, Tryz.ntmps84
 go_upto_region 1 with fail
 obtain ⟨q1, hq1⟩ := exq (w.heap.size)
 obtain ⟨w1, hW1⟩ := exq (w.alloc (.cells #[.int .i64 2, .string a, .string ⟨#[]⟩, .int .i64 t] 111))
 have hz1 := hq1.symm
 rw [← hW1]; try rw [← hq1]
 have hs1 := hsa hW1 hz1
 have bw := bal hW1
 have hb1 := hbt hb0 bw
 have B1_1 := hnew hW1 hz1
 clear hb0 bw hW1 hz1
 clear hs1 hq1
 have c1_0 := (k4c B1_1).1
 have c1_1 := (k4c B1_1).2.1
 have c1_2 := (k4c B1_1).2.2.1
 have c1_3 := (k4c B1_1).2.2.2
 go_wp2_with fail
 refine (ruleOf_2 a ⟨#[]⟩ t _).mono ?_
 rintro e w2 ⟨rfl, bw⟩
 have hb2 := hbt hb1 bw
 have B1_2 := hblk B1_1 bw
 clear hb1 bw
 clear c1_0 c1_1 c1_2 c1_3
 go_upto_region 2 with fail
 refine wp_region_held_drew (S := fun W => W.heap[q1]? = some (.cells #[.int .i64 2, .string a, .string ⟨#[]⟩, .int .i64 t] 111)) (by kernel_rfl) B1_2.out (fun _ => ?_)
 obtain ⟨w3, hX⟩ := exq w2.drew
 have bw := bdr hX
 rw [← hX]
 have hb3 := hbt hb2 bw
 have B1_3 := hblk B1_2 bw
 have hS3 := B1_3.out
 clear hb2 bw hX
 refine tkP 0 (.iface 239 (.agg #[.string a])) 6 rfl rfl hS3 (tkP 1 (.bool true) 7 rfl rfl hS3 (tkP 2 (.bool true) 8 rfl rfl hS3 ?_))
 go_frame
 refine tkP 3 (.iface 239 (.agg #[.string a])) 9 rfl rfl hS3 ?_
 go_frame
 refine rd1 4 rfl (fun K hK => ?_)
 go_simp
 refine (right_2 a _ HAM.out).mono ?_
 rintro e w4 ⟨ur, rfl, htur, bw⟩
 have hb4 := hbt hb3 bw
 have B1_4 := hblk B1_3 bw
 clear hb3 bw
 have hS4 := B1_4.out
 refine hK.out _ _ hS4 (fun _ => ?_)
 clear hK K hS3
 refine tkP 5 (.bool ur) 11 rfl rfl hS4 (tkP 6 (.bool ur) 12 rfl rfl hS4 ?_)
 go_frame
 cases ur
 ·have Hur : Hid (¬ (PathOk a)) := fun h => nomatch htur.2 h
  clear htur
  refine tkN 7 13 rfl rfl hS4 (tkN 8 14 rfl rfl hS4 (tkN 9 15 rfl rfl hS4 ?_))
  go_frame
  refine tkP 10 (.bool false) 16 rfl rfl hS4 (tkP 11 (.bool false) 17 rfl rfl hS4 (tkN 12 18 rfl rfl hS4 ?_))
  go_frame
  refine tkN 13 19 rfl rfl hS4 (tkN 14 20 rfl rfl hS4 (tkN 15 21 rfl rfl hS4 ?_))
  go_frame
  refine tkN 16 22 rfl rfl hS4 (tkN 17 23 rfl rfl hS4 (tkP 18 (.bool false) 24 rfl rfl hS4 ?_))
  go_frame
  refine tkP 19 (.bool false) 2 rfl rfl hS4 ?_
  go_frame
  clear hS4
  refine wdn ?_
  go_wp2_with fail
  go_ret
  refine ⟨false, rfl, ?_, hb4⟩
  have zHur := Hur.out
  unfold BanP
  simp_all
 have Hur : Hid (PathOk a) := htur.1 rfl
 clear htur
 refine tkP 7 (.pointer (some ⟨q1, 3, none⟩)) 13 rfl rfl hS4 ?_
 go_frame
 refine tkL 8 (.int .i64 t) 14 rfl rfl (Or.inl ⟨by rfl, by intro W hW; have hhv1 := hW; have y3 := (cell_of hhv1 3).trans rfl; go_simp⟩) hS4 ?_
 go_frame
 refine rd1 9 rfl (fun K hK => ?_)
 go_simp
 refine (timeOk_any t _).mono ?_
 rintro e w5 ⟨rfl, hwe⟩
 have bw : Below w4.heap.size (w4) w5 := by rw [hwe]; exact Below.refl _ _
 clear hwe
 obtain ⟨ut, hut⟩ : ∃ u, u = decide ((0 : Int) ≤ t ∧ t ≤ 1000000) := ⟨_, rfl⟩
 rw [← hut]
 have hb5 := hbt hb4 bw
 have B1_5 := hblk B1_4 bw
 clear hb4 bw
 have hS5 := B1_5.out
 refine hK.out _ _ hS5 (fun _ => ?_)
 clear hK K hS4
 refine tkP 10 (.bool ut) 16 rfl rfl hS5 (tkP 11 (.bool ut) 17 rfl rfl hS5 ?_)
 go_frame
 cases ut
 ·have Hut : Hid (¬ (0 ≤ t ∧ t ≤ 1000000)) := (show ¬ (0 ≤ t ∧ t ≤ 1000000) from of_decide_eq_false hut.symm)
  clear hut
  refine tkN 12 18 rfl rfl hS5 (tkN 13 19 rfl rfl hS5 (tkN 14 20 rfl rfl hS5 ?_))
  go_frame
  refine tkN 15 21 rfl rfl hS5 (tkN 16 22 rfl rfl hS5 (tkN 17 23 rfl rfl hS5 ?_))
  go_frame
  refine tkP 18 (.bool false) 24 rfl rfl hS5 (tkP 19 (.bool false) 2 rfl rfl hS5 ?_)
  go_frame
  clear hS5
  refine wdn ?_
  go_wp2_with fail
  go_ret
  refine ⟨false, rfl, ?_, hb5⟩
  have zHur := Hur.out
  have zHut := Hut.out
  unfold BanP
  simp_all
 have Hut : Hid (0 ≤ t ∧ t ≤ 1000000) := (show 0 ≤ t ∧ t ≤ 1000000 from of_decide_eq_true hut.symm)
 clear hut
 refine tkP 12 (.iface 239 (.agg #[.string a])) 18 rfl rfl hS5 (tkP 13 (.pointer (some ⟨q1, 3, none⟩)) 19 rfl rfl hS5 ?_)
 go_frame
 refine tkL 14 (.int .i64 t) 20 rfl rfl (Or.inl ⟨by rfl, by intro W hW; have hhv1 := hW; have y3 := (cell_of hhv1 3).trans rfl; go_simp⟩) hS5 ?_
 go_frame
 refine tkL 16 (.agg #[.int .i64 2, .string a, .string ⟨#[]⟩, .int .i64 t]) 22 rfl rfl (Or.inl ⟨by rfl, by intro W hW; have hhv1 := hW; have y0 := (cell_of hhv1 0).trans rfl; have y1 := (cell_of hhv1 1).trans rfl; have y2 := (cell_of hhv1 2).trans rfl; have y3 := (cell_of hhv1 3).trans rfl; go_simp⟩) hS5 ?_
 go_frame
 refine rd1 15 rfl (fun K hK => ?_)
 go_simp
 refine (banOf_2 a t _).mono ?_
 rintro e w6 ⟨rfl, bw⟩
 have hb6 := hbt hb5 bw
 have B1_6 := hblk B1_5 bw
 clear hb5 bw
 have hS6 := B1_6.out
 refine hK.out _ _ hS6 (fun _ => ?_)
 clear hK K hS5
 refine tkP 17 (.bool true) 23 rfl rfl hS6 (tkP 18 (.bool true) 24 rfl rfl hS6 (tkP 19 (.bool true) 2 rfl rfl hS6 ?_))
 go_frame
 clear hS6
 refine wdn ?_
 go_wp2_with fail
 go_ret
 refine ⟨true, rfl, ?_, hb6⟩
 have zHur := Hur.out
 have zHut := Hut.out
 unfold BanP
 simp_all
theorem implBanOk_2n (a b : Tx) (t : Int) (w : World) (ha : a.size ≤ maxLen) (hb0 : ¬ b = ⟨#[]⟩) :
  Calls Tryz.prog 84 #[.agg #[.int .i64 2, .string a, .string b, .int .i64 t]] w fun e w' => BoolIs (BanP 2 a b t) w e w' := by
 classical
 have HAM := hid ha
 have HB0 := hid hb0
 have hnn : ∀ W : World, (binOp .neq 193 (.iface 239 (.agg #[.string a])) .nilIface).run Tryz.prog W = .ok (.bool true) W := fun _ => by kernel_rfl
 have hna : ∀ W : World, (nilAhead 157 239 (.agg #[.string a]) "loop.example/g00239/impl.right").run Tryz.prog W = .ok (some false) W := fun _ => by kernel_rfl
 have hmt : ∀ W : World, (method 157 239 (.agg #[.string a]) "loop.example/g00239/impl.right").run Tryz.prog W = .ok (277, .agg #[.string a]) W := fun _ => by kernel_rfl
 have hgb := guardBan
 have hqe : ∀ W : World, (binOp .eql 111 (.agg #[.int .i64 2, .string a, .string ⟨#[]⟩, .int .i64 t]) (.agg #[.int .i64 2, .string a, .string b, .int .i64 t])).run Tryz.prog W = .ok (.bool false) W := fun W => by
  rw [eqlBan]
  first | (simp; done) | (have z := HB0.out; simp; exact fun e => z e.symm)
 clear ha hb0
 have hb0 := Below.refl w.heap.size w
 go_enter Tryz.func84, Tryz.ntmps84
 go_upto_region 1 with fail
 obtain ⟨q1, hq1⟩ := exq (w.heap.size)
 obtain ⟨w1, hW1⟩ := exq (w.alloc (.cells #[.int .i64 2, .string a, .string b, .int .i64 t] 111))
 have hz1 := hq1.symm
 rw [← hW1]; try rw [← hq1]
 have hs1 := hsa hW1 hz1
 have bw := bal hW1
 have hb1 := hbt hb0 bw
 have B1_1 := hnew hW1 hz1
 clear hb0 bw hW1 hz1
 clear hs1 hq1
 have c1_0 := (k4c B1_1).1
 have c1_1 := (k4c B1_1).2.1
 have c1_2 := (k4c B1_1).2.2.1
 have c1_3 := (k4c B1_1).2.2.2
 go_wp2_with fail
 refine (ruleOf_2 a b t _).mono ?_
 rintro e w2 ⟨rfl, bw⟩
 have hb2 := hbt hb1 bw
 have B1_2 := hblk B1_1 bw
 clear hb1 bw
 clear c1_0 c1_1 c1_2 c1_3
 go_upto_region 2 with fail
 refine wp_region_held_drew (S := fun W => W.heap[q1]? = some (.cells #[.int .i64 2, .string a, .string b, .int .i64 t] 111)) (by kernel_rfl) B1_2.out (fun _ => ?_)
 obtain ⟨w3, hX⟩ := exq w2.drew
 have bw := bdr hX
 rw [← hX]
 have hb3 := hbt hb2 bw
 have B1_3 := hblk B1_2 bw
 have hS3 := B1_3.out
 clear hb2 bw hX
 refine tkP 0 (.iface 239 (.agg #[.string a])) 6 rfl rfl hS3 (tkP 1 (.bool true) 7 rfl rfl hS3 (tkP 2 (.bool true) 8 rfl rfl hS3 ?_))
 go_frame
 refine tkP 3 (.iface 239 (.agg #[.string a])) 9 rfl rfl hS3 ?_
 go_frame
 refine rd1 4 rfl (fun K hK => ?_)
 go_simp
 refine (right_2 a _ HAM.out).mono ?_
 rintro e w4 ⟨ur, rfl, htur, bw⟩
 have hb4 := hbt hb3 bw
 have B1_4 := hblk B1_3 bw
 clear hb3 bw
 have hS4 := B1_4.out
 refine hK.out _ _ hS4 (fun _ => ?_)
 clear hK K hS3
 refine tkP 5 (.bool ur) 11 rfl rfl hS4 (tkP 6 (.bool ur) 12 rfl rfl hS4 ?_)
 go_frame
 cases ur
 ·have Hur : Hid (¬ (PathOk a)) := fun h => nomatch htur.2 h
  clear htur
  refine tkN 7 13 rfl rfl hS4 (tkN 8 14 rfl rfl hS4 (tkN 9 15 rfl rfl hS4 ?_))
  go_frame
  refine tkP 10 (.bool false) 16 rfl rfl hS4 (tkP 11 (.bool false) 17 rfl rfl hS4 (tkN 12 18 rfl rfl hS4 ?_))
  go_frame
  refine tkN 13 19 rfl rfl hS4 (tkN 14 20 rfl rfl hS4 (tkN 15 21 rfl rfl hS4 ?_))
  go_frame
  refine tkN 16 22 rfl rfl hS4 (tkN 17 23 rfl rfl hS4 (tkP 18 (.bool false) 24 rfl rfl hS4 ?_))
  go_frame
  refine tkP 19 (.bool false) 2 rfl rfl hS4 ?_
  go_frame
  clear hS4
  refine wdn ?_
  go_wp2_with fail
  go_ret
  refine ⟨false, rfl, ?_, hb4⟩
  have zHur := Hur.out
  have zHB := HB0.out
  unfold BanP
  simp_all
 have Hur : Hid (PathOk a) := htur.1 rfl
 clear htur
 refine tkP 7 (.pointer (some ⟨q1, 3, none⟩)) 13 rfl rfl hS4 ?_
 go_frame
 refine tkL 8 (.int .i64 t) 14 rfl rfl (Or.inl ⟨by rfl, by intro W hW; have hhv1 := hW; have y3 := (cell_of hhv1 3).trans rfl; go_simp⟩) hS4 ?_
 go_frame
 refine rd1 9 rfl (fun K hK => ?_)
 go_simp
 refine (timeOk_any t _).mono ?_
 rintro e w5 ⟨rfl, hwe⟩
 have bw : Below w4.heap.size (w4) w5 := by rw [hwe]; exact Below.refl _ _
 clear hwe
 obtain ⟨ut, hut⟩ : ∃ u, u = decide ((0 : Int) ≤ t ∧ t ≤ 1000000) := ⟨_, rfl⟩
 rw [← hut]
 have hb5 := hbt hb4 bw
 have B1_5 := hblk B1_4 bw
 clear hb4 bw
 have hS5 := B1_5.out
 refine hK.out _ _ hS5 (fun _ => ?_)
 clear hK K hS4
 refine tkP 10 (.bool ut) 16 rfl rfl hS5 (tkP 11 (.bool ut) 17 rfl rfl hS5 ?_)
 go_frame
 cases ut
 ·have Hut : Hid (¬ (0 ≤ t ∧ t ≤ 1000000)) := (show ¬ (0 ≤ t ∧ t ≤ 1000000) from of_decide_eq_false hut.symm)
  clear hut
  refine tkN 12 18 rfl rfl hS5 (tkN 13 19 rfl rfl hS5 (tkN 14 20 rfl rfl hS5 ?_))
  go_frame
  refine tkN 15 21 rfl rfl hS5 (tkN 16 22 rfl rfl hS5 (tkN 17 23 rfl rfl hS5 ?_))
  go_frame
  refine tkP 18 (.bool false) 24 rfl rfl hS5 (tkP 19 (.bool false) 2 rfl rfl hS5 ?_)
  go_frame
  clear hS5
  refine wdn ?_
  go_wp2_with fail
  go_ret
  refine ⟨false, rfl, ?_, hb5⟩
  have zHur := Hur.out
  have zHut := Hut.out
  have zHB := HB0.out
  unfold BanP
  simp_all
 have Hut : Hid (0 ≤ t ∧ t ≤ 1000000) := (show 0 ≤ t ∧ t ≤ 1000000 from of_decide_eq_true hut.symm)
 clear hut
 refine tkP 12 (.iface 239 (.agg #[.string a])) 18 rfl rfl hS5 (tkP 13 (.pointer (some ⟨q1, 3, none⟩)) 19 rfl rfl hS5 ?_)
 go_frame
 refine tkL 14 (.int .i64 t) 20 rfl rfl (Or.inl ⟨by rfl, by intro W hW; have hhv1 := hW; have y3 := (cell_of hhv1 3).trans rfl; go_simp⟩) hS5 ?_
 go_frame
 refine tkL 16 (.agg #[.int .i64 2, .string a, .string b, .int .i64 t]) 22 rfl rfl (Or.inl ⟨by rfl, by intro W hW; have hhv1 := hW; have y0 := (cell_of hhv1 0).trans rfl; have y1 := (cell_of hhv1 1).trans rfl; have y2 := (cell_of hhv1 2).trans rfl; have y3 := (cell_of hhv1 3).trans rfl; go_simp⟩) hS5 ?_
 go_frame
 refine rd1 15 rfl (fun K hK => ?_)
 go_simp
 refine (banOf_2 a t _).mono ?_
 rintro e w6 ⟨rfl, bw⟩
 have hb6 := hbt hb5 bw
 have B1_6 := hblk B1_5 bw
 clear hb5 bw
 have hS6 := B1_6.out
 refine hK.out _ _ hS6 (fun _ => ?_)
 clear hK K hS5
 refine tkP 17 (.bool false) 23 rfl rfl hS6 (tkP 18 (.bool false) 24 rfl rfl hS6 (tkP 19 (.bool false) 2 rfl rfl hS6 ?_))
 go_frame
 clear hS6
 refine wdn ?_
 go_wp2_with fail
 go_ret
 refine ⟨false, rfl, ?_, hb6⟩
 have zHur := Hur.out
 have zHut := Hut.out
 have zHB := HB0.out
 unfold BanP
 simp_all
theorem implBanOk_3 (a b : Tx) (t : Int) (w : World) (ha : a.size ≤ maxLen) (hb : b.size ≤ maxLen) :
  Calls Tryz.prog 84 #[.agg #[.int .i64 3, .string a, .string b, .int .i64 t]] w fun e w' => BoolIs (BanP 3 a b t) w e w' := by
 classical
 have HAM := hid ha
 have HBM := hid hb
 have hnn : ∀ W : World, (binOp .neq 193 (.iface 241 (.agg #[.string a, .string b])) .nilIface).run Tryz.prog W = .ok (.bool true) W := fun _ => by kernel_rfl
 have hna : ∀ W : World, (nilAhead 157 241 (.agg #[.string a, .string b]) "loop.example/g00239/impl.right").run Tryz.prog W = .ok (some false) W := fun _ => by kernel_rfl
 have hmt : ∀ W : World, (method 157 241 (.agg #[.string a, .string b]) "loop.example/g00239/impl.right").run Tryz.prog W = .ok (279, .agg #[.string a, .string b]) W := fun _ => by kernel_rfl
 have hgb := guardBan
 have hqe : ∀ W : World, (binOp .eql 111 (.agg #[.int .i64 3, .string a, .string b, .int .i64 t]) (.agg #[.int .i64 3, .string a, .string b, .int .i64 t])).run Tryz.prog W = .ok (.bool true) W := fun W => by
  rw [eqlBan]
  first | (simp; done) | (have z := HB0.out; simp; exact fun e => z e.symm)
 clear ha hb
 have hb0 := Below.refl w.heap.size w
 go_enter Tryz.func84, Tryz.ntmps84
 go_upto_region 1 with fail
 obtain ⟨q1, hq1⟩ := exq (w.heap.size)
 obtain ⟨w1, hW1⟩ := exq (w.alloc (.cells #[.int .i64 3, .string a, .string b, .int .i64 t] 111))
 have hz1 := hq1.symm
 rw [← hW1]; try rw [← hq1]
 have hs1 := hsa hW1 hz1
 have bw := bal hW1
 have hb1 := hbt hb0 bw
 have B1_1 := hnew hW1 hz1
 clear hb0 bw hW1 hz1
 clear hs1 hq1
 have c1_0 := (k4c B1_1).1
 have c1_1 := (k4c B1_1).2.1
 have c1_2 := (k4c B1_1).2.2.1
 have c1_3 := (k4c B1_1).2.2.2
 go_wp2_with fail
 refine (ruleOf_3 a b t _).mono ?_
 rintro e w2 ⟨rfl, bw⟩
 have hb2 := hbt hb1 bw
 have B1_2 := hblk B1_1 bw
 clear hb1 bw
 clear c1_0 c1_1 c1_2 c1_3
 go_upto_region 2 with fail
 refine wp_region_held_drew (S := fun W => W.heap[q1]? = some (.cells #[.int .i64 3, .string a, .string b, .int .i64 t] 111)) (by kernel_rfl) B1_2.out (fun _ => ?_)
 obtain ⟨w3, hX⟩ := exq w2.drew
 have bw := bdr hX
 rw [← hX]
 have hb3 := hbt hb2 bw
 have B1_3 := hblk B1_2 bw
 have hS3 := B1_3.out
 clear hb2 bw hX
 refine tkP 0 (.iface 241 (.agg #[.string a, .string b])) 6 rfl rfl hS3 (tkP 1 (.bool true) 7 rfl rfl hS3 (tkP 2 (.bool true) 8 rfl rfl hS3 ?_))
 go_frame
 refine tkP 3 (.iface 241 (.agg #[.string a, .string b])) 9 rfl rfl hS3 ?_
 go_frame
 refine rd1 4 rfl (fun K hK => ?_)
 go_simp
 refine (right_3 a b _ HAM.out HBM.out).mono ?_
 rintro e w4 ⟨ur, rfl, htur, bw⟩
 have hb4 := hbt hb3 bw
 have B1_4 := hblk B1_3 bw
 clear hb3 bw
 have hS4 := B1_4.out
 refine hK.out _ _ hS4 (fun _ => ?_)
 clear hK K hS3
 refine tkP 5 (.bool ur) 11 rfl rfl hS4 (tkP 6 (.bool ur) 12 rfl rfl hS4 ?_)
 go_frame
 cases ur
 ·have Hur : Hid (¬ (TokOk a ∧ ValOk b)) := fun h => nomatch htur.2 h
  clear htur
  refine tkN 7 13 rfl rfl hS4 (tkN 8 14 rfl rfl hS4 (tkN 9 15 rfl rfl hS4 ?_))
  go_frame
  refine tkP 10 (.bool false) 16 rfl rfl hS4 (tkP 11 (.bool false) 17 rfl rfl hS4 (tkN 12 18 rfl rfl hS4 ?_))
  go_frame
  refine tkN 13 19 rfl rfl hS4 (tkN 14 20 rfl rfl hS4 (tkN 15 21 rfl rfl hS4 ?_))
  go_frame
  refine tkN 16 22 rfl rfl hS4 (tkN 17 23 rfl rfl hS4 (tkP 18 (.bool false) 24 rfl rfl hS4 ?_))
  go_frame
  refine tkP 19 (.bool false) 2 rfl rfl hS4 ?_
  go_frame
  clear hS4
  refine wdn ?_
  go_wp2_with fail
  go_ret
  refine ⟨false, rfl, ?_, hb4⟩
  have zHur := Hur.out
  unfold BanP
  simp_all
 have Hur : Hid (TokOk a ∧ ValOk b) := htur.1 rfl
 clear htur
 refine tkP 7 (.pointer (some ⟨q1, 3, none⟩)) 13 rfl rfl hS4 ?_
 go_frame
 refine tkL 8 (.int .i64 t) 14 rfl rfl (Or.inl ⟨by rfl, by intro W hW; have hhv1 := hW; have y3 := (cell_of hhv1 3).trans rfl; go_simp⟩) hS4 ?_
 go_frame
 refine rd1 9 rfl (fun K hK => ?_)
 go_simp
 refine (timeOk_any t _).mono ?_
 rintro e w5 ⟨rfl, hwe⟩
 have bw : Below w4.heap.size (w4) w5 := by rw [hwe]; exact Below.refl _ _
 clear hwe
 obtain ⟨ut, hut⟩ : ∃ u, u = decide ((0 : Int) ≤ t ∧ t ≤ 1000000) := ⟨_, rfl⟩
 rw [← hut]
 have hb5 := hbt hb4 bw
 have B1_5 := hblk B1_4 bw
 clear hb4 bw
 have hS5 := B1_5.out
 refine hK.out _ _ hS5 (fun _ => ?_)
 clear hK K hS4
 refine tkP 10 (.bool ut) 16 rfl rfl hS5 (tkP 11 (.bool ut) 17 rfl rfl hS5 ?_)
 go_frame
 cases ut
 ·have Hut : Hid (¬ (0 ≤ t ∧ t ≤ 1000000)) := (show ¬ (0 ≤ t ∧ t ≤ 1000000) from of_decide_eq_false hut.symm)
  clear hut
  refine tkN 12 18 rfl rfl hS5 (tkN 13 19 rfl rfl hS5 (tkN 14 20 rfl rfl hS5 ?_))
  go_frame
  refine tkN 15 21 rfl rfl hS5 (tkN 16 22 rfl rfl hS5 (tkN 17 23 rfl rfl hS5 ?_))
  go_frame
  refine tkP 18 (.bool false) 24 rfl rfl hS5 (tkP 19 (.bool false) 2 rfl rfl hS5 ?_)
  go_frame
  clear hS5
  refine wdn ?_
  go_wp2_with fail
  go_ret
  refine ⟨false, rfl, ?_, hb5⟩
  have zHur := Hur.out
  have zHut := Hut.out
  unfold BanP
  simp_all
 have Hut : Hid (0 ≤ t ∧ t ≤ 1000000) := (show 0 ≤ t ∧ t ≤ 1000000 from of_decide_eq_true hut.symm)
 clear hut
 refine tkP 12 (.iface 241 (.agg #[.string a, .string b])) 18 rfl rfl hS5 (tkP 13 (.pointer (some ⟨q1, 3, none⟩)) 19 rfl rfl hS5 ?_)
 go_frame
 refine tkL 14 (.int .i64 t) 20 rfl rfl (Or.inl ⟨by rfl, by intro W hW; have hhv1 := hW; have y3 := (cell_of hhv1 3).trans rfl; go_simp⟩) hS5 ?_
 go_frame
 refine tkL 16 (.agg #[.int .i64 3, .string a, .string b, .int .i64 t]) 22 rfl rfl (Or.inl ⟨by rfl, by intro W hW; have hhv1 := hW; have y0 := (cell_of hhv1 0).trans rfl; have y1 := (cell_of hhv1 1).trans rfl; have y2 := (cell_of hhv1 2).trans rfl; have y3 := (cell_of hhv1 3).trans rfl; go_simp⟩) hS5 ?_
 go_frame
 refine rd1 15 rfl (fun K hK => ?_)
 go_simp
 refine (banOf_3 a b t _).mono ?_
 rintro e w6 ⟨rfl, bw⟩
 have hb6 := hbt hb5 bw
 have B1_6 := hblk B1_5 bw
 clear hb5 bw
 have hS6 := B1_6.out
 refine hK.out _ _ hS6 (fun _ => ?_)
 clear hK K hS5
 refine tkP 17 (.bool true) 23 rfl rfl hS6 (tkP 18 (.bool true) 24 rfl rfl hS6 (tkP 19 (.bool true) 2 rfl rfl hS6 ?_))
 go_frame
 clear hS6
 refine wdn ?_
 go_wp2_with fail
 go_ret
 refine ⟨true, rfl, ?_, hb6⟩
 have zHur := Hur.out
 have zHut := Hut.out
 unfold BanP
 simp_all
theorem implBanOk_no (k : Int) (a b : Tx) (t : Int) (w : World) (h1 : ¬ k = 1) (h2 : ¬ k = 2) (h3 : ¬ k = 3) :
  Calls Tryz.prog 84 #[.agg #[.int .i64 k, .string a, .string b, .int .i64 t]] w fun e w' => BoolIs (BanP k a b t) w e w' := by
 have HK1 : Hid (¬ k = 1) := h1
 have HK2 : Hid (¬ k = 2) := h2
 have HK3 : Hid (¬ k = 3) := h3
 have hnn : ∀ W : World, (binOp .neq 193 .nilIface .nilIface).run Tryz.prog W = .ok (.bool false) W := fun _ => by kernel_rfl
 clear h1 h2 h3
 have hb0 := Below.refl w.heap.size w
 go_enter Tryz.func84, Tryz.ntmps84
 go_upto_region 1 with fail
 obtain ⟨q1, hq1⟩ := exq (w.heap.size)
 obtain ⟨w1, hW1⟩ := exq (w.alloc (.cells #[.int .i64 k, .string a, .string b, .int .i64 t] 111))
 have hz1 := hq1.symm
 rw [← hW1]; try rw [← hq1]
 have hs1 := hsa hW1 hz1
 have bw := bal hW1
 have hb1 := hbt hb0 bw
 have B1_1 := hnew hW1 hz1
 clear hb0 bw hW1 hz1
 clear hs1 hq1
 have c1_0 := (k4c B1_1).1
 have c1_1 := (k4c B1_1).2.1
 have c1_2 := (k4c B1_1).2.2.1
 have c1_3 := (k4c B1_1).2.2.2
 go_wp2_with fail
 refine (ruleOf_no k a b t _ HK1.out HK2.out HK3.out).mono ?_
 rintro e w2 ⟨rfl, bw⟩
 have hb2 := hbt hb1 bw
 have B1_2 := hblk B1_1 bw
 clear hb1 bw
 clear c1_0 c1_1 c1_2 c1_3
 go_upto_region 2 with fail
 refine wp_region_held_drew (S := fun W => W.heap[q1]? = some (.cells #[.int .i64 k, .string a, .string b, .int .i64 t] 111)) (by kernel_rfl) B1_2.out (fun _ => ?_)
 obtain ⟨w3, hX⟩ := exq w2.drew
 have bw := bdr hX
 rw [← hX]
 have hb3 := hbt hb2 bw
 have B1_3 := hblk B1_2 bw
 have hS3 := B1_3.out
 clear hb2 bw hX
 refine tkP 0 (.nilIface) 6 rfl rfl hS3 (tkP 1 (.bool false) 7 rfl rfl hS3 (tkP 2 (.bool false) 8 rfl rfl hS3 ?_))
 go_frame
 refine tkN 3 9 rfl rfl hS3 (tkN 4 10 rfl rfl hS3 (tkP 5 (.bool false) 11 rfl rfl hS3 ?_))
 go_frame
 refine tkP 6 (.bool false) 12 rfl rfl hS3 (tkN 7 13 rfl rfl hS3 (tkN 8 14 rfl rfl hS3 ?_))
 go_frame
 refine tkN 9 15 rfl rfl hS3 (tkP 10 (.bool false) 16 rfl rfl hS3 (tkP 11 (.bool false) 17 rfl rfl hS3 ?_))
 go_frame
 refine tkN 12 18 rfl rfl hS3 (tkN 13 19 rfl rfl hS3 (tkN 14 20 rfl rfl hS3 ?_))
 go_frame
 refine tkN 15 21 rfl rfl hS3 (tkN 16 22 rfl rfl hS3 (tkN 17 23 rfl rfl hS3 ?_))
 go_frame
 refine tkP 18 (.bool false) 24 rfl rfl hS3 (tkP 19 (.bool false) 2 rfl rfl hS3 ?_)
 go_frame
 clear hS3
 refine wdn ?_
 go_wp2_with fail
 go_ret
 refine BoolIs.no ?_ hb3
 intro h
 rcases h.kinds with h | h | h
 · exact HK1.out h
 · exact HK2.out h
 · exact HK3.out h
theorem implBanOk_any (k : Int) (a b : Tx) (t : Int) (w : World) (ha : a.size ≤ maxLen) (hb : b.size ≤ maxLen) :
  Calls Tryz.prog 84 #[.agg #[.int .i64 k, .string a, .string b, .int .i64 t]] w fun e w' => BoolIs (BanP k a b t) w e w' := by
 classical
 by_cases h1 : k = 1
 ·subst h1
  by_cases h : b = ⟨#[]⟩
  rotate_left
  · exact implBanOk_1n a b t w ha h
  subst h; exact implBanOk_1e a t w ha
 by_cases h2 : k = 2
 rotate_left
 ·by_cases h3 : k = 3
  rotate_left
  · exact implBanOk_no k a b t w h1 h2 h3
  subst h3; exact implBanOk_3 a b t w ha hb
 subst h2
 by_cases h : b = ⟨#[]⟩
 rotate_left
 · exact implBanOk_2n a b t w ha h
 subst h; exact implBanOk_2e a t w ha
theorem implObjOk_k (k : KpD) (v1 v2 v3 : Value) (w : World) (h : KpRead w k v1 v2 v3) (hs : KpSmall k) :
  Calls Tryz.prog 82 #[.agg #[.string k.p, v1, v2, .int .i64 k.st, v3, .string k.b, .int .i64 k.t]] w fun e w' => BoolIs (ObjK k) w e w' := by
 obtain ⟨B, h⟩ := h
 have ho : ObjO w B v1 k.xs.length k.xs v2 k.ys.length k.ys v3 k.fs.length k.fs := rows_objO h
 obtain ⟨o1, c1, rfl⟩ := slice_of_owns ho.names
 obtain ⟨o2, c2, rfl⟩ := slice_of_owns ho.vals
 exact implObjOk_any k.p o1 _ c1 k.xs o2 _ c2 k.ys k.st v3 _ B k.fs k.b k.t w (texts_view ho.names) (texts_view ho.vals) (FieldsV.of_owns ho.flds) (by have := hs.2.1.1; omega) (by have := hs.2.2.1.1; omega) (by have := hs.2.2.2.1; omega) (small_text hs.2.1.2) (small_text hs.2.2.1.2) (small_walk hs) (small_copy hs) (by have := hs.1.1; unfold maxLen; omega) (by have := hs.1.2; unfold maxLen; omega) (small_get hs _)
theorem implDiskOk_len (o1 : Oa) (n1 c1 : Nat) (v2 : Value) (n2 : Nat) (ws : List (Int × ByteArray)) (B : Nat) (w : World) (h : w.ownsRow B 148 2 v2 n2 (flatWrite ws)) (hn2 : n2 ≤ 2000000) :
  Calls Tryz.prog 44 #[.agg #[.slice o1 n1 c1, v2]] w fun e w' => BoolIs (DiskN n1 ws) w e w' := by
 obtain ⟨o2, c2, rfl⟩ := slice_of_owns h
 have HV : Hid (WriteA w o2 n2 ws) := write_view h
 have HLN : Hid (ws.length = n2) := write_len h
 clear h
 by_cases h1 : n1 = 20
 rotate_left
 ·have h3 : ¬ (n1 : Int) = 20 := by omega
  have HNO := hid h1
  go_enter Tryz.func44, Tryz.ntmps44
  go_wp2_with fail
  go_ret
  exact BoolIs.no (fun h => HNO.out h.1) ((Below.refl _ _).alloc (Nat.le_refl _) _)
 subst h1
 by_cases h2 : n2 ≤ 16
 rotate_left
 ·have h3 : ¬ (n2 : Int) ≤ 16 := by omega
  have HNO : Hid (¬ ws.length ≤ 16) := by rw [HLN.out]; exact h2
  go_enter Tryz.func44, Tryz.ntmps44
  go_wp2_with fail
  go_ret
  exact BoolIs.no (fun h => HNO.out h.2.1) ((Below.refl _ _).alloc (Nat.le_refl _) _)
 have h3 : (n2 : Int) ≤ 16 := by omega
 go_enter Tryz.func44, Tryz.ntmps44
 go_wp2_with fail
 refine (allToCells_any o2 n2 c2 ws _ (HV.out.below ((Below.refl _ _).alloc (Nat.le_refl _) _)) hn2).mono ?_
 rintro e w1 ⟨b, rfl, hb, bw⟩
 have HB := hid hb
 have HBW : Hid (Below w.heap.size w w1) := ((Below.refl _ _).alloc (Nat.le_refl _) _).trans (bw.mono (by simp))
 have HN : Hid (n2 ≤ 16) := h2
 clear hb bw
 go_wp2_with fail
 go_ret
 exact ⟨b, rfl, ⟨fun e => ⟨rfl, by rw [HLN.out]; exact HN.out, HB.out.1 e⟩, fun h => HB.out.2 h.2.2⟩, HBW.out⟩
theorem implDiskOk_any (v1 v2 : Value) (n1 : Nat) (cs : Ts) (n2 : Nat) (ws : List (Int × ByteArray)) (B : Nat) (w : World) (h : DiskO w B v1 n1 cs v2 n2 ws) (_hn1 : n1 ≤ 2000000) (hn2 : n2 ≤ 2000000) :
  Calls Tryz.prog 44 #[.agg #[v1, v2]] w fun e w' => BoolIs (DiskP cs ws) w e w' := by
 obtain ⟨oCx, pCx, rfl⟩ := slice_of_owns h.cells
 have hl : cs.length = n1 := by have := h.cells.1; rw [List.length_map] at this; omega
 have h1 := implDiskOk_len oCx n1 pCx v2 n2 ws B w h.pend hn2
 rw [← hl] at h1
 rw [← hl]
 exact h1
def BansP (bl : Bs) : Prop := bl.length ≤ 5 ∧ ∀ x ∈ bl, BanP x.1 x.2.1 x.2.2.1 x.2.2.2
def lastQ (ks : List KpD) (i : Nat) : Int := if i = 0 then 0 else (kpAt ks (i - 1)).q
theorem lastQ_succ (ks : List KpD) (i : Nat) : lastQ ks (i + 1) = (kpAt ks i).q := by unfold lastQ; rw [if_neg (by omega), Nat.add_sub_cancel]
def KpA (ks : List KpD) (sq : Int) (i : Nat) : Prop := ObjK (kpAt ks i) ∧ (5 ≤ (kpAt ks i).a ∧ (kpAt ks i).a ≤ 19) ∧ lastQ ks i < (kpAt ks i).q ∧ (kpAt ks i).q < sq
theorem lastQ_ge {ks : List KpD} {sq : Int} {n : Nat} (h : ∀ m, m < n → KpA ks sq m) : ∀ i, i ≤ n → 0 ≤ lastQ ks i
 | 0, _ => by simp [lastQ]
 | i + 1, hi => by
  have h1 := lastQ_ge h i (by omega)
  have h2 := (h i (by omega)).2.2.1
  rw [lastQ_succ]
  omega
theorem kpOk_A {ks : List KpD} {sq : Int} {i : Nat} (h : KpOk ks sq i) : KpA ks sq i := by
 obtain ⟨h1, h2, h3, h4, _⟩ := h
 refine ⟨h1, h2, ?_, by omega⟩
 unfold lastQ
 split
 · omega
 · exact h4 (by omega)
theorem kpA_Ok {ks : List KpD} {sq : Int} {n i : Nat} (h : ∀ m, m < n → KpA ks sq m) (hi : i < n) (ha : ∀ j, j < i → (kpAt ks j).a ≠ (kpAt ks i).a) : KpOk ks sq i := by
 obtain ⟨h1, h2, h3, h4⟩ := h i hi
 have h5 := lastQ_ge h i (by omega)
 refine ⟨h1, h2, by omega, fun h0 => ?_, ha⟩
 unfold lastQ at h3
 rw [if_neg (by omega)] at h3
 exact h3
theorem apart_at {kv : Ks} : ApartA kv ↔ ∀ i, i < kv.length → ∀ j, j < i → (kpAt (kv.map (·.1)) j).a ≠ (kpAt (kv.map (·.1)) i).a := by
 have e : ∀ i (hi : i < kv.length), kpAt (kv.map (·.1)) i = (kv[i]'hi).1 := fun i hi => by
  rw [← kpAt_get _ i (by rw [List.length_map]; exact hi)]
  simp
 unfold ApartA
 rw [List.pairwise_iff_getElem]
 constructor
 ·intro h i hi j hj
  rw [e i hi, e j (by omega)]
  exact h j i (by omega) hi hj
 ·intro h i j hi hj hij
  have h2 := h j hj i hij
  rw [e j hj, e i hi] at h2
  exact h2
theorem keptOk_any (V : Value) (kv : Ks) (sq : Int) (B : Nat) (w : World) (h : KeptsO w B V kv) (hn : kv.length ≤ 1048576) (hs : ∀ x ∈ kv, KpSmall x.1) :
  Calls Tryz.prog 46 #[V, .int .i64 sq] w fun e w' => BoolIs (∀ m, m < kv.length → KpOk (kv.map (·.1)) sq m) w e w' := by
 obtain ⟨o3, c3, e3⟩ := slice_of_owns h.row
 subst e3
 obtain ⟨n3, hn3⟩ := exq kv.length
 rw [← hn3] at h ⊢
 obtain ⟨ks, hks⟩ := exq (kv.map (·.1))
 have HKS : Hid (kv.map (·.1) = ks) := hks.symm
 have HLK : Hid (kv.length = n3) := hn3.symm
 have bn3 : n3 ≤ 1048576 := by rw [hn3]; exact hn
 have HKP : Hid (∀ W, Below w.heap.size w W → KeptsO W B (.slice o3 n3 c3) kv) := fun W hb => KeptsO.below h hb
 clear hn3 hks h hn
 have HSM := hid hs
 clear hs
 have hb0 := Below.refl w.heap.size w
 go_enter Tryz.func46, Tryz.ntmps46
 go_wp2_with fail
 go_loopw [5, 10] (fun l i wr => ∃ i' : Nat, i' ≤ n3 ∧ l = .int .i64 (lastQ ks i') ∧ i = .int .i64 (i' : Int) ∧ Hid (Below w.heap.size w (wr)) ∧ Hid (∀ m, m < i' → KpA ks sq m)) (fun _ i _ => n3 - (intOf i).toNat)
 case atStart => exact ⟨0, Nat.zero_le _, rfl, rfl, hb0, fun m hm => absurd hm (by omega)⟩
 case round =>
  obtain ⟨i, hi, rfl, rfl, HW, HN⟩ := hrel
  by_cases hlt : (i : Int) < (n3 : Int)
  rotate_left
  ·have hb1 := HW.out
   clear HW hb0
   have HKA : Hid (∀ m, m < n3 → KpA ks sq m) := fun m hm => HN.out m (by omega)
   have HAB : Hid (∀ x ∈ kv, 0 ≤ x.1.a ∧ x.1.a ≤ 1000) := fun x hx => by
    obtain ⟨j, hj, e⟩ := List.getElem_of_mem hx
    have h2 := (HKA.out j (by rw [← HLK.out]; exact hj)).2.1
    rw [← HKS.out, ← kvAt_fst kv j hj, ← kvAt_get kv j hj, e] at h2
    omega
   clear HN
   go_wp2_with fail
   refine (knownOf_any _ kv B _ (HKP.out _ hb1) (by rw [HLK.out]; exact bn3) (fun x hx => HAB.out x hx)).mono ?_
   rintro e w2 ⟨bM, nM, D, rfl, hnM, hko, hmn, hbg, bw⟩
   have HBK : Hid (w.heap.size ≤ wr.heap.size) := hb1.size
   have hb2 := hbt hb1 bw
   have HM2 := hsz bw
   clear hb1 bw
   have EMmk_2 : Hid (KnownO w2 bM nM D) := hko
   have HMN := hid hmn
   clear hbg hko hmn
   by_cases hc1 : (Maps.size (D) : Int) = (n3 : Int)
   rotate_left
   ·have hc1b : (((Maps.size (D) : Int) : Int) == (n3 : Int)) = false := by simpa using hc1
    have hc1n : (((Maps.size (D) : Int) : Int) != (n3 : Int)) = true := by simpa using hc1
    have HSZ := hid hc1
    have hc1H := hid hc1
    clear hc1
    have hmp := EMmk_2.out
    unfold KnownO at hmp
    go_wp2_with (first | (at_len; refine wpList_len_own _ rfl _ 142 rfl 3 63 Tryz.underlying142 mpR bM nM (D) rfl hmp ?_) | go_in)
    go_ret
    refine BoolIs.no (fun h => ?_) hb2
    have hsz := HSZ.out
    have ha : ApartA kv := apart_at.2 (fun m hm => (h m (by rw [← HLK.out]; exact hm)).2.2.2.2)
    have h2 := HMN.out.eq.2 ha
    rw [HLK.out] at h2
    omega
   have hc1b : (((Maps.size (D) : Int) : Int) == (n3 : Int)) = true := by simpa using hc1
   have hc1n : (((Maps.size (D) : Int) : Int) != (n3 : Int)) = false := by simpa using hc1
   have HSZ := hid hc1
   have hc1H := hid hc1
   clear hc1
   have hmp := EMmk_2.out
   unfold KnownO at hmp
   go_wp2_with (first | (at_len; refine wpList_len_own _ rfl _ 142 rfl 3 63 Tryz.underlying142 mpR bM nM (D) rfl hmp ?_) | go_in)
   go_ret
   refine BoolIs.yes (fun m hm => ?_) hb2
   have ha : ApartA kv := HMN.out.eq.1 (by have := HSZ.out; rw [HLK.out]; omega)
   rw [apart_at] at ha
   rw [HKS.out] at ha ⊢
   exact kpA_Ok (n := n3) HKA.out hm (ha m (by rw [HLK.out]; exact hm))
  have hb1 := HW.out
  clear HW hb0
  obtain ⟨g3, p3, hV, _, _⟩ := (HKP.out _ hb1).look i (by rw [HLK.out]; omega)
  rw [HLK.out] at hV
  injection hV with hV1 hV2 hV3
  subst hV1 hV3
  clear hV2
  obtain ⟨xX, hxX⟩ := exq (kvAt kv i)
  have HMx : Hid (xX ∈ kv) := by show _ ∈ _; rw [hxX]; exact kvAt_mem kv i (by rw [HLK.out]; omega)
  have HEx : Hid (kpAt ks i = xX.1) := by show _ = _; rw [hxX, ← HKS.out]; exact (kvAt_fst kv i (by rw [HLK.out]; omega)).symm
  have HTKx : Hid (kv.take (i + 1) = kv.take i ++ [xX]) := by show _ = _; rw [hxX]; exact kvAt_take kv i (by rw [HLK.out]; omega)
  have HKx : Hid (∀ W, Below w.heap.size w W → KpAt W g3 i xX) := fun W hb => by
   obtain ⟨g', p', hV, _, hc⟩ := (HKP.out W hb).look i (by rw [HLK.out]; omega)
   injection hV with hV1 _ _
   cases hV1
   rw [hxX]
   exact hc
  clear hxX
  obtain ⟨x, kuv1, kuv2, kuv3⟩ := xX
  obtain ⟨ku1, kc1, hu⟩ := slice_of_owns ((HKP.out _ hb1).names HMx.out)
  have hu' : kuv1 = .slice ku1 x.xs.length kc1 := hu
  subst hu'
  clear hu
  obtain ⟨ku2, kc2, hu⟩ := slice_of_owns ((HKP.out _ hb1).vals HMx.out)
  have hu' : kuv2 = .slice ku2 x.ys.length kc2 := hu
  subst hu'
  clear hu
  obtain ⟨ku3, kc3, hu⟩ := slice_of_owns ((HKP.out _ hb1).flds HMx.out)
  have hu' : kuv3 = .slice ku3 x.fs.length kc3 := hu
  subst hu'
  clear hu
  have r0x := (HKx.out _ hb1).c0
  have r1x := (HKx.out _ hb1).c1
  have r2x := (HKx.out _ hb1).c2
  have r3x := (HKx.out _ hb1).c3
  have r4x := (HKx.out _ hb1).c4
  have r5x := (HKx.out _ hb1).c5
  have r6x := (HKx.out _ hb1).c6
  have r7x := (HKx.out _ hb1).c7
  have r8x := (HKx.out _ hb1).c8
  dsimp only at r0x r1x r2x r3x r4x r5x r6x r7x r8x
  go_upto_region 5 with fail
  obtain ⟨q1, hq1⟩ := exq (wr.heap.size)
  obtain ⟨w2, hW2⟩ := exq (wr.alloc (.cells #[.string x.p, .slice ku1 x.xs.length kc1, .slice ku2 x.ys.length kc2, .int .i64 x.st, .slice ku3 x.fs.length kc3, .string x.b, .int .i64 x.t, .int .i64 x.a, .int .i64 x.q] 63))
  have hz2 := hq1.symm
  rw [← hW2]; try rw [← hq1]
  have hs2 := hsa hW2 hz2
  have bw := bal hW2
  have hb2 := hbt hb1 bw
  have HM2 := hsz bw
  have B1_2 := hnew hW2 hz2
  clear hb1 bw hW2 hz2
  clear hs2 hq1
  clear r0x r1x r2x r3x r4x r5x r6x r7x r8x
  have c1_0 := (k9c B1_2).1
  have c1_1 := (k9c B1_2).2.1
  have c1_2 := (k9c B1_2).2.2.1
  have c1_3 := (k9c B1_2).2.2.2.1
  have c1_4 := (k9c B1_2).2.2.2.2.1
  have c1_5 := (k9c B1_2).2.2.2.2.2.1
  have c1_6 := (k9c B1_2).2.2.2.2.2.2.1
  go_wp2_with fail
  refine (implObjOk_k x _ _ _ _ ((HKP.out _ hb2).read HMx.out) (HSM.out _ HMx.out)).mono ?_
  rintro e w3 ⟨uo, rfl, huo, bw⟩
  have hb3 := hbt hb2 bw
  have B1_3 := hblk B1_2 bw
  clear hb2 bw
  clear c1_0 c1_1 c1_2 c1_3 c1_4 c1_5 c1_6
  cases uo
  ·have HNuo : Hid (¬ (ObjK x)) := fun h => nomatch huo.2 h
   clear huo
   go_wp2_with fail
   go_ret
   exact BoolIs.no (fun h => by have hk := h i (by omega); rw [HKS.out] at hk; have hA := kpOk_A hk; unfold KpA at hA; rw [HEx.out] at hA; exact HNuo.out hA.1) hb3
  have HYuo : Hid (ObjK x) := huo.1 rfl
  clear huo
  have c1_7 := (k9c B1_3).2.2.2.2.2.2.2.1
  go_wp2_with fail
  refine (isObjectCell_any x.a _).mono ?_
  rintro e w4 ⟨uka, rfl, huka, bw⟩
  have hb4 := hbt hb3 bw
  have B1_4 := hblk B1_3 bw
  clear hb3 bw
  clear c1_7
  cases uka
  ·have HNuka : Hid (¬ (5 ≤ x.a ∧ x.a ≤ 19)) := fun h => nomatch huka.2 h
   clear huka
   go_wp2_with fail
   go_ret
   exact BoolIs.no (fun h => by have hk := h i (by omega); rw [HKS.out] at hk; have hA := kpOk_A hk; unfold KpA at hA; rw [HEx.out] at hA; exact HNuka.out hA.2.1) hb4
  have HYuka : Hid (5 ≤ x.a ∧ x.a ≤ 19) := huka.1 rfl
  clear huka
  by_cases hc1 : x.q ≤ (lastQ ks i)
  ·have HLQ := hid hc1
   have c1_8 := (k9c B1_4).2.2.2.2.2.2.2.2
   go_wp2_with fail
   go_ret
   exact BoolIs.no (fun h => by have hk := h i (by omega); rw [HKS.out] at hk; have hA := kpOk_A hk; unfold KpA at hA; rw [HEx.out] at hA; have h2 := HLQ.out; omega) hb4
  have HLQ := hid hc1
  have c1_8 := (k9c B1_4).2.2.2.2.2.2.2.2
  by_cases hc2 : sq ≤ x.q
  ·have HGQ := hid hc2
   go_wp2_with fail
   go_ret
   exact BoolIs.no (fun h => by have hk := h i (by omega); rw [HKS.out] at hk; have hA := kpOk_A hk; unfold KpA at hA; rw [HEx.out] at hA; have h2 := HGQ.out; omega) hb4
  have HGQ := hid hc2
  have HN2 : Hid (∀ m, m < i + 1 → KpA ks sq m) := fun m hm => by
   by_cases e : m = i
   ·subst e
    unfold KpA
    rw [HEx.out]
    have h1 := HLQ.out
    have h2 := HGQ.out
    exact ⟨HYuo.out, HYuka.out, by omega, by omega⟩
   · exact HN.out m (by omega)
  have HLS : Hid (x.q = lastQ ks (i + 1)) := by show _ = _; rw [lastQ_succ, HEx.out]
  go_wp2_with fail
  go_roundw
  case rel => exact ⟨i + 1, by omega, congrArg (Value.int .i64) HLS.out, by go_num, hb4, HN2⟩
  case measure => simp [intOf]; omega
theorem bansOk_any (VB : Value) (bl : Bs) (B : Nat) (w : World) (h : w.ownsRow B 111 4 VB bl.length (flatBan bl)) (hn : bl.length ≤ 1048576) (hz : ∀ x ∈ bl, x.2.1.size ≤ maxLen ∧ x.2.2.1.size ≤ maxLen) :
  Calls Tryz.prog 47 #[VB] w fun e w' => BoolIs (BansP bl) w e w' := by
 obtain ⟨o4, c4, e4⟩ := slice_of_owns h
 subst e4
 obtain ⟨n4, hn4⟩ := exq bl.length
 rw [← hn4] at h ⊢
 have HLB : Hid (bl.length = n4) := hn4.symm
 have bn4 : n4 ≤ 1048576 := by rw [hn4]; exact hn
 have HBN : Hid (∀ W, Below w.heap.size w W → W.ownsRow B 111 4 (.slice o4 n4 c4) n4 (flatBan bl)) := fun W hb => owns_below h hb (fun g hg => owns_lt h hg)
 have HBZ := hid hz
 clear hn4 h hn hz
 have hb0 := Below.refl w.heap.size w
 go_enter Tryz.func47, Tryz.ntmps47
 go_wp2_with fail
 go_loopw [7] (fun i wr => ∃ j : Nat, j ≤ n4 ∧ i = .int .i64 (j : Int) ∧ Hid (Below w.heap.size w (wr)) ∧ Hid (∀ x ∈ bl.take j, BanP x.1 x.2.1 x.2.2.1 x.2.2.2)) (fun i _ => n4 - (intOf i).toNat)
 case atStart => exact ⟨0, Nat.zero_le _, rfl, hb0, fun x hx => by simp at hx⟩
 case round =>
  obtain ⟨j, hj, rfl, HW, HN⟩ := hrel
  by_cases hlt : (j : Int) < (n4 : Int)
  rotate_left
  ·have hb1 := HW.out
   clear HW hb0
   have HAL : Hid (∀ x ∈ bl, BanP x.1 x.2.1 x.2.2.1 x.2.2.2) := fun x hx => HN.out x (by rw [List.take_of_length_le (by rw [HLB.out]; omega)]; exact hx)
   clear HN
   by_cases hc1 : (n4 : Int) ≤ 5
   ·have HB5 : Hid (n4 ≤ 5) := (by have := hc1; show _ ≤ _; omega)
    go_wp2_with fail
    go_ret
    exact BoolIs.yes (⟨by rw [HLB.out]; exact HB5.out, HAL.out⟩ : BansP bl) hb1
   have HB5 : Hid (¬ n4 ≤ 5) := (by have := hc1; show ¬ _; omega)
   go_wp2_with fail
   go_ret
   exact BoolIs.no (fun h => by have h1 : bl.length ≤ 5 := h.1; have h5 := HB5.out; rw [HLB.out] at h1; omega) hb1
  have hb1 := HW.out
  clear HW hb0
  have hbn := HBN.out _ hb1
  try rw [HLB.out] at hbn
  have hbv := ban_view hbn
  clear hbn
  obtain ⟨g4, hog, hgl, r1, r2, r3, r4⟩ := hbv.2 j (by first | omega | (rw [HLB.out]; omega))
  clear hbv
  subst hog
  obtain ⟨y, hy⟩ := exq (banAt bl j)
  rw [← hy] at r1 r2 r3 r4
  have HM : Hid (y ∈ bl) := by show _ ∈ _; rw [hy]; exact banAt_mem bl j (by rw [HLB.out]; omega)
  have HTK : Hid (bl.take (j + 1) = bl.take j ++ [y]) := by show _ = _; rw [hy]; exact take_banAt bl j (by rw [HLB.out]; omega)
  clear hy hgl
  obtain ⟨y0, y1, y2, y3⟩ := y
  dsimp only at r1 r2 r3 r4
  go_upto_region 4 with fail
  obtain ⟨q1, hq1⟩ := exq (wr.heap.size)
  obtain ⟨w2, hW2⟩ := exq (wr.alloc (.cells #[.int .i64 y0, .string y1, .string y2, .int .i64 y3] 111))
  have hz2 := hq1.symm
  rw [← hW2]; try rw [← hq1]
  have hs2 := hsa hW2 hz2
  have bw := bal hW2
  have hb2 := hbt hb1 bw
  have B1_2 := hnew hW2 hz2
  clear hb1 bw hW2 hz2
  clear hs2 hq1
  clear r1 r2 r3 r4
  have c1_0 := (k4c B1_2).1
  have c1_1 := (k4c B1_2).2.1
  have c1_2 := (k4c B1_2).2.2.1
  have c1_3 := (k4c B1_2).2.2.2
  go_wp2_with fail
  refine (implBanOk_any y0 y1 y2 y3 _ (HBZ.out _ HM.out).1 (HBZ.out _ HM.out).2).mono ?_
  rintro e w3 ⟨ub, rfl, hub, bw⟩
  have hb3 := hbt hb2 bw
  have B1_3 := hblk B1_2 bw
  clear hb2 bw
  clear c1_0 c1_1 c1_2 c1_3
  cases ub
  ·have HNub : Hid (¬ (BanP y0 y1 y2 y3)) := fun h => nomatch hub.2 h
   clear hub
   go_wp2_with fail
   go_ret
   exact BoolIs.no (fun h => HNub.out ((show BansP bl from h).2 _ HM.out)) hb3
  have HYub : Hid (BanP y0 y1 y2 y3) := hub.1 rfl
  clear hub
  have HN2 : Hid (∀ x ∈ bl.take (j + 1), BanP x.1 x.2.1 x.2.2.1 x.2.2.2) := fun x hx => by
   rw [HTK.out] at hx
   rcases List.mem_append.1 hx with hx | hx
   · exact HN.out x hx
   · rw [List.mem_singleton.1 hx]; exact HYub.out
  go_wp2_with fail
  go_roundw
  case rel => exact ⟨j + 1, by omega, by go_num, hb3, HN2⟩
  case measure => simp [intOf]; omega
theorem implShelfOk_any (v1 v2 V VB : Value) (kv : Ks) (s : ShD) (B : Nat) (w : World) (h : ShelfO w B v1 v2 V VB kv s) (hz : ShSmall s) :
  Calls Tryz.prog 18 #[.agg #[v1, v2, V, VB, .int .i64 s.nx, .int .i64 s.sq]] w fun e w' => BoolIs (ShelfP s) w e w' := by
 obtain ⟨o1, c1, e1⟩ := slice_of_owns h.disk.cells
 obtain ⟨o2, c2, e2⟩ := slice_of_owns h.disk.pend
 obtain ⟨o3, c3, e3⟩ := slice_of_owns h.kept.row
 obtain ⟨o4, c4, e4⟩ := slice_of_owns h.bans
 subst e1 e2 e3 e4
 obtain ⟨n1, hn1⟩ := exq (s.cs.length)
 obtain ⟨n2, hn2⟩ := exq (s.ws.length)
 obtain ⟨n3, hn3⟩ := exq kv.length
 obtain ⟨n4, hn4⟩ := exq (s.bl.length)
 rw [← hn1, ← hn2, ← hn3, ← hn4] at h ⊢
 have HLN : Hid (s.cs.length = n1 ∧ s.ws.length = n2 ∧ kv.length = n3 ∧ s.bl.length = n4) := ⟨hn1.symm, hn2.symm, hn3.symm, hn4.symm⟩
 have HKS : Hid (kv.map (·.1) = s.ks) := h.2
 have HZ := hid hz
 have bn1 : n1 ≤ 1048576 := by rw [hn1]; exact hz.c
 have bn2 : n2 ≤ 1048576 := by rw [hn2]; exact hz.w
 have bn3 : n3 ≤ 1048576 := by rw [hn3, ← List.length_map (f := (·.1)), h.2]; exact hz.k
 have bn4 : n4 ≤ 1048576 := by rw [hn4]; exact hz.b
 have HSH : Hid (∀ W, Below w.heap.size w W → ShelfO W B (.slice o1 n1 c1) (.slice o2 n2 c2) (.slice o3 n3 c3) (.slice o4 n4 c4) kv s) := fun W hb => h.below hb
 have HKP : Hid (∀ W, Below w.heap.size w W → KeptsO W B (.slice o3 n3 c3) kv) := fun W hb => (h.below hb).kept
 have HLK : Hid (kv.length = n3) := hn3.symm
 clear hn1 hn2 hn3 hn4 h hz
 have hb0 := Below.refl w.heap.size w
 go_enter Tryz.func18, Tryz.ntmps18
 go_upto_region 1 with fail
 obtain ⟨q1, hq1⟩ := exq (w.heap.size)
 obtain ⟨w1, hW1⟩ := exq (w.alloc (.cells #[.slice o1 n1 c1, .slice o2 n2 c2, .slice o3 n3 c3, .slice o4 n4 c4, .int .i64 s.nx, .int .i64 s.sq] 38))
 have hz1 := hq1.symm
 rw [← hW1]; try rw [← hq1]
 have hs1 := hsa hW1 hz1
 have bw := bal hW1
 have hb1 := hbt hb0 bw
 have B1_1 := hnew hW1 hz1
 clear hb0 bw hW1 hz1
 clear hs1 hq1
 have c1_0 := (k6c B1_1).1
 have c1_1 := (k6c B1_1).2.1
 go_wp2_with fail
 refine (implDiskOk_any _ _ n1 s.cs n2 s.ws B _ (by have hd := (HSH.out _ hb1).disk; rw [HLN.out.1, HLN.out.2.1] at hd; exact hd) (by omega) (by omega)).mono ?_
 rintro e w2 ⟨ud, rfl, hud, bw⟩
 have hb2 := hbt hb1 bw
 have B1_2 := hblk B1_1 bw
 clear hb1 bw
 clear c1_0 c1_1
 cases ud
 ·have HNud : Hid (¬ (DiskP s.cs s.ws)) := fun h => nomatch hud.2 h
  clear hud
  go_wp2_with fail
  go_ret
  exact BoolIs.no (fun h => HNud.out h.1) hb2
 have HYud : Hid (DiskP s.cs s.ws) := hud.1 rfl
 clear hud
 have c1_4 := (k6c B1_2).2.2.2.2.1
 go_wp2_with fail
 refine (isObjectCell_any s.nx _).mono ?_
 rintro e w3 ⟨unx, rfl, hunx, bw⟩
 have hb3 := hbt hb2 bw
 have B1_3 := hblk B1_2 bw
 clear hb2 bw
 clear c1_4
 cases unx
 ·have HNunx : Hid (¬ (5 ≤ s.nx ∧ s.nx ≤ 19)) := fun h => nomatch hunx.2 h
  clear hunx
  go_wp2_with fail
  go_ret
  exact BoolIs.no (fun h => HNunx.out h.2.2.1) hb3
 have HYunx : Hid (5 ≤ s.nx ∧ s.nx ≤ 19) := hunx.1 rfl
 clear hunx
 by_cases hc1 : s.sq < 1
 ·have HQ1 := hid hc1
  have c1_5 := (k6c B1_3).2.2.2.2.2
  go_wp2_with fail
  go_ret
  exact BoolIs.no (fun h => by have h1 := HQ1.out; have h2 := h.2.2.2.1; omega) hb3
 have HQ1 := hid hc1
 have c1_5 := (k6c B1_3).2.2.2.2.2
 by_cases hc2 : 100000 < s.sq
 ·have HQ2 := hid hc2
  go_wp2_with fail
  go_ret
  exact BoolIs.no (fun h => by have h1 := HQ2.out; have h2 := h.2.2.2.1; omega) hb3
 have HQ2 := hid hc2
 have c1_2 := (k6c B1_3).2.2.1
 go_wp2_with fail
 refine (keptOk_any _ kv s.sq B _ (HKP.out _ hb3) (by rw [HLK.out]; exact bn3) (fun x hx => HZ.out.kv HKS.out hx)).mono ?_
 rintro e w4 ⟨uk, rfl, huk, bw⟩
 have hb4 := hbt hb3 bw
 have B1_4 := hblk B1_3 bw
 clear hb3 bw
 clear c1_5 c1_2
 cases uk
 ·have HNuk : Hid (¬ (∀ m, m < kv.length → KpOk (kv.map (·.1)) s.sq m)) := fun h => nomatch huk.2 h
  clear huk
  go_wp2_with fail
  go_ret
  exact BoolIs.no (fun h => HNuk.out (fun m hm => by rw [HKS.out]; exact h.2.2.2.2.2 m (by rw [← HKS.out, List.length_map]; exact hm))) hb4
 have HYuk : Hid (∀ m, m < kv.length → KpOk (kv.map (·.1)) s.sq m) := huk.1 rfl
 clear huk
 have c1_3 := (k6c B1_4).2.2.2.1
 go_wp2_with fail
 refine (bansOk_any _ s.bl B _ (by have hd := (HSH.out _ hb4).bans; exact hd) HZ.out.b HZ.out.bm).mono ?_
 rintro e w5 ⟨ub, rfl, hub, bw⟩
 have hb5 := hbt hb4 bw
 have B1_5 := hblk B1_4 bw
 clear hb4 bw
 clear c1_3
 cases ub
 ·have HNub : Hid (¬ (BansP s.bl)) := fun h => nomatch hub.2 h
  clear hub
  go_wp2_with fail
  go_ret
  exact BoolIs.no (fun h => HNub.out ⟨h.2.1, h.2.2.2.2.1⟩) hb5
 have HYub : Hid (BansP s.bl) := hub.1 rfl
 clear hub
 go_wp2_with fail
 go_ret
 exact BoolIs.yes ⟨HYud.out, HYub.out.1, HYunx.out, ⟨by have := HQ1.out; omega, by have := HQ2.out; omega⟩, HYub.out.2, fun i hi => by have hk := HYuk.out; rw [HKS.out] at hk; exact hk i (by rw [← HKS.out, List.length_map] at hi; exact hi)⟩ hb5
def encP (x : Tx) : List Value := [partV (some x)]
theorem bansPart_any (o : Oa) (n c : Nat) (w : World) (hn : n ≤ 1048576) (hT : TabOk w) :
  Calls Tryz.prog 28 #[.slice o n c] w fun e w' => e = .returned (partV (if n = 0 then none else some (bangT n))) ∧ Below w.heap.size w w' := by
 by_cases h0 : n = 0
 ·subst h0
  clear hn hT
  go_enter Tryz.func28, Tryz.ntmps28
  go_wp2_with fail
  go_ret
  exact ⟨rfl, Below.refl _ _⟩
 have HT : Hid (TabOk w) := hT
 have H0 : Hid (¬ n = 0) := h0
 have hne : ¬ (n : Int) = 0 := by omega
 obtain ⟨t, ht⟩ : ∃ t, t = numTextI ((n : Nat) : Int) := ⟨_, rfl⟩
 have HTT : Hid (numTextI ((n : Nat) : Int) = t) := ht.symm
 have zt : t.size ≤ 20 := by rw [ht]; exact numTextI_20 _
 clear hT ht h0
 go_enter Tryz.func28, Tryz.ntmps28
 go_wp2_with fail
 refine (implNumText_any ((n : Nat) : Int) _ (by omega) (by omega) HT.out).mono ?_
 rintro e w1 ⟨rfl, hb⟩
 rw [HTT.out]
 go_wp2_with fail
 go_ret
 have HB : Hid (bangT n = ⟨#[33]⟩ ++ t) := by show _ = _; unfold bangT; rw [HTT.out]
 exact ⟨by first | (rw [if_neg H0.out, HB.out]; rfl) | (rw [HB.out]; rfl), hb⟩
theorem infoAny : (Tryz.prog.info? 20).map (fun i => (i.zero, i.size, i.bytes)) = some (some .nilIface, 1, 16) := by kernel_rfl
def KnownPIs (ks : List KpD) (w : World) (e : Ending) (w' : World) : Prop := ∃ (o : Oa) (m p : Nat), e = .returned (.slice o m p) ∧ (knownPs ks).length = m ∧ w'.ownsRow w.heap.size 20 1 (.slice o m p) m ((knownPs ks).map partV) ∧ Below w.heap.size w w'
theorem knownParts_none (o : Oa) (c : Nat) (w : World) :
  Calls Tryz.prog 27 #[.slice o 0 c] w fun e w' => KnownPIs [] w e w' := by
 go_enter Tryz.func27, Tryz.ntmps27
 go_wp2_with fail
 go_ret
 exact ⟨some ⟨w.heap.size, 0, none⟩, 1, 1, rfl, rfl, ⟨rfl, .inr ⟨w.heap.size, 1, _, rfl, Nat.le_refl _, heap_alloc_new w _, Nat.le_refl _, by decide, rfl, rfl⟩⟩, (Below.refl _ _).alloc (Nat.le_refl _) _⟩
theorem encP_len (x : Tx) : (encP x).length = 1 := rfl
theorem enc_flat (ks : List KpD) : (ks.map showK).flatMap encP = (ks.map (fun k => some (showK k))).map partV := by
 induction ks with
 | nil => rfl
 | cons a l ih => rw [List.map_cons, List.flatMap_cons, ih]; rfl
def TellSt (w : World) (g n : Nat) (ks : List KpD) (k : Nat) (wr : World) : Prop := ∃ ls : Ts, ls.length = k ∧ ls = (ks.take k).map showK ∧ PartO encP 1 20 wr g n ls ∧ Below w.heap.size w wr
theorem knownParts_some (V : Value) (kv : Ks) (ks : List KpD) (B : Nat) (w : World) (h : KeptsO w B V kv) (hkm : kv.map (·.1) = ks) (hn : kv.length ≤ 1048576) (hpos : 0 < kv.length) (hal : ∀ x ∈ kv, x.1.p.size ≤ 60 ∧ 0 ≤ x.1.t ∧ x.1.t ≤ 1000000) (hT : TabOk w) :
  Calls Tryz.prog 27 #[V] w fun e w' => KnownPIs ks w e w' := by
 obtain ⟨o3, c3, e3⟩ := slice_of_owns h.row
 subst e3
 obtain ⟨n3, hn3⟩ := exq kv.length
 rw [← hn3] at h ⊢
 have hks := hkm.symm
 have HKS : Hid (kv.map (·.1) = ks) := hks.symm
 have HLK : Hid (kv.length = n3) := hn3.symm
 have bn3 : n3 ≤ 1048576 := by rw [hn3]; exact hn
 have HKP : Hid (∀ W, Below w.heap.size w W → KeptsO W B (.slice o3 n3 c3) kv) := fun W hb => KeptsO.below h hb
 clear hn3 hks hkm h hn
 have HAL := hid hal
 have HTAB : Hid (∀ W, Below w.heap.size w W → TabOk W) := fun W h => hT.below h
 have hne : ¬ (n3 : Int) = 0 := by have := HLK.out; omega
 have hn0 : n3 ≠ 0 := by omega
 obtain ⟨i0, hi, hz0, hz1, hz2⟩ := info_parts infoAny
 obtain ⟨M, hM⟩ : ∃ M, M = madeCells (Value.nilIface).cells (((n3 : Nat) : Int).toNat * i0.size) := ⟨_, rfl⟩
 have hmk : ∀ W : World, (Instr.makeSlice 68 (.int .i64 (n3 : Int)) (.int .i64 (n3 : Int))).run Tryz.prog W = .ok (.slice (some ⟨W.heap.size, 0, none⟩) n3 n3) (W.alloc (.cells M 20)) := fun W => by
  have h := run_make (P := Tryz.prog) W 68 20 i0 (.nilIface) Tryz.underlying68 hi hz0 .i64 .i64 (n3 : Int) (n3 : Int) (by omega) (by omega) (by rw [hz2]; omega) (by omega)
  rw [← hM] at h
  simpa using h
 have hMs : M.size = n3 * 1 := by rw [hM, size_madeCells, hz1]; simp
 obtain ⟨g, hg⟩ := exq (w.heap.size)
 have HG : Hid (w.heap.size = g) := hg.symm
 have HGE : Hid (w.heap.size ≤ g) := by show _ ≤ _; omega
 have HP0 : Hid (([] : Ts).length = 0 ∧ ([] : Ts) = (ks.take 0).map showK ∧ PartO encP 1 20 (w.alloc (.cells M 20)) g n3 []) := ⟨rfl, by simp, ⟨M, by rw [hg]; exact heap_alloc_new w _, hMs, fun i h => absurd h (by simp)⟩⟩
 have HPB : Hid (Below w.heap.size w (w.alloc (.cells M 20))) := (Below.refl _ _).alloc (Nat.le_refl _) _
 clear hM hMs hg hal hT hpos
 have hb0 := Below.refl w.heap.size w
 go_enter Tryz.func27, Tryz.ntmps27
 go_wp2_with fail
 rw [HG.out]
 go_loopw [16] (fun i wr => ∃ k : Nat, k ≤ n3 ∧ i = .int .i64 (k : Int) ∧ TellSt w g n3 ks k wr) (fun i _ => n3 - (intOf i).toNat)
 case atStart => exact ⟨0, Nat.zero_le _, rfl, [], HP0.out.1, HP0.out.2.1, HP0.out.2.2, HPB.out⟩
 case round =>
  obtain ⟨k, hk, rfl, ls, hp1, hp2, hp3, hpb⟩ := hrel
  have hpr : Hid (ls.length = k ∧ ls = (ks.take k).map showK ∧ PartO encP 1 20 wr g n3 ls) := ⟨hp1, hp2, hp3⟩
  have HBW := hid hpb
  clear hp1 hp2 hp3 hpb
  by_cases hlt : k < n3
  rotate_left
  ·obtain rfl : k = n3 := by omega
   have hlt2 : ¬ (k : Int) < (k : Int) := by omega
   obtain ⟨q1, q2, q3⟩ := hpr.out
   have HKL : Hid (ks.length = k) := by show _ = _; rw [← HKS.out, List.length_map, HLK.out]
   have HF : Hid ((knownPs ks).length = k ∧ wr.ownsRow w.heap.size 20 1 (.slice (some ⟨g, 0, none⟩) k k) k ((knownPs ks).map partV)) := by
    have e : knownPs ks = ks.map (fun k => some (showK k)) := by unfold knownPs; rw [if_neg (by rw [HKL.out]; omega)]
    refine ⟨by rw [e, List.length_map]; exact HKL.out, ?_⟩
    have h := q3.owns encP_len (by decide) q1 (by unfold maxLen; omega) (base := w.heap.size) (by rw [HG.out]; exact Nat.le_refl _)
    rw [q2, List.take_of_length_le (by rw [HKL.out]; exact Nat.le_refl _), enc_flat] at h
    rw [e]
    exact h
   clear q1 q2 q3
   go_wp2
   go_ret
   exact ⟨_, k, _, rfl, HF.out.1, HF.out.2, HBW.out⟩
  have hlt2 : (k : Int) < (n3 : Int) := by omega
  have hil : ¬ n3 ≤ k := by omega
  have hb1 := HBW.out
  have HLV : Hid (ls.length = k ∧ ls = (ks.take k).map showK) := ⟨hpr.out.1, hpr.out.2.1⟩
  have EP_1 : Hid (PartO encP 1 20 wr g n3 ls) := hpr.out.2.2
  clear hpr HBW hb0 HP0 HPB
  obtain ⟨g3, p3, hV, _, _⟩ := (HKP.out _ hb1).look k (by rw [HLK.out]; omega)
  rw [HLK.out] at hV
  injection hV with hV1 hV2 hV3
  subst hV1 hV3
  clear hV2
  obtain ⟨yX, hyX⟩ := exq (kvAt kv k)
  have HMy : Hid (yX ∈ kv) := by show _ ∈ _; rw [hyX]; exact kvAt_mem kv k (by rw [HLK.out]; omega)
  have HEy : Hid (kpAt ks k = yX.1) := by show _ = _; rw [hyX, ← HKS.out]; exact (kvAt_fst kv k (by rw [HLK.out]; omega)).symm
  have HTKy : Hid (kv.take (k + 1) = kv.take k ++ [yX]) := by show _ = _; rw [hyX]; exact kvAt_take kv k (by rw [HLK.out]; omega)
  have HKy : Hid (∀ W, Below w.heap.size w W → KpAt W g3 k yX) := fun W hb => by
   obtain ⟨g', p', hV, _, hc⟩ := (HKP.out W hb).look k (by rw [HLK.out]; omega)
   injection hV with hV1 _ _
   cases hV1
   rw [hyX]
   exact hc
  clear hyX
  obtain ⟨y, kuv1, kuv2, kuv3⟩ := yX
  obtain ⟨ku1, kc1, hu⟩ := slice_of_owns ((HKP.out _ hb1).names HMy.out)
  have hu' : kuv1 = .slice ku1 y.xs.length kc1 := hu
  subst hu'
  clear hu
  obtain ⟨ku2, kc2, hu⟩ := slice_of_owns ((HKP.out _ hb1).vals HMy.out)
  have hu' : kuv2 = .slice ku2 y.ys.length kc2 := hu
  subst hu'
  clear hu
  obtain ⟨ku3, kc3, hu⟩ := slice_of_owns ((HKP.out _ hb1).flds HMy.out)
  have hu' : kuv3 = .slice ku3 y.fs.length kc3 := hu
  subst hu'
  clear hu
  have r0y := (HKy.out _ hb1).c0
  have r1y := (HKy.out _ hb1).c1
  have r2y := (HKy.out _ hb1).c2
  have r3y := (HKy.out _ hb1).c3
  have r4y := (HKy.out _ hb1).c4
  have r5y := (HKy.out _ hb1).c5
  have r6y := (HKy.out _ hb1).c6
  have r7y := (HKy.out _ hb1).c7
  have r8y := (HKy.out _ hb1).c8
  dsimp only at r0y r1y r2y r3y r4y r5y r6y r7y r8y
  have zp := (HAL.out _ HMy.out).1
  dsimp only at zp
  go_upto_region 7 with fail
  obtain ⟨qv1, hqv1⟩ := exq (wr.heap.size)
  obtain ⟨w2, hW2⟩ := exq (wr.alloc (.cells #[.string y.p, .slice ku1 y.xs.length kc1, .slice ku2 y.ys.length kc2, .int .i64 y.st, .slice ku3 y.fs.length kc3, .string y.b, .int .i64 y.t, .int .i64 y.a, .int .i64 y.q] 63))
  have hz2 := hqv1.symm
  rw [← hW2]; try rw [← hqv1]
  have hs2 := hsa hW2 hz2
  have bw := bal hW2
  have hb2 := hbt hb1 bw
  have EP_2 : Hid (PartO encP 1 20 w2 g n3 ls) := PartO.below EP_1.out bw
  have B1_2 := hnew hW2 hz2
  have HNG : Hid (qv1 ≠ g) := fun e => by have h1 := EP_1.out.lt; omega
  clear hb1 bw hW2 hz2
  clear hs2 hqv1
  clear r0y r1y r2y r3y r4y r5y r6y r7y r8y
  go_upto_region 7 with fail
  refine wp_region_held_drew (S := fun W => W.heap[qv1]? = some (.cells #[.string y.p, .slice ku1 y.xs.length kc1, .slice ku2 y.ys.length kc2, .int .i64 y.st, .slice ku3 y.fs.length kc3, .string y.b, .int .i64 y.t, .int .i64 y.a, .int .i64 y.q] 63)) (by kernel_rfl) B1_2.out (fun _ => ?_)
  obtain ⟨w3, hX⟩ := exq w2.drew
  have bw := bdr hX
  rw [← hX]
  have hb3 := hbt hb2 bw
  have B1_3 := hblk B1_2 bw
  have EP_3 : Hid (PartO encP 1 20 w3 g n3 ls) := PartO.below EP_2.out bw
  have hS3 := B1_3.out
  clear hb2 bw hX
  refine tkP 0 (.slice (some ⟨g, 0, none⟩) n3 n3) 21 rfl rfl hS3 (tkP 1 (.int .i64 (k : Int)) 22 rfl rfl hS3 (tkP 2 (.pointer (some ⟨qv1, 0, none⟩)) 23 rfl rfl hS3 ?_))
  go_frame
  refine tkP 3 (.pointer (some ⟨qv1, 0, none⟩)) 24 rfl rfl hS3 ?_
  go_frame
  refine tkL 4 (.string y.p) 25 rfl rfl (Or.inl ⟨by rfl, by intro W hW; have hhv1 := hW; have y0 := (cell_of hhv1 0).trans rfl; go_simp⟩) hS3 ?_
  go_frame
  refine tkL 5 (.string (y.p ++ ⟨#[64]⟩)) 26 rfl rfl (Or.inl ⟨by rfl, by intro W _; go_simp <;> omega⟩) hS3 ?_
  go_frame
  refine tkP 6 (.pointer (some ⟨qv1, 0, none⟩)) 27 rfl rfl hS3 (tkP 7 (.pointer (some ⟨qv1, 6, none⟩)) 28 rfl rfl hS3 ?_)
  go_frame
  refine tkL 8 (.int .i64 y.t) 29 rfl rfl (Or.inl ⟨by rfl, by intro W hW; have hhv1 := hW; have y6 := (cell_of hhv1 6).trans rfl; go_simp⟩) hS3 ?_
  go_frame
  refine rd1 9 rfl (fun K hK => ?_)
  go_simp
  have zt1 := (HAL.out _ HMy.out).2
  dsimp only at zt1
  obtain ⟨tn, htn⟩ := exq (numTextI y.t)
  have HTN : Hid (numTextI y.t = tn) := htn.symm
  have ztn : tn.size ≤ 20 := by rw [htn]; exact numTextI_20 _
  clear htn
  refine (implNumText_any y.t _ (by omega) (by omega) (HTAB.out _ hb3)).mono ?_
  rintro e w4 ⟨rfl, bw⟩
  rw [HTN.out]
  clear zt1
  have hb4 := hbt hb3 bw
  have B1_4 := hblk B1_3 bw
  have EP_4 : Hid (PartO encP 1 20 w4 g n3 ls) := PartO.below EP_3.out bw
  clear hb3 bw
  have hS4 := B1_4.out
  refine hK.out _ _ hS4 (fun _ => ?_)
  clear hK K hS3
  refine tkL 10 (.string ((y.p ++ ⟨#[64]⟩) ++ tn)) 31 rfl rfl (Or.inl ⟨by rfl, by intro W _; go_simp <;> omega⟩) hS4 ?_
  go_frame
  refine tkP 11 (.iface 9 (.string ((y.p ++ ⟨#[64]⟩) ++ tn))) 32 rfl rfl hS4 (tkP 12 (.pointer (some ⟨g, k, none⟩)) 33 rfl rfl hS4 ?_)
  go_frame
  refine rd1 13 rfl (fun K hK => ?_)
  obtain ⟨u0, hu0⟩ := EP_4.out.cell k (by omega)
  have f0 := EP_4.out.frozen k
  obtain ⟨w5, hY⟩ := exq ((w4.setCell ⟨g, k, none⟩ (.iface 9 (.string ((y.p ++ ⟨#[64]⟩) ++ tn)))))
  have HY := hsy hY
  have HPT : Hid (PartO encP 1 20 w5 g n3 (ls ++ [((y.p ++ ⟨#[64]⟩) ++ tn)])) := by
   have h := EP_4.out.put encP_len (((y.p ++ ⟨#[64]⟩) ++ tn)) (by rw [HLV.out.1]; exact hlt)
   rw [HLV.out.1, Nat.mul_one] at h
   rw [hY]
   exact h
  have hb5 : Below w.heap.size w (w5) := by rw [hY]; exact hb4.setCell (p := ⟨g, k, none⟩) HGE.out _
  have B1_5 : Hid (w5.heap[qv1]? = some (.cells #[.string y.p, .slice ku1 y.xs.length kc1, .slice ku2 y.ys.length kc2, .int .i64 y.st, .slice ku3 y.fs.length kc3, .string y.b, .int .i64 y.t, .int .i64 y.a, .int .i64 y.q] 63)) := by show _ = _; rw [hY, heap_setCell_other _ _ _ _ HNG.out]; exact B1_4.out
  clear hY hb4
  go_simp
  rw [HY.out]
  have hS5 := B1_5.out
  refine hK.out _ _ hS5 (fun _ => ?_)
  clear hK K HY hS4 hu0 f0
  clear hS5
  refine wdn ?_
  have HLE : Hid ((ls ++ [((y.p ++ ⟨#[64]⟩) ++ tn)]).length = k + 1) := by show _ = _; rw [List.length_append, List.length_singleton, HLV.out.1]
  have HLS : Hid (ls ++ [((y.p ++ ⟨#[64]⟩) ++ tn)] = (ks.take (k + 1)).map showK) := by
   show _ = _
   rw [kpAt_take ks k (by rw [← HKS.out, List.length_map, HLK.out]; omega), List.map_append, List.map_cons, List.map_nil, ← HLV.out.2, HEy.out]
   unfold showK
   rw [HTN.out]
  go_wp2_with fail
  go_roundw
  case rel => first | exact ⟨k + 1, by omega, by go_num, _, HLE.out, HLS.out, HPT.out, hb5⟩ | exact ⟨_, _, _, ⟨k + 1, by omega, by go_num, _, HLE.out, HLS.out, HPT.out, hb5⟩, rfl, rfl, rfl⟩
  case measure => simp [intOf]; omega
theorem knownParts_any (V : Value) (kv : Ks) (ks : List KpD) (B : Nat) (w : World) (h : KeptsO w B V kv) (hkm : kv.map (·.1) = ks) (hn : kv.length ≤ 1048576) (hal : ∀ x ∈ kv, x.1.p.size ≤ 60 ∧ 0 ≤ x.1.t ∧ x.1.t ≤ 1000000) (hT : TabOk w) :
  Calls Tryz.prog 27 #[V] w fun e w' => KnownPIs ks w e w' := by
 by_cases h0 : kv.length = 0
 rotate_left
 · exact knownParts_some V kv ks B w h hkm hn (by omega) hal hT
 obtain ⟨o, c, rfl⟩ := slice_of_owns h.row
 obtain rfl : kv = [] := List.eq_nil_of_length_eq_zero h0
 subst hkm
 exact knownParts_none o c w
theorem implShelfText_bans (v1 v2 V VB : Value) (kv : Ks) (s : ShD) (B : Nat) (w : World) (h : ShelfO w B v1 v2 V VB kv s) (hz : ShSmall s) (hT : TabOk w) (hgb : ¬ s.bl.length = 0) :
  Calls Tryz.prog 8 #[.agg #[v1, v2, V, VB, .int .i64 s.nx, .int .i64 s.sq]] w fun e w' => TextIs (shelfT s) w e w' := by
 obtain ⟨o1, c1, e1⟩ := slice_of_owns h.disk.cells
 obtain ⟨o2, c2, e2⟩ := slice_of_owns h.disk.pend
 obtain ⟨o3, c3, e3⟩ := slice_of_owns h.kept.row
 obtain ⟨o4, c4, e4⟩ := slice_of_owns h.bans
 subst e1 e2 e3 e4
 obtain ⟨n1, hn1⟩ := exq (s.cs.length)
 obtain ⟨n2, hn2⟩ := exq (s.ws.length)
 obtain ⟨n3, hn3⟩ := exq kv.length
 obtain ⟨n4, hn4⟩ := exq (s.bl.length)
 rw [← hn1, ← hn2, ← hn3, ← hn4] at h ⊢
 have HLN : Hid (s.cs.length = n1 ∧ s.ws.length = n2 ∧ kv.length = n3 ∧ s.bl.length = n4) := ⟨hn1.symm, hn2.symm, hn3.symm, hn4.symm⟩
 have HKS : Hid (kv.map (·.1) = s.ks) := h.2
 have HZ := hid hz
 have bn1 : n1 ≤ 1048576 := by rw [hn1]; exact hz.c
 have bn2 : n2 ≤ 1048576 := by rw [hn2]; exact hz.w
 have bn3 : n3 ≤ 1048576 := by rw [hn3, ← List.length_map (f := (·.1)), h.2]; exact hz.k
 have bn4 : n4 ≤ 1048576 := by rw [hn4]; exact hz.b
 have HSH : Hid (∀ W, Below w.heap.size w W → ShelfO W B (.slice o1 n1 c1) (.slice o2 n2 c2) (.slice o3 n3 c3) (.slice o4 n4 c4) kv s) := fun W hb => h.below hb
 have HKP : Hid (∀ W, Below w.heap.size w W → KeptsO W B (.slice o3 n3 c3) kv) := fun W hb => (h.below hb).kept
 have HLK : Hid (kv.length = n3) := hn3.symm
 clear hn1 hn2 hn3 hn4 h hz
 have HTAB : Hid (∀ W, Below w.heap.size w W → TabOk W) := fun W h => hT.below h
 obtain ⟨i0, hi, hz0, hz1, hz2⟩ := info_parts infoAny
 have HN4 : Hid (¬ n4 = 0) := by have h := HLN.out.2.2.2; show ¬ _; rw [← h]; exact hgb
 obtain ⟨bt, hbt⟩ := exq (bangT n4)
 have HBP : Hid (partV (if n4 = 0 then none else some (bangT n4)) = .iface 9 (.string bt)) := by show _ = _; rw [if_neg HN4.out, ← hbt]; rfl
 obtain ⟨rt, hrt⟩ := exq (joinS (shownL (knownPs s.ks ++ [some bt])))
 have HJN : Hid (joinS (shownL (knownPs s.ks ++ [some bt])) = rt) := hrt.symm
 have HRT : Hid (ShelfP s → rt = shelfT s) := fun hs => by
  obtain ⟨o, ho⟩ : ∃ o, o = if s.ks.length = 0 then (⟨#[45]⟩ : Tx) else showTo s.ks s.ks.length := ⟨_, rfl⟩
  have h := shelfT_yes hs ho
  have h2 := (knownPs_shown s.ks).2.trans ho.symm
  clear ho
  rw [h, hrt]
  rw [shown_snoc_yes, joinS_snoc _ _ (knownPs_shown s.ks).1, h2, if_neg (by rw [HLN.out.2.2.2]; exact HN4.out), hbt, HLN.out.2.2.2]
 have HBZ : Hid (bt.size ≤ 30) := by show _ ≤ _; rw [hbt]; exact bangT_size _
 clear hrt hbt hT hgb
 have hb0 := Below.refl w.heap.size w
 go_enter Tryz.func8, Tryz.ntmps8
 go_upto_region 1 with fail
 obtain ⟨q1, hq1⟩ := exq (w.heap.size)
 obtain ⟨w1, hW1⟩ := exq (w.alloc (.cells #[.slice o1 n1 c1, .slice o2 n2 c2, .slice o3 n3 c3, .slice o4 n4 c4, .int .i64 s.nx, .int .i64 s.sq] 38))
 have hz1 := hq1.symm
 rw [← hW1]; try rw [← hq1]
 have hs1 := hsa hW1 hz1
 have bw := bal hW1
 have hb1 := hbt hb0 bw
 have B1_1 := hnew hW1 hz1
 clear hb0 bw hW1 hz1
 clear hs1 hq1
 have c1_0 := (k6c B1_1).1
 have c1_1 := (k6c B1_1).2.1
 have c1_2 := (k6c B1_1).2.2.1
 have c1_3 := (k6c B1_1).2.2.2.1
 have c1_4 := (k6c B1_1).2.2.2.2.1
 have c1_5 := (k6c B1_1).2.2.2.2.2
 go_wp2_with fail
 refine (implShelfOk_any _ _ _ _ kv s B _ (by have h := (HSH.out _ hb1); exact h) HZ.out).mono ?_
 rintro e w2 ⟨us, rfl, hus, bw⟩
 have hb2 := hbt hb1 bw
 have B1_2 := hblk B1_1 bw
 clear hb1 bw
 clear c1_0 c1_1 c1_2 c1_3 c1_4 c1_5
 cases us
 ·have HNus : Hid (¬ (ShelfP s)) := fun h => nomatch hus.2 h
  clear hus
  go_wp2_with fail
  go_ret
  exact TextIs.of (shelfT_no HNus.out).symm hb2
 have HYus : Hid (ShelfP s) := hus.1 rfl
 clear hus
 have HALL : Hid (∀ i, i < s.ks.length → (kpAt s.ks i).p.size ≤ 60 ∧ 0 ≤ (kpAt s.ks i).t ∧ (kpAt s.ks i).t ≤ 1000000) := fun i hi => by
  have h := (HYus.out.2.2.2.2.2 i hi).1
  exact ⟨h.2.1.2.2.1, h.2.2.1.1, h.2.2.1.2⟩
 have HAL : Hid (∀ x ∈ kv, x.1.p.size ≤ 60 ∧ 0 ≤ x.1.t ∧ x.1.t ≤ 1000000) := fun x hx => by
  obtain ⟨i, hi, e⟩ := List.getElem_of_mem (show x.1 ∈ s.ks by rw [← HKS.out]; exact List.mem_map.2 ⟨x, hx, rfl⟩)
  rw [kpAt_get] at e
  have := HALL.out i hi
  rw [e] at this
  exact this
 have HKZ : Hid (∀ x ∈ shownL (knownPs s.ks), x.size ≤ 100) := knownPs_sizes (fun i hi => (HALL.out i hi).1)
 have HSZ : Hid (∀ x ∈ shownL (knownPs s.ks ++ [some bt]), x.size ≤ 1048576) := fun x hx => by
  rw [shown_snoc_yes] at hx
  rcases List.mem_append.1 hx with hx | hx
  · have := HKZ.out x hx; omega
  · rw [List.mem_singleton.1 hx]; have := HBZ.out; omega
 have hb5 := HYus.out.2.1
 have HKN : Hid ((knownPs s.ks).length ≤ 1048577) := by
  have h1 := (knownPs_len s.ks).2
  have h2 : s.ks.length = n3 := by rw [← HKS.out, List.length_map, HLK.out]
  show _ ≤ _
  omega
 go_upto_region 3 with fail
 refine wp_region_held_drew (S := fun W => W.heap[q1]? = some (.cells #[.slice o1 n1 c1, .slice o2 n2 c2, .slice o3 n3 c3, .slice o4 n4 c4, .int .i64 s.nx, .int .i64 s.sq] 38)) (by kernel_rfl) B1_2.out (fun _ => ?_)
 obtain ⟨w3, hX⟩ := exq w2.drew
 have bw := bdr hX
 rw [← hX]
 have hb3 := hbt hb2 bw
 have B1_3 := hblk B1_2 bw
 have hS3 := B1_3.out
 clear hb2 bw hX
 refine tkP 0 (.pointer (some ⟨q1, 2, none⟩)) 6 rfl rfl hS3 ?_
 go_frame
 refine tkL 1 (.slice o3 n3 c3) 7 rfl rfl (Or.inl ⟨by rfl, by intro W hW; have hhv1 := hW; have y2 := (cell_of hhv1 2).trans rfl; go_simp⟩) hS3 ?_
 go_frame
 refine tkP 3 (.pointer (some ⟨q1, 3, none⟩)) 9 rfl rfl hS3 ?_
 go_frame
 refine tkL 4 (.slice o4 n4 c4) 10 rfl rfl (Or.inl ⟨by rfl, by intro W hW; have hhv1 := hW; have y3 := (cell_of hhv1 3).trans rfl; go_simp⟩) hS3 ?_
 go_frame
 refine rd1 2 rfl (fun K hK => ?_)
 go_simp
 refine (knownParts_any _ kv s.ks B _ (HKP.out _ hb3) HKS.out (by rw [HLK.out]; exact bn3) HAL.out (HTAB.out _ hb3)).mono ?_
 rintro e w4 ⟨oKN, mKN, pKN, rfl, hmm, ownKN, bw⟩
 have HMM : Hid (mKN ≤ 1048577) := by show _ ≤ _; rw [← hmm]; exact HKN.out
 have HME := hid hmm
 clear hmm
 have hb4 := hbt hb3 bw
 have B1_4 := hblk B1_3 bw
 have HOKN_4 := hwd ownKN hb3.size
 clear ownKN
 clear hb3 bw
 have hS4 := B1_4.out
 refine hK.out _ _ hS4 (fun _ => ?_)
 clear hK K hS3
 refine rd1 5 rfl (fun K hK => ?_)
 go_simp
 refine (bansPart_any o4 n4 c4 _ bn4 (HTAB.out _ hb4)).mono ?_
 rintro e w5 ⟨rfl, bw⟩
 rw [HBP.out]
 have hb5 := hbt hb4 bw
 have HOKN_5 := hown HOKN_4 bw
 have B1_5 := hblk B1_4 bw
 clear hb4 bw
 have hS5 := B1_5.out
 refine hK.out _ _ hS5 (fun _ => ?_)
 clear hK K hS4
 refine rd1 6 rfl (fun K hK => ?_)
 go_simp
 have bw : Below w5.heap.size w5 (w5.alloc (.cells #[.iface 9 (.string bt)] 20)) := (Below.refl _ _).alloc (Nat.le_refl _) _
 have hSA : (w5.alloc (.cells #[.iface 9 (.string bt)] 20)).heap[q1]? = some (.cells #[.slice o1 n1 c1, .slice o2 n2 c2, .slice o3 n3 c3, .slice o4 n4 c4, .int .i64 s.nx, .int .i64 s.sq] 38) := blk_below B1_5.out bw
 refine hK.out _ _ hSA (fun _ => ?_)
 clear hK K hSA bw hS5
 obtain ⟨q2, hq2⟩ := exq (w5.heap.size)
 obtain ⟨w6, hXj⟩ := exq ((w5.alloc (.cells #[.iface 9 (.string bt)] 20)))
 rw [← hq2, ← hXj]
 have bw := bal hXj
 have hb6 := hbt hb5 bw
 have HOKN_6 := hown HOKN_5 bw
 have B1_6 := hblk B1_5 bw
 have B2_6 : Hid (w6.heap[q2]? = some (.cells #[.iface 9 (.string bt)] 20)) := by show _ = _; rw [hXj, hq2]; exact heap_alloc_new _ _
 have hS6 := B1_6.out
 clear hb5 bw hXj hq2
 refine rd1 7 rfl (fun K hK => ?_)
 have hrw := HOKN_6.out
 have h63 : mKN + 1 ≤ maxLen := by have := HMM.out; unfold maxLen; omega
 have h47 : (mKN + 1) * 16 ≤ 140737488355328 := by have := HMM.out; omega
 refine step_append_lies w6 (by rfl) _ _ 68 (by rfl) w.heap.size 20 i0 (.nilIface) 1 16 Tryz.underlying68 hi hz0 hz1 hz2 rfl (by decide) _ _ _ (by rfl) hrw ⟨q2, 0, none⟩ 1 1 [.iface 9 (.string bt)] (by rfl) rfl (World.news_of_block B2_6.out) (by intro u hu; simp only [List.mem_cons, List.not_mem_nil, or_false] at hu; subst hu; rfl) (by decide) h63 h47 hb6.size _ rfl ?_
 intro gL cpL w7 hown2 hgrow hloc hltg
 have hb7 : Below w.heap.size w (w7) := hb6.grown hgrow hb6.size (fun g hg => owns_ge hrw hg)
 have B1_7 : Hid (w7.heap[q1]? = some (.cells #[.slice o1 n1 c1, .slice o2 n2 c2, .slice o3 n3 c3, .slice o4 n4 c4, .int .i64 s.nx, .int .i64 s.sq] 38)) := (hgrow.block _ (blt B1_6.out) (fun e => own_ne hrw B1_6.out (by decide) _ e.symm rfl)).trans B1_6.out
 have HOKNp_7 := hid hown2
 clear hrw h63 h47 hown2 hgrow hloc hltg hb6
 simp only [Act.put, List.setIfInBounds_toArray]
 have hS7 := B1_7.out
 refine hK.out _ _ hS7 (fun _ => ?_)
 clear hK K hS6
 refine rd1 8 rfl (fun K hK => ?_)
 go_simp
 refine (rowText_any _ (mKN + 1) w.heap.size (knownPs s.ks ++ [some bt]) _ (by rw [List.length_append, List.length_singleton, HME.out]) (by rw [List.map_append]; exact HOKNp_7.out) (by have := HMM.out; omega) HSZ.out).mono ?_
 rintro e w8 ⟨rfl, bw⟩
 rw [HJN.out]
 have hb8 := hbt hb7 bw
 have HOKNp_8 := hown HOKNp_7 bw
 have B1_8 := hblk B1_7 bw
 clear hb7 bw
 have hS8 := B1_8.out
 refine hK.out _ _ hS8 (fun _ => ?_)
 clear hK K hS7
 refine tkP 9 (.string rt) 2 rfl rfl hS8 ?_
 simp only [Act.put]
 clear hS8
 refine wdn ?_
 go_wp2_with fail
 go_ret
 exact TextIs.of (HRT.out HYus.out) hb8
theorem implShelfText_none (v1 v2 V VB : Value) (kv : Ks) (s : ShD) (B : Nat) (w : World) (h : ShelfO w B v1 v2 V VB kv s) (hz : ShSmall s) (hT : TabOk w) (hgb : s.bl.length = 0) :
  Calls Tryz.prog 8 #[.agg #[v1, v2, V, VB, .int .i64 s.nx, .int .i64 s.sq]] w fun e w' => TextIs (shelfT s) w e w' := by
 obtain ⟨o1, c1, e1⟩ := slice_of_owns h.disk.cells
 obtain ⟨o2, c2, e2⟩ := slice_of_owns h.disk.pend
 obtain ⟨o3, c3, e3⟩ := slice_of_owns h.kept.row
 obtain ⟨o4, c4, e4⟩ := slice_of_owns h.bans
 subst e1 e2 e3 e4
 obtain ⟨n1, hn1⟩ := exq (s.cs.length)
 obtain ⟨n2, hn2⟩ := exq (s.ws.length)
 obtain ⟨n3, hn3⟩ := exq kv.length
 obtain ⟨n4, hn4⟩ := exq (s.bl.length)
 rw [← hn1, ← hn2, ← hn3, ← hn4] at h ⊢
 have HLN : Hid (s.cs.length = n1 ∧ s.ws.length = n2 ∧ kv.length = n3 ∧ s.bl.length = n4) := ⟨hn1.symm, hn2.symm, hn3.symm, hn4.symm⟩
 have HKS : Hid (kv.map (·.1) = s.ks) := h.2
 have HZ := hid hz
 have bn1 : n1 ≤ 1048576 := by rw [hn1]; exact hz.c
 have bn2 : n2 ≤ 1048576 := by rw [hn2]; exact hz.w
 have bn3 : n3 ≤ 1048576 := by rw [hn3, ← List.length_map (f := (·.1)), h.2]; exact hz.k
 have bn4 : n4 ≤ 1048576 := by rw [hn4]; exact hz.b
 have HSH : Hid (∀ W, Below w.heap.size w W → ShelfO W B (.slice o1 n1 c1) (.slice o2 n2 c2) (.slice o3 n3 c3) (.slice o4 n4 c4) kv s) := fun W hb => h.below hb
 have HKP : Hid (∀ W, Below w.heap.size w W → KeptsO W B (.slice o3 n3 c3) kv) := fun W hb => (h.below hb).kept
 have HLK : Hid (kv.length = n3) := hn3.symm
 clear hn1 hn2 hn3 hn4 h hz
 have HTAB : Hid (∀ W, Below w.heap.size w W → TabOk W) := fun W h => hT.below h
 obtain ⟨i0, hi, hz0, hz1, hz2⟩ := info_parts infoAny
 have HN4 : Hid (n4 = 0) := by have h := HLN.out.2.2.2; show _; rw [← h]; exact hgb
 obtain ⟨bt, hbt⟩ := exq (bangT n4)
 have HBP : Hid (partV (if n4 = 0 then none else some (bangT n4)) = .nilIface) := by show _ = _; rw [if_pos HN4.out]; rfl
 obtain ⟨rt, hrt⟩ := exq (joinS (shownL (knownPs s.ks ++ [none])))
 have HJN : Hid (joinS (shownL (knownPs s.ks ++ [none])) = rt) := hrt.symm
 have HRT : Hid (ShelfP s → rt = shelfT s) := fun hs => by
  obtain ⟨o, ho⟩ : ∃ o, o = if s.ks.length = 0 then (⟨#[45]⟩ : Tx) else showTo s.ks s.ks.length := ⟨_, rfl⟩
  have h := shelfT_yes hs ho
  have h2 := (knownPs_shown s.ks).2.trans ho.symm
  clear ho
  rw [h, hrt]
  rw [shown_snoc_no, h2, if_pos (by rw [HLN.out.2.2.2]; exact HN4.out)]
 have HBZ : Hid (bt.size ≤ 30) := by show _ ≤ _; rw [hbt]; exact bangT_size _
 clear hrt hbt hT hgb
 have hb0 := Below.refl w.heap.size w
 go_enter Tryz.func8, Tryz.ntmps8
 go_upto_region 1 with fail
 obtain ⟨q1, hq1⟩ := exq (w.heap.size)
 obtain ⟨w1, hW1⟩ := exq (w.alloc (.cells #[.slice o1 n1 c1, .slice o2 n2 c2, .slice o3 n3 c3, .slice o4 n4 c4, .int .i64 s.nx, .int .i64 s.sq] 38))
 have hz1 := hq1.symm
 rw [← hW1]; try rw [← hq1]
 have hs1 := hsa hW1 hz1
 have bw := bal hW1
 have hb1 := hbt hb0 bw
 have B1_1 := hnew hW1 hz1
 clear hb0 bw hW1 hz1
 clear hs1 hq1
 have c1_0 := (k6c B1_1).1
 have c1_1 := (k6c B1_1).2.1
 have c1_2 := (k6c B1_1).2.2.1
 have c1_3 := (k6c B1_1).2.2.2.1
 have c1_4 := (k6c B1_1).2.2.2.2.1
 have c1_5 := (k6c B1_1).2.2.2.2.2
 go_wp2_with fail
 refine (implShelfOk_any _ _ _ _ kv s B _ (by have h := (HSH.out _ hb1); exact h) HZ.out).mono ?_
 rintro e w2 ⟨us, rfl, hus, bw⟩
 have hb2 := hbt hb1 bw
 have B1_2 := hblk B1_1 bw
 clear hb1 bw
 clear c1_0 c1_1 c1_2 c1_3 c1_4 c1_5
 cases us
 ·have HNus : Hid (¬ (ShelfP s)) := fun h => nomatch hus.2 h
  clear hus
  go_wp2_with fail
  go_ret
  exact TextIs.of (shelfT_no HNus.out).symm hb2
 have HYus : Hid (ShelfP s) := hus.1 rfl
 clear hus
 have HALL : Hid (∀ i, i < s.ks.length → (kpAt s.ks i).p.size ≤ 60 ∧ 0 ≤ (kpAt s.ks i).t ∧ (kpAt s.ks i).t ≤ 1000000) := fun i hi => by
  have h := (HYus.out.2.2.2.2.2 i hi).1
  exact ⟨h.2.1.2.2.1, h.2.2.1.1, h.2.2.1.2⟩
 have HAL : Hid (∀ x ∈ kv, x.1.p.size ≤ 60 ∧ 0 ≤ x.1.t ∧ x.1.t ≤ 1000000) := fun x hx => by
  obtain ⟨i, hi, e⟩ := List.getElem_of_mem (show x.1 ∈ s.ks by rw [← HKS.out]; exact List.mem_map.2 ⟨x, hx, rfl⟩)
  rw [kpAt_get] at e
  have := HALL.out i hi
  rw [e] at this
  exact this
 have HKZ : Hid (∀ x ∈ shownL (knownPs s.ks), x.size ≤ 100) := knownPs_sizes (fun i hi => (HALL.out i hi).1)
 have HSZ : Hid (∀ x ∈ shownL (knownPs s.ks ++ [none]), x.size ≤ 1048576) := fun x hx => by
  rw [shown_snoc_no] at hx
  have := HKZ.out x hx
  omega
 have hb5 := HYus.out.2.1
 have HKN : Hid ((knownPs s.ks).length ≤ 1048577) := by
  have h1 := (knownPs_len s.ks).2
  have h2 : s.ks.length = n3 := by rw [← HKS.out, List.length_map, HLK.out]
  show _ ≤ _
  omega
 go_upto_region 3 with fail
 refine wp_region_held_drew (S := fun W => W.heap[q1]? = some (.cells #[.slice o1 n1 c1, .slice o2 n2 c2, .slice o3 n3 c3, .slice o4 n4 c4, .int .i64 s.nx, .int .i64 s.sq] 38)) (by kernel_rfl) B1_2.out (fun _ => ?_)
 obtain ⟨w3, hX⟩ := exq w2.drew
 have bw := bdr hX
 rw [← hX]
 have hb3 := hbt hb2 bw
 have B1_3 := hblk B1_2 bw
 have hS3 := B1_3.out
 clear hb2 bw hX
 refine tkP 0 (.pointer (some ⟨q1, 2, none⟩)) 6 rfl rfl hS3 ?_
 go_frame
 refine tkL 1 (.slice o3 n3 c3) 7 rfl rfl (Or.inl ⟨by rfl, by intro W hW; have hhv1 := hW; have y2 := (cell_of hhv1 2).trans rfl; go_simp⟩) hS3 ?_
 go_frame
 refine tkP 3 (.pointer (some ⟨q1, 3, none⟩)) 9 rfl rfl hS3 ?_
 go_frame
 refine tkL 4 (.slice o4 n4 c4) 10 rfl rfl (Or.inl ⟨by rfl, by intro W hW; have hhv1 := hW; have y3 := (cell_of hhv1 3).trans rfl; go_simp⟩) hS3 ?_
 go_frame
 refine rd1 2 rfl (fun K hK => ?_)
 go_simp
 refine (knownParts_any _ kv s.ks B _ (HKP.out _ hb3) HKS.out (by rw [HLK.out]; exact bn3) HAL.out (HTAB.out _ hb3)).mono ?_
 rintro e w4 ⟨oKN, mKN, pKN, rfl, hmm, ownKN, bw⟩
 have HMM : Hid (mKN ≤ 1048577) := by show _ ≤ _; rw [← hmm]; exact HKN.out
 have HME := hid hmm
 clear hmm
 have hb4 := hbt hb3 bw
 have B1_4 := hblk B1_3 bw
 have HOKN_4 := hwd ownKN hb3.size
 clear ownKN
 clear hb3 bw
 have hS4 := B1_4.out
 refine hK.out _ _ hS4 (fun _ => ?_)
 clear hK K hS3
 refine rd1 5 rfl (fun K hK => ?_)
 go_simp
 refine (bansPart_any o4 n4 c4 _ bn4 (HTAB.out _ hb4)).mono ?_
 rintro e w5 ⟨rfl, bw⟩
 rw [HBP.out]
 have hb5 := hbt hb4 bw
 have HOKN_5 := hown HOKN_4 bw
 have B1_5 := hblk B1_4 bw
 clear hb4 bw
 have hS5 := B1_5.out
 refine hK.out _ _ hS5 (fun _ => ?_)
 clear hK K hS4
 refine rd1 6 rfl (fun K hK => ?_)
 go_simp
 have bw : Below w5.heap.size w5 (w5.alloc (.cells #[.nilIface] 20)) := (Below.refl _ _).alloc (Nat.le_refl _) _
 have hSA : (w5.alloc (.cells #[.nilIface] 20)).heap[q1]? = some (.cells #[.slice o1 n1 c1, .slice o2 n2 c2, .slice o3 n3 c3, .slice o4 n4 c4, .int .i64 s.nx, .int .i64 s.sq] 38) := blk_below B1_5.out bw
 refine hK.out _ _ hSA (fun _ => ?_)
 clear hK K hSA bw hS5
 obtain ⟨q2, hq2⟩ := exq (w5.heap.size)
 obtain ⟨w6, hXj⟩ := exq ((w5.alloc (.cells #[.nilIface] 20)))
 rw [← hq2, ← hXj]
 have bw := bal hXj
 have hb6 := hbt hb5 bw
 have HOKN_6 := hown HOKN_5 bw
 have B1_6 := hblk B1_5 bw
 have B2_6 : Hid (w6.heap[q2]? = some (.cells #[.nilIface] 20)) := by show _ = _; rw [hXj, hq2]; exact heap_alloc_new _ _
 have hS6 := B1_6.out
 clear hb5 bw hXj hq2
 refine rd1 7 rfl (fun K hK => ?_)
 have hrw := HOKN_6.out
 have h63 : mKN + 1 ≤ maxLen := by have := HMM.out; unfold maxLen; omega
 have h47 : (mKN + 1) * 16 ≤ 140737488355328 := by have := HMM.out; omega
 refine step_append_lies w6 (by rfl) _ _ 68 (by rfl) w.heap.size 20 i0 (.nilIface) 1 16 Tryz.underlying68 hi hz0 hz1 hz2 rfl (by decide) _ _ _ (by rfl) hrw ⟨q2, 0, none⟩ 1 1 [.nilIface] (by rfl) rfl (World.news_of_block B2_6.out) (by intro u hu; simp only [List.mem_cons, List.not_mem_nil, or_false] at hu; subst hu; rfl) (by decide) h63 h47 hb6.size _ rfl ?_
 intro gL cpL w7 hown2 hgrow hloc hltg
 have hb7 : Below w.heap.size w (w7) := hb6.grown hgrow hb6.size (fun g hg => owns_ge hrw hg)
 have B1_7 : Hid (w7.heap[q1]? = some (.cells #[.slice o1 n1 c1, .slice o2 n2 c2, .slice o3 n3 c3, .slice o4 n4 c4, .int .i64 s.nx, .int .i64 s.sq] 38)) := (hgrow.block _ (blt B1_6.out) (fun e => own_ne hrw B1_6.out (by decide) _ e.symm rfl)).trans B1_6.out
 have HOKNp_7 := hid hown2
 clear hrw h63 h47 hown2 hgrow hloc hltg hb6
 simp only [Act.put, List.setIfInBounds_toArray]
 have hS7 := B1_7.out
 refine hK.out _ _ hS7 (fun _ => ?_)
 clear hK K hS6
 refine rd1 8 rfl (fun K hK => ?_)
 go_simp
 refine (rowText_any _ (mKN + 1) w.heap.size (knownPs s.ks ++ [none]) _ (by rw [List.length_append, List.length_singleton, HME.out]) (by rw [List.map_append]; exact HOKNp_7.out) (by have := HMM.out; omega) HSZ.out).mono ?_
 rintro e w8 ⟨rfl, bw⟩
 rw [HJN.out]
 have hb8 := hbt hb7 bw
 have HOKNp_8 := hown HOKNp_7 bw
 have B1_8 := hblk B1_7 bw
 clear hb7 bw
 have hS8 := B1_8.out
 refine hK.out _ _ hS8 (fun _ => ?_)
 clear hK K hS7
 refine tkP 9 (.string rt) 2 rfl rfl hS8 ?_
 simp only [Act.put]
 clear hS8
 refine wdn ?_
 go_wp2_with fail
 go_ret
 exact TextIs.of (HRT.out HYus.out) hb8
theorem implShelfText_any (v1 v2 V VB : Value) (kv : Ks) (s : ShD) (B : Nat) (w : World) (h : ShelfO w B v1 v2 V VB kv s) (hz : ShSmall s) (hT : TabOk w) :
  Calls Tryz.prog 8 #[.agg #[v1, v2, V, VB, .int .i64 s.nx, .int .i64 s.sq]] w fun e w' => TextIs (shelfT s) w e w' := by
 by_cases hg : s.bl.length = 0
 · exact implShelfText_none v1 v2 V VB kv s B w h hz hT hg
 exact implShelfText_bans v1 v2 V VB kv s B w h hz hT hg
theorem eqShelf_go (s : ShD) (n1 n2 n3 n4 : Nat) (oCx oPx oKx oBx oCy oPy oKy oBy : Oa) (pCx pPx pKx pBx pCy pPy pKy pBy : Nat) (kvx kvy : Ks) (Bx By : Nat) (w : World) (HL : Hid (s.cs.length = n1 ∧ s.ws.length = n2 ∧ s.bl.length = n4)) (HN : Hid (n1 ≤ 2000000 ∧ n2 ≤ 2000000 ∧ kvx.length ≤ 2000000 ∧ n4 ≤ 2000000)) (HSZ : Hid (∀ x ∈ kvx, x.1.xs.length ≤ 2000000 ∧ x.1.ys.length ≤ 2000000 ∧ x.1.fs.length ≤ 2000000)) (HKE : Hid (kvx.map (·.1) = kvy.map (·.1))) (Ex_0 : Hid (ShelfO (w) Bx (.slice oCx n1 pCx) (.slice oPx n2 pPx) (.slice oKx n3 pKx) (.slice oBx n4 pBx) kvx s)) (Ey_0 : Hid (ShelfO (w) By (.slice oCy n1 pCy) (.slice oPy n2 pPy) (.slice oKy n3 pKy) (.slice oBy n4 pBy) kvy s)) :
  Calls Tryz.prog 9 #[.agg #[.slice oCx n1 pCx, .slice oPx n2 pPx, .slice oKx n3 pKx, .slice oBx n4 pBx, .int .i64 s.nx, .int .i64 s.sq], .agg #[.slice oCy n1 pCy, .slice oPy n2 pPy, .slice oKy n3 pKy, .slice oBy n4 pBy, .int .i64 s.nx, .int .i64 s.sq]] w fun e w' => e = .returned (.bool true) ∧ Below w.heap.size w w' := by
 have hnx : (s.nx != s.nx) = false := by simp
 have hsq : (s.sq != s.sq) = false := by simp
 have hb0 := Below.refl w.heap.size w
 go_enter Tryz.func9, Tryz.ntmps9
 go_upto_region 1 with fail
 obtain ⟨q1, hq1⟩ := exq (w.heap.size)
 obtain ⟨w1, hW1⟩ := exq (w.alloc (.cells #[.slice oCx n1 pCx, .slice oPx n2 pPx, .slice oKx n3 pKx, .slice oBx n4 pBx, .int .i64 s.nx, .int .i64 s.sq] 38))
 have hz1 := hq1.symm
 rw [← hW1]; try rw [← hq1]
 have hs1 := hsa hW1 hz1
 have bw := bal hW1
 have hb1 := hbt hb0 bw
 have Ex_1 := hid (Ex_0.out.below bw)
 have Ey_1 := hid (Ey_0.out.below bw)
 have B1_1 := hnew hW1 hz1
 clear hb0 Ex_0 Ey_0 bw hW1 hz1
 obtain ⟨q2, hq2⟩ := exq (q1 + 1)
 obtain ⟨w2, hW2⟩ := exq (w1.alloc (.cells #[.slice oCy n1 pCy, .slice oPy n2 pPy, .slice oKy n3 pKy, .slice oBy n4 pBy, .int .i64 s.nx, .int .i64 s.sq] 38))
 have hz2 : w1.heap.size = q2 := by rw [hq2]; exact hs1
 rw [← hW2]; try rw [← hq2]
 have hs2 := hsa hW2 hz2
 have bw := bal hW2
 have hb2 := hbt hb1 bw
 have B1_2 := hblk B1_1 bw
 have Ex_2 := hid (Ex_1.out.below bw)
 have Ey_2 := hid (Ey_1.out.below bw)
 have B2_2 := hnew hW2 hz2
 clear hb1 Ex_1 Ey_1 bw hW2 hz2
 clear hs2 hq2 hs1 hq1
 have c1_0 := (k6c B1_2).1
 have c1_1 := (k6c B1_2).2.1
 have c2_0 := (k6c B2_2).1
 have c2_1 := (k6c B2_2).2.1
 go_wp2_with fail
 refine (eqDisk_any n1 s.cs n2 s.ws _ _ _ _ Bx By _ (show DiskO _ Bx _ n1 s.cs _ n2 s.ws from by have h := Ex_2.out.disk; rw [HL.out.1, HL.out.2.1] at h; exact h) (show DiskO _ By _ n1 s.cs _ n2 s.ws from by have h := Ey_2.out.disk; rw [HL.out.1, HL.out.2.1] at h; exact h) HN.out.1 HN.out.2.1).mono ?_
 rintro e w3 ⟨rfl, bw⟩
 have hb3 := hbt hb2 bw
 have B1_3 := hblk B1_2 bw
 have B2_3 := hblk B2_2 bw
 have Ex_3 := hid (Ex_2.out.below bw)
 have Ey_3 := hid (Ey_2.out.below bw)
 clear hb2 Ex_2 Ey_2 bw
 clear c1_0 c1_1 c2_0 c2_1
 have c1_2 := (k6c B1_3).2.2.1
 have c2_2 := (k6c B2_3).2.2.1
 go_wp2_with fail
 refine (eqKeptS_any _ _ kvx kvy Bx By _ HKE.out Ex_3.out.kept Ey_3.out.kept HN.out.2.2.1 HSZ.out).mono ?_
 rintro e w4 ⟨rfl, bw⟩
 have hb4 := hbt hb3 bw
 have B1_4 := hblk B1_3 bw
 have B2_4 := hblk B2_3 bw
 have Ex_4 := hid (Ex_3.out.below bw)
 have Ey_4 := hid (Ey_3.out.below bw)
 clear hb3 Ex_3 Ey_3 bw
 clear c1_2 c2_2
 have c1_3 := (k6c B1_4).2.2.2.1
 have c2_3 := (k6c B2_4).2.2.2.1
 go_wp2_with fail
 refine (eqBanS_any _ _ n4 _ _ s.bl _ (ban_view (show World.ownsRow _ Bx 111 4 _ n4 (flatBan s.bl) from by have h := Ex_4.out.bans; rw [HL.out.2.2] at h; exact h)) (ban_view (show World.ownsRow _ By 111 4 _ n4 (flatBan s.bl) from by have h := Ey_4.out.bans; rw [HL.out.2.2] at h; exact h)) HN.out.2.2.2).mono ?_
 rintro e w5 ⟨rfl, bw⟩
 have hb5 := hbt hb4 bw
 have B1_5 := hblk B1_4 bw
 have B2_5 := hblk B2_4 bw
 have Ex_5 := hid (Ex_4.out.below bw)
 have Ey_5 := hid (Ey_4.out.below bw)
 clear hb4 Ex_4 Ey_4 bw
 clear c1_3 c2_3
 have c1_4 := (k6c B1_5).2.2.2.2.1
 have c2_4 := (k6c B2_5).2.2.2.2.1
 have c1_5 := (k6c B1_5).2.2.2.2.2
 have c2_5 := (k6c B2_5).2.2.2.2.2
 go_wp2_with fail
 go_ret
 exact ⟨rfl, hb5⟩
theorem eqShelf_any (s : ShD) (v1 v2 V VB u1 u2 U UB : Value) (kvx kvy : Ks) (Bx By : Nat) (w : World) (hx : ShelfO w Bx v1 v2 V VB kvx s) (hy : ShelfO w By u1 u2 U UB kvy s) (h1 : s.cs.length ≤ 2000000) (h2 : s.ws.length ≤ 2000000) (h3 : s.ks.length ≤ 2000000) (h4 : s.bl.length ≤ 2000000) (hs : ∀ k ∈ s.ks, k.xs.length ≤ 2000000 ∧ k.ys.length ≤ 2000000 ∧ k.fs.length ≤ 2000000) :
  Calls Tryz.prog 9 #[.agg #[v1, v2, V, VB, .int .i64 s.nx, .int .i64 s.sq], .agg #[u1, u2, U, UB, .int .i64 s.nx, .int .i64 s.sq]] w fun e w' => e = .returned (.bool true) ∧ Below w.heap.size w w' := by
 obtain ⟨oCx, pCx, rfl⟩ := slice_of_owns hx.disk.cells
 obtain ⟨oPx, pPx, rfl⟩ := slice_of_owns hx.disk.pend
 obtain ⟨oBx, pBx, rfl⟩ := slice_of_owns hx.bans
 obtain ⟨oKx, pKx, rfl⟩ := hx.kept.len
 obtain ⟨oCy, pCy, rfl⟩ := slice_of_owns hy.disk.cells
 obtain ⟨oPy, pPy, rfl⟩ := slice_of_owns hy.disk.pend
 obtain ⟨oBy, pBy, rfl⟩ := slice_of_owns hy.bans
 obtain ⟨oKy, pKy, rfl⟩ := hy.kept.len
 have e1 : kvx.length = s.ks.length := by rw [← hx.2, List.length_map]
 have e2 : kvy.length = s.ks.length := by rw [← hy.2, List.length_map]
 rw [e1] at hx ⊢
 rw [e2] at hy ⊢
 exact eqShelf_go s _ _ _ _ oCx oPx oKx oBx oCy oPy oKy oBy pCx pPx pKx pBx pCy pPy pKy pBy kvx kvy Bx By w ⟨rfl, rfl, rfl⟩ ⟨h1, h2, by rw [e1]; exact h3, h4⟩ (fun x hxm => hs x.1 (by rw [← hx.2]; exact List.mem_map.2 ⟨x, hxm, rfl⟩)) (hx.2.trans hy.2.symm) hx hy
def SzShelf (L : Int) (n1 : Nat) (cs : Ts) (n2 : Nat) (ws : List (Int × ByteArray)) (ks : List KpD) (n4 : Nat) (bl : Bs) (w : World) (e : Ending) (w' : World) : Prop :=
 ∃ r : Int, e = .returned (.int .i64 r) ∧ r ≤ L ∧ (0 ≤ r → r + (n1 : Int) + (n2 : Int) + (wtK ks : Int) + (n4 : Int) ≤ L ∧ (n1 ≤ 1048576 ∧ ∀ i, i < n1 → (textAt cs i).size ≤ 1048576) ∧ (n2 ≤ 1048576 ∧ ∀ x ∈ ws, (x.2).size ≤ 1048576) ∧ (∀ k ∈ ks, KpSmall k) ∧ (n4 ≤ 1048576 ∧ ∀ x ∈ bl, (x.2.1).size ≤ 1048576 ∧ (x.2.2.1).size ≤ 1048576)) ∧ Below w.heap.size w w'
theorem szShelf_any (L : Int) (hL0 : 0 ≤ L) (hL1 : L ≤ 1048576) (a1 : Oa) (n1 c1 : Nat) (cs : Ts) (a2 : Oa) (n2 c2 : Nat) (ws : List (Int × ByteArray)) (a3 : Oa) (n3 c3 : Nat) (ks : List KpD) (a4 : Oa) (n4 c4 : Nat) (bl : Bs) (nx sq : Int) (B : Nat) (w : World) (h1 : ArgT w B a1 n1 cs) (h2 : ArgWrite w B a2 n2 ws) (h3 : ArgKept w B a3 n3 ks) (h4 : ArgBan w B a4 n4 bl) (hB : B ≤ w.heap.size) (hm : n1 ≤ maxLen ∧ n2 ≤ maxLen ∧ n3 ≤ maxLen ∧ n4 ≤ maxLen ∧ (∀ i, i < n1 → (textAt cs i).size ≤ maxLen) ∧ (∀ x ∈ ws, (x.2).size ≤ maxLen) ∧ (∀ k ∈ ks, KpMax k) ∧ ∀ x ∈ bl, (x.2.1).size ≤ maxLen ∧ (x.2.2.1).size ≤ maxLen) :
  Calls Tryz.prog 5 #[.agg #[.slice a1 n1 c1, .slice a2 n2 c2, .slice a3 n3 c3, .slice a4 n4 c4, .int .i64 nx, .int .i64 sq], .int .i64 L] w fun e w' => SzShelf L n1 cs n2 ws ks n4 bl w e w' := by
 have HA1 : Hid (∀ W, Below w.heap.size w W → ArgT W B a1 n1 cs) := fun W h => h1.below (h.mono hB)
 have HA2 : Hid (∀ W, Below w.heap.size w W → ArgWrite W B a2 n2 ws) := fun W h => h2.below (h.mono hB)
 have HA3 : Hid (∀ W, Below w.heap.size w W → ArgKept W B a3 n3 ks) := fun W h => h3.below (h.mono hB)
 have HA4 : Hid (∀ W, Below w.heap.size w W → ArgBan W B a4 n4 bl) := fun W h => h4.below (h.mono hB)
 have HBB : Hid (∀ W, Below w.heap.size w W → B ≤ W.heap.size) := fun W h => Nat.le_trans hB h.size
 have HM := hid hm
 clear h1 h2 h3 h4 hm hB
 have hb0 := Below.refl w.heap.size w
 go_enter Tryz.func5, Tryz.ntmps5
 go_upto_region 1 with fail
 obtain ⟨q1, hq1⟩ := exq (w.heap.size)
 obtain ⟨w1, hW1⟩ := exq (w.alloc (.cells #[.slice a1 n1 c1, .slice a2 n2 c2, .slice a3 n3 c3, .slice a4 n4 c4, .int .i64 nx, .int .i64 sq] 29))
 have hz1 := hq1.symm
 rw [← hW1]; try rw [← hq1]
 have hs1 := hsa hW1 hz1
 have bw := bal hW1
 have hb1 := hbt hb0 bw
 have B1_1 := hnew hW1 hz1
 clear hb0 bw hW1 hz1
 clear hs1 hq1
 have c1_0 := (k6c B1_1).1
 have c1_1 := (k6c B1_1).2.1
 go_wp2_with fail
 refine (szDisk_room L (by omega) (by omega) a1 n1 c1 cs a2 n2 c2 ws B _ (HA1.out _ hb1) (HA2.out _ hb1) (HBB.out _ hb1) HM.out.1 HM.out.2.1 HM.out.2.2.2.2.1 HM.out.2.2.2.2.2.1).mono ?_
 rintro e w2 ⟨r1, rfl, hl1, hr1, bw⟩
 have hb2 := hbt hb1 bw
 have B1_2 := hblk B1_1 bw
 clear hb1 bw
 clear c1_0 c1_1
 by_cases hc1 : r1 < 0
 ·clear hr1
  go_wp2_with fail
  go_ret
  exact ⟨-1, rfl, by omega, fun h => absurd h (by omega), hb2⟩
 have HR1 : Hid _ := hr1 (by omega)
 clear hr1
 have m1 := HR1.out.1
 have c1_2 := (k6c B1_2).2.2.1
 go_wp2_with fail
 refine (szKeptS_any r1 (by omega) (by omega) B a3 n3 c3 ks _ (HA3.out _ hb2) (HBB.out _ hb2) HM.out.2.2.1 HM.out.2.2.2.2.2.2.1).mono ?_
 rintro e w3 ⟨r2, rfl, hl2, hr2, bw⟩
 have hb3 := hbt hb2 bw
 have B1_3 := hblk B1_2 bw
 clear hb2 bw
 clear c1_2
 by_cases hc2 : r2 < 0
 ·clear hr2
  go_wp2_with fail
  go_ret
  exact ⟨-1, rfl, by omega, fun h => absurd h (by omega), hb3⟩
 have HR2 : Hid _ := hr2 (by omega)
 clear hr2
 have m2 := HR2.out.1
 have c1_3 := (k6c B1_3).2.2.2.1
 go_wp2_with fail
 refine (szBanS_room r2 (by omega) (by omega) B a4 n4 c4 bl _ (HA4.out _ hb3) (HBB.out _ hb3) HM.out.2.2.2.1 HM.out.2.2.2.2.2.2.2).mono ?_
 rintro e w4 ⟨r3, rfl, hl3, hr3, bw⟩
 have hb4 := hbt hb3 bw
 have B1_4 := hblk B1_3 bw
 clear hb3 bw
 clear c1_3
 by_cases hc3 : r3 < 0
 ·clear hr3
  go_wp2_with fail
  go_ret
  exact ⟨-1, rfl, by omega, fun h => absurd h (by omega), hb4⟩
 have HR3 : Hid _ := hr3 (by omega)
 clear hr3
 have m3 := HR3.out.1
 go_wp2_with fail
 go_ret
 exact ⟨r3, rfl, by omega, fun _ => ⟨by omega, HR1.out.2.1, HR1.out.2.2, HR2.out.2, HR3.out.2⟩, hb4⟩
end Go.Proofs.YtopeegjmpphjnaaGreatDoor
namespace Go.Proofs.YtopeegjmpphjnaaGreatDoor
open Go.RowKit Go.WideShapes
open Go.Lib hiding intOf
theorem objCells {H : Type} {enc : TypeId × Value → H} {W : World} {fuel : Nat} {d0 d1 d2 d3 d4 d5 d6 : Value} {x : DataW H × List MemPlace} (hf : DataW.trod enc Tryz.prog W 0 (fun _ => true) true fuel 104 [d0, d1, d2, d3, d4, d5, d6] = some x) :
  ∃ (p : Tx) (a1 : Oa) (n1 c1 : Nat) (xs : Ts) (a2 : Oa) (n2 c2 : Nat) (ys : Ts) (st : Int) (a3 : Oa) (n3 c3 : Nat) (fs : Fs) (b : Tx) (t : Int), (d0 = .string p ∧ d1 = .slice a1 n1 c1 ∧ d2 = .slice a2 n2 c2 ∧ d3 = .int .i64 st ∧ d4 = .slice a3 n3 c3 ∧ d5 = .string b ∧ d6 = .int .i64 t) ∧ ArgT W W.heap.size a1 n1 xs ∧ ArgT W W.heap.size a2 n2 ys ∧ ArgF W W.heap.size a3 n3 fs ∧ n1 ≤ maxLen ∧ n2 ≤ maxLen ∧ n3 ≤ maxLen ∧ (∀ i, i < n1 → (textAt xs i).size ≤ maxLen) ∧ (∀ i, i < n2 → (textAt ys i).size ≤ maxLen) ∧ WalkF n3 fs ∧ p.size ≤ maxLen ∧ b.size ≤ maxLen := by
 obtain ⟨ys, q, _, _, _, hyl, hg⟩ := DataW.trod_struct Tryz.underlying104 hf
 have hcR : Tryz.prog.cellsOf 102 = 3 := by kernel_rfl
 have e3 : Tryz.prog.cellsOf 3 = 1 := by kernel_rfl
 have e9 : Tryz.prog.cellsOf 9 = 1 := by kernel_rfl
 have eL : Tryz.prog.cellsOf 100 = 1 := by kernel_rfl
 have eS : Tryz.prog.cellsOf 22 = 1 := by kernel_rfl
 have g0 := hg 0 _ rfl
 have g1 := hg 1 _ rfl
 have g2 := hg 2 _ rfl
 have g3 := hg 3 _ rfl
 have g4 := hg 4 _ rfl
 simp [e3, e9, eS, hcR] at g0 g1 g2 g3 g4
 have hy5 : ys.length = 5 := hyl
 rw [List.getElem?_eq_getElem (show 0 < ys.length by omega)] at g0
 rw [List.getElem?_eq_getElem (show 1 < ys.length by omega)] at g1
 rw [List.getElem?_eq_getElem (show 2 < ys.length by omega)] at g2
 rw [List.getElem?_eq_getElem (show 3 < ys.length by omega)] at g3
 rw [List.getElem?_eq_getElem (show 4 < ys.length by omega)] at g4
 obtain ⟨zs, q2, _, _, _, hzl, hk⟩ := DataW.trod_struct Tryz.underlying102 g3
 have k0 := hk 0 _ rfl
 have k1 := hk 1 _ rfl
 have k2 := hk 2 _ rfl
 simp [e3, e9, eL] at k0 k1 k2
 have hz3 : zs.length = 3 := hzl
 rw [List.getElem?_eq_getElem (show 0 < zs.length by omega)] at k0
 rw [List.getElem?_eq_getElem (show 1 < zs.length by omega)] at k1
 rw [List.getElem?_eq_getElem (show 2 < zs.length by omega)] at k2
 obtain ⟨p, hp, _, hps⟩ := DataW.trod_string Tryz.underlying9 g0
 obtain ⟨t, ht, _, _⟩ := DataW.trod_int Tryz.underlying3 g4
 obtain ⟨st, hst, _, _⟩ := DataW.trod_int Tryz.underlying3 k0
 obtain ⟨b, hb, _, hbs⟩ := DataW.trod_string Tryz.underlying9 k2
 obtain ⟨a1, n1, c1, rfl⟩ : ∃ a n cap, d1 = .slice a n cap := by
  rcases DataW.trod_slice Tryz.underlying22 g1 with ⟨h, _⟩ | ⟨a, n, cap, _, _, _, _, h, _⟩
  · exact ⟨none, 0, 0, by simpa using h⟩
  · exact ⟨_, n, cap, by simpa using h⟩
 obtain ⟨a2, n2, c2, rfl⟩ : ∃ a n cap, d2 = .slice a n cap := by
  rcases DataW.trod_slice Tryz.underlying22 g2 with ⟨h, _⟩ | ⟨a, n, cap, _, _, _, _, h, _⟩
  · exact ⟨none, 0, 0, by simpa using h⟩
  · exact ⟨_, n, cap, by simpa using h⟩
 obtain ⟨a3, n3, c3, rfl⟩ : ∃ a n cap, d4 = .slice a n cap := by
  rcases DataW.trod_slice Tryz.underlying100 k1 with ⟨h, _⟩ | ⟨a, n, cap, _, _, _, _, h, _⟩
  · exact ⟨none, 0, 0, by simpa using h⟩
  · exact ⟨_, n, cap, by simpa using h⟩
 obtain ⟨xs, x1, x2, x3⟩ := openTexts g1
 obtain ⟨ws, y1, y2, y3⟩ := openTexts g2
 obtain ⟨fs, z1, z2, z3⟩ := openFields k1
 simp only [List.cons.injEq, and_true] at hp ht hst hb
 subst hp ht hst hb
 exact ⟨p, a1, n1, c1, xs, a2, n2, c2, ws, st, a3, n3, c3, fs, b, t, ⟨rfl, rfl, rfl, rfl, rfl, rfl, rfl⟩, x1, y1, z1, x2, y2, z2, x3, y3, z3, hps, hbs⟩
theorem openKeptS {H : Type} {enc : TypeId × Value → H} {W : World} {fuel : Nat} {a : Oa} {n cap : Nat} {x : DataW H × List MemPlace} (h : DataW.trod enc Tryz.prog W 0 (fun _ => true) true fuel 26 [.slice a n cap] = some x) :
  ∃ ks, ArgKept W W.heap.size a n ks ∧ n ≤ maxLen ∧ ∀ k ∈ ks, KpMax k := by
 rcases Go.Deep.open_slice Tryz.underlying26 h with ⟨hcs, _⟩ | ⟨ad, len, c, m, q, Dd, Pl, hcs, _, hl, hm, hmm, _, hx⟩
 ·simp at hcs
  obtain ⟨rfl, rfl, rfl⟩ := hcs
  exact ⟨[], ⟨rfl, fun i hi => absurd hi (by omega)⟩, Nat.zero_le _, fun x hx => by simp at hx⟩
 ·simp at hcs
  obtain ⟨rfl, rfl, rfl⟩ := hcs
  have hm2 : m = cap := by simpa using hmm
  have ce : Tryz.prog.cellsOf 106 = 9 := by kernel_rfl
  have co : Tryz.prog.cellsOf 104 = 7 := by kernel_rfl
  have ci : Tryz.prog.cellsOf 3 = 1 := by kernel_rfl
  have each : ∀ i, i < n → ∃ y : KpD, (∃ (a1 : Oa) (n1 c1 : Nat) (a2 : Oa) (n2 c2 : Nat) (a3 : Oa) (n3 c3 : Nat), (W.cell? (ad.add (i * 9 + 0)) = some (.string y.p) ∧ W.cell? (ad.add (i * 9 + 1)) = some (.slice a1 n1 c1) ∧ W.cell? (ad.add (i * 9 + 2)) = some (.slice a2 n2 c2) ∧ W.cell? (ad.add (i * 9 + 3)) = some (.int .i64 y.st) ∧ W.cell? (ad.add (i * 9 + 4)) = some (.slice a3 n3 c3) ∧ W.cell? (ad.add (i * 9 + 5)) = some (.string y.b) ∧ W.cell? (ad.add (i * 9 + 6)) = some (.int .i64 y.t) ∧ W.cell? (ad.add (i * 9 + 7)) = some (.int .i64 y.a) ∧ W.cell? (ad.add (i * 9 + 8)) = some (.int .i64 y.q)) ∧ ArgT W W.heap.size a1 n1 y.xs ∧ ArgT W W.heap.size a2 n2 y.ys ∧ ArgF W W.heap.size a3 n3 y.fs) ∧ KpMax y := by
   intro i hi
   obtain ⟨cs', h1, h2⟩ := hx i (by omega)
   rw [ce] at h1
   obtain ⟨_, hlen, hcell⟩ := World.cells?_some h1
   obtain ⟨xs, k, hk, hxy, _, hxl, hf⟩ := DataW.trod_struct Tryz.underlying106 h2
   match xs, hxl, cs', hlen with
   | [x0, x1, x2], _, [v0, v1, v2, v3, v4, v5, v6, v7, v8], _ =>
    have g0 := hf 0 _ rfl
    have g1 := hf 1 _ rfl
    have g2 := hf 2 _ rfl
    simp [ci, co] at g0 g1 g2
    obtain ⟨p, a1, n1, c1, xs, a2, n2, c2, ys, st, a3, n3, c3, fs, b, t, ⟨rfl, rfl, rfl, rfl, rfl, rfl, rfl⟩, w1, w2, w3, m1, m2, m3, s1, s2, s3, s4, s5⟩ := objCells g0
    obtain ⟨ka, e1, _, _⟩ := DataW.trod_int Tryz.underlying3 g1
    obtain ⟨kq, e2, _, _⟩ := DataW.trod_int Tryz.underlying3 g2
    simp only [List.cons.injEq, and_true] at e1 e2
    subst e1 e2
    have c0x := hcell 0 (by omega)
    have c1x := hcell 1 (by omega)
    have c2x := hcell 2 (by omega)
    have c3x := hcell 3 (by omega)
    have c4x := hcell 4 (by omega)
    have c5x := hcell 5 (by omega)
    have c6x := hcell 6 (by omega)
    have c7x := hcell 7 (by omega)
    have c8x := hcell 8 (by omega)
    rw [Go.Deep.add_add] at c0x c1x c2x c3x c4x c5x c6x c7x c8x
    refine ⟨⟨p, xs, ys, st, fs, b, t, ka, kq⟩, ⟨a1, n1, c1, a2, n2, c2, a3, n3, c3, ⟨by simpa using c0x, by simpa using c1x, by simpa using c2x, by simpa using c3x, by simpa using c4x, by simpa using c5x, by simpa using c6x, by simpa using c7x, by simpa using c8x⟩, w1, w2, w3⟩, ?_⟩
    unfold KpMax
    show xs.length ≤ maxLen ∧ ys.length ≤ maxLen ∧ fs.length ≤ maxLen ∧ (∀ i, i < xs.length → (textAt xs i).size ≤ maxLen) ∧ (∀ i, i < ys.length → (textAt ys i).size ≤ maxLen) ∧ WalkF fs.length fs ∧ p.size ≤ maxLen ∧ b.size ≤ maxLen
    rw [w1.len, w2.len, w3.len]
    exact ⟨m1, m2, m3, s1, s2, s3, s4, s5⟩
  haveI : Inhabited KpD := ⟨zeroK⟩
  obtain ⟨q, hq⟩ := Go.Deep.choose_lt each
  have hat : ∀ i, i < n → kpAt ((List.range n).map q) i = q i := fun i hi => by
   unfold kpAt
   rw [List.getD_eq_getElem?_getD, List.getElem?_map, List.getElem?_range hi]
   rfl
  refine ⟨(List.range n).map q, ⟨by simp, fun i hi => ?_⟩, by omega, fun x hx => ?_⟩
  ·obtain ⟨⟨a1, n1, c1, a2, n2, c2, a3, n3, c3, cc, w1, w2, w3⟩, _⟩ := hq i hi
   have hsp : ad.spot = none := by
    obtain ⟨⟨_, _, _, _, _, _, _, _, _, c3, _⟩, _⟩ := hq 0 (by omega)
    have := World.cell?_spot c3.1
    simpa [Addr.add] using this
   obtain ⟨b, off, sp⟩ := ad
   simp only at hsp
   subst hsp
   simp only [addr_add] at cc
   rw [hat i hi]
   have hlt := World.block_lt_of_cell? W _ cc.1
   exact ⟨b, off, rfl, hlt, a1, n1, c1, a2, n2, c2, a3, n3, c3, ⟨by simpa [Nat.add_assoc] using cc.1, by simpa [Nat.add_assoc] using cc.2.1, by simpa [Nat.add_assoc] using cc.2.2.1, by simpa [Nat.add_assoc] using cc.2.2.2.1, by simpa [Nat.add_assoc] using cc.2.2.2.2.1, by simpa [Nat.add_assoc] using cc.2.2.2.2.2.1, by simpa [Nat.add_assoc] using cc.2.2.2.2.2.2.1, by simpa [Nat.add_assoc] using cc.2.2.2.2.2.2.2.1, by simpa [Nat.add_assoc] using cc.2.2.2.2.2.2.2.2⟩, w1, w2, w3⟩
  ·obtain ⟨i, hi, rfl⟩ := List.mem_map.1 hx
   exact (hq i (List.mem_range.1 hi)).2
theorem openShelf {H : Type} {enc : TypeId × Value → H} {W : World} {r : Reach} {b0 : Nat} {v : Value} {d : DataW H} {ps : List MemPlace} (hval : Value.okWide Tryz.prog W r b0 29 v) (h : DataW.Trod enc Tryz.prog W 0 (fun _ => true) true 29 v d ps) :
  ∃ (a1 : Oa) (n1 c1 : Nat) (cs : Ts) (a2 : Oa) (n2 c2 : Nat) (ws : List (Int × ByteArray)) (a3 : Oa) (n3 c3 : Nat) (ks : List KpD) (a4 : Oa) (n4 c4 : Nat) (bl : Bs) (nx sq : Int), v = .agg #[.slice a1 n1 c1, .slice a2 n2 c2, .slice a3 n3 c3, .slice a4 n4 c4, .int .i64 nx, .int .i64 sq] ∧ ArgT W W.heap.size a1 n1 cs ∧ ArgWrite W W.heap.size a2 n2 ws ∧ ArgKept W W.heap.size a3 n3 ks ∧ ArgBan W W.heap.size a4 n4 bl ∧ (n1 ≤ maxLen ∧ n2 ≤ maxLen ∧ n3 ≤ maxLen ∧ n4 ≤ maxLen ∧ (∀ i, i < n1 → (textAt cs i).size ≤ maxLen) ∧ (∀ x ∈ ws, (x.2).size ≤ maxLen) ∧ (∀ k ∈ ks, KpMax k) ∧ ∀ x ∈ bl, (x.2.1).size ≤ maxLen ∧ (x.2.2.1).size ≤ maxLen) := by
 obtain ⟨cs, rfl, hsz⟩ := okWide_struct Tryz.underlying29 hval
 obtain ⟨fuel, hf⟩ := h
 obtain ⟨ys, q, _, _, _, hyl, hg⟩ := DataW.trod_struct Tryz.underlying29 hf
 have hc6 : Tryz.prog.cellsOf 29 = 6 := by kernel_rfl
 have hcD : Tryz.prog.cellsOf 25 = 2 := by kernel_rfl
 have e3 : Tryz.prog.cellsOf 3 = 1 := by kernel_rfl
 have eK : Tryz.prog.cellsOf 26 = 1 := by kernel_rfl
 have eB : Tryz.prog.cellsOf 27 = 1 := by kernel_rfl
 have eS : Tryz.prog.cellsOf 22 = 1 := by kernel_rfl
 have eW : Tryz.prog.cellsOf 23 = 1 := by kernel_rfl
 rw [hc6] at hsz
 obtain ⟨l⟩ := cs
 obtain ⟨d0, d1, d2, d3, d4, d5, rfl⟩ : ∃ d0 d1 d2 d3 d4 d5, l = [d0, d1, d2, d3, d4, d5] := by
  match l, hsz with
  | [d0, d1, d2, d3, d4, d5], _ => exact ⟨d0, d1, d2, d3, d4, d5, rfl⟩
 have g0 := hg 0 _ rfl
 have g1 := hg 1 _ rfl
 have g2 := hg 2 _ rfl
 have g3 := hg 3 _ rfl
 have g4 := hg 4 _ rfl
 simp [Value.cells, e3, eK, eB, hcD] at g0 g1 g2 g3 g4
 have hy5 : ys.length = 5 := hyl
 rw [List.getElem?_eq_getElem (show 0 < ys.length by omega)] at g0
 rw [List.getElem?_eq_getElem (show 1 < ys.length by omega)] at g1
 rw [List.getElem?_eq_getElem (show 2 < ys.length by omega)] at g2
 rw [List.getElem?_eq_getElem (show 3 < ys.length by omega)] at g3
 rw [List.getElem?_eq_getElem (show 4 < ys.length by omega)] at g4
 obtain ⟨zs, q2, _, _, _, hzl, hk⟩ := DataW.trod_struct Tryz.underlying25 g0
 have k0 := hk 0 _ rfl
 have k1 := hk 1 _ rfl
 simp [eS, eW] at k0 k1
 have hz2 : zs.length = 2 := hzl
 rw [List.getElem?_eq_getElem (show 0 < zs.length by omega)] at k0
 rw [List.getElem?_eq_getElem (show 1 < zs.length by omega)] at k1
 obtain ⟨a1, n1, c1, rfl⟩ : ∃ a n cap, d0 = .slice a n cap := by
  rcases DataW.trod_slice Tryz.underlying22 k0 with ⟨h, _⟩ | ⟨a, n, cap, _, _, _, _, h, _⟩
  · exact ⟨none, 0, 0, by simpa using h⟩
  · exact ⟨_, n, cap, by simpa using h⟩
 obtain ⟨a2, n2, c2, rfl⟩ : ∃ a n cap, d1 = .slice a n cap := by
  rcases DataW.trod_slice Tryz.underlying23 k1 with ⟨h, _⟩ | ⟨a, n, cap, _, _, _, _, h, _⟩
  · exact ⟨none, 0, 0, by simpa using h⟩
  · exact ⟨_, n, cap, by simpa using h⟩
 obtain ⟨a3, n3, c3, rfl⟩ : ∃ a n cap, d2 = .slice a n cap := by
  rcases DataW.trod_slice Tryz.underlying26 g1 with ⟨h, _⟩ | ⟨a, n, cap, _, _, _, _, h, _⟩
  · exact ⟨none, 0, 0, by simpa using h⟩
  · exact ⟨_, n, cap, by simpa using h⟩
 obtain ⟨a4, n4, c4, rfl⟩ : ∃ a n cap, d3 = .slice a n cap := by
  rcases DataW.trod_slice Tryz.underlying27 g2 with ⟨h, _⟩ | ⟨a, n, cap, _, _, _, _, h, _⟩
  · exact ⟨none, 0, 0, by simpa using h⟩
  · exact ⟨_, n, cap, by simpa using h⟩
 obtain ⟨nx, h4, _, _⟩ := DataW.trod_int Tryz.underlying3 g3
 obtain ⟨sq, h5, _, _⟩ := DataW.trod_int Tryz.underlying3 g4
 obtain ⟨xs, x1, x2, x3⟩ := openTexts k0
 obtain ⟨ws, y1, y2, y3⟩ := openWriteS k1
 obtain ⟨ks, z1, z2, z3⟩ := openKeptS g1
 obtain ⟨bl, b1, b2, b3⟩ := openBanS g2
 simp only [List.cons.injEq, and_true] at h4 h5
 subst h4 h5
 exact ⟨a1, n1, c1, xs, a2, n2, c2, ws, a3, n3, c3, ks, a4, n4, c4, bl, nx, sq, rfl, x1, y1, z1, b1, x2, y2, z2, b2, x3, y3, z3, b3⟩
end Go.Proofs.YtopeegjmpphjnaaGreatDoor
namespace Go.Proofs.YtopeegjmpphjnaaGreatDoor
open Go.ChangeShapes Go.WideShapes Go.ChangeAt Go.RowKit
theorem gTabType : (Tryz.prog.globals[1]?).map (·.type) = some 297 := by kernel_rfl
theorem cells62 : Tryz.prog.cellsOf 297 = 20 := by kernel_rfl
theorem cells55 : Tryz.prog.cellsOf 271 = 1 := by kernel_rfl
theorem table {W : World} (h : laidMetH Tryz.prog Rows.fnExactShelfTextRow.laid W) : TabOk W := by
 have h1 : laidMet Tryz.prog Rows.fnExactShelfTextRow.laid W := h
 obtain ⟨ps, hl, _⟩ := h1
 obtain ⟨g1, t1, cs1, f1, p1, q1, _, _, _, _, hr1, _⟩ := hl
 obtain ⟨g2, t2, cs2, f2, p2, q2, _, _, _, _, hr2, _⟩ := hr1
 obtain ⟨g3, t3, cs3, f3, p3, q3, hg, ht, hvar, hd, _, _⟩ := hr2
 obtain rfl := Option.some.inj (gTab.symm.trans hg)
 obtain rfl := Option.some.inj (gTabType.symm.trans ht)
 unfold TabOk Lib.TabIs
 rw [hvar, ← Lib.cells_of_tab (zs := Lib.pow10Tab) Tryz.underlying297 Tryz.underlying271 cells55 cells62 hd]
def withTables (w : World) : World :=
 { w with heap := ((w.heap.modify 1 fun
   | .cells _ t frozen => .cells #[.int .u64 1, .int .u64 10, .int .u64 100, .int .u64 1000, .int .u64 10000, .int .u64 100000, .int .u64 1000000, .int .u64 10000000, .int .u64 100000000, .int .u64 1000000000, .int .u64 10000000000, .int .u64 100000000000, .int .u64 1000000000000, .int .u64 10000000000000, .int .u64 100000000000000, .int .u64 1000000000000000, .int .u64 10000000000000000, .int .u64 100000000000000000, .int .u64 1000000000000000000, .int .u64 10000000000000000000] t frozen
   | o => o).modify 2 fun
   | .cells _ t frozen => .cells #[.int .u8 0, .int .u8 1, .int .u8 28, .int .u8 2, .int .u8 29, .int .u8 14, .int .u8 24, .int .u8 3, .int .u8 30, .int .u8 22, .int .u8 20, .int .u8 15, .int .u8 25, .int .u8 17, .int .u8 4, .int .u8 8, .int .u8 31, .int .u8 27, .int .u8 13, .int .u8 23, .int .u8 21, .int .u8 19, .int .u8 16, .int .u8 7, .int .u8 26, .int .u8 12, .int .u8 18, .int .u8 6, .int .u8 11, .int .u8 5, .int .u8 10, .int .u8 9] t frozen
   | o => o).modify 3 fun
   | .cells _ t frozen => .cells #[.int .u8 0, .int .u8 1, .int .u8 56, .int .u8 2, .int .u8 57, .int .u8 49, .int .u8 28, .int .u8 3, .int .u8 61, .int .u8 58, .int .u8 42, .int .u8 50, .int .u8 38, .int .u8 29, .int .u8 17, .int .u8 4, .int .u8 62, .int .u8 47, .int .u8 59, .int .u8 36, .int .u8 45, .int .u8 43, .int .u8 51, .int .u8 22, .int .u8 53, .int .u8 39, .int .u8 33, .int .u8 30, .int .u8 24, .int .u8 18, .int .u8 12, .int .u8 5, .int .u8 63, .int .u8 55, .int .u8 48, .int .u8 27, .int .u8 60, .int .u8 41, .int .u8 37, .int .u8 16, .int .u8 46, .int .u8 35, .int .u8 44, .int .u8 21, .int .u8 52, .int .u8 32, .int .u8 23, .int .u8 11, .int .u8 54, .int .u8 26, .int .u8 40, .int .u8 15, .int .u8 34, .int .u8 20, .int .u8 31, .int .u8 10, .int .u8 25, .int .u8 14, .int .u8 19, .int .u8 9, .int .u8 13, .int .u8 8, .int .u8 7, .int .u8 6] t frozen
   | o => o }
end Go.Proofs.YtopeegjmpphjnaaGreatDoor
