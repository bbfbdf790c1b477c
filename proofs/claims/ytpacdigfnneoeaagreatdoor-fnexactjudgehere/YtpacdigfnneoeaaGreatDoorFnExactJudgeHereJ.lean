/- What the proof of FnExactJudgeHere leans on: contracts of the program's and the specification's functions, and plain facts (part 10 of 11). -/
import Derived.Test.YtpacdigfnneoeaaGreatDoorFnExactJudgeHereI
set_option maxHeartbeats 16000000
set_option maxRecDepth 100000
namespace Go.Proofs.YtpacdigfnneoeaaGreatDoor
open Go.RowKit
open Go.Lib hiding intOf
def AllIn (ws : List (Int × ByteArray)) : Prop := ∀ x ∈ ws, 0 ≤ x.1 ∧ x.1 ≤ 19
theorem guardA : Tryz.prog.eqGuardType Tryz.prog.depth 229 = false := by kernel_rfl
theorem equalA (xs ys : Ts) (hx : xs.length = 20) (hy : ys.length = 20) (w : World) :
  (Op.equalIn 10000 229 (.agg (cellsA xs)) (.agg (cellsA ys))).run Tryz.prog w = .ok ((List.range' 0 20 1).all (fun i => (textAt xs i).toList == (textAt ys i).toList)) w := by
 rw [show (10000 : Nat) = 9999 + 1 from rfl, Op.equalIn]
 simp only [Sem.run_bind, run_underlying Tryz.underlying229, Result.andThen_ok, Tryz.sizeOf9, Std.Legacy.Range.forIn_eq_forIn_range', Std.Legacy.Range.size, Nat.sub_zero, Nat.add_sub_cancel, Nat.div_one]
 have hl : ∀ i ∈ List.range' 0 20 1, i < 20 := fun i hi => by simpa using (List.mem_range'_1.1 hi).2
 generalize List.range' 0 20 1 = l at hl ⊢
 induction l with
 | nil => simp
 | cons i l ih =>
  have hi : i < 20 := hl i (by simp)
  have px : ∀ zs : Ts, zs.length = 20 → (part 9 (cellsA zs) (i * 1)).run Tryz.prog w = .ok (.string (textAt zs i)) w := fun zs hz => by
   simp [part, Tryz.isAgg9, cellsA_at zs i (by omega)]
  have pe : (Op.equalIn 9999 9 (.string (textAt xs i)) (.string (textAt ys i))).run Tryz.prog w = .ok ((textAt xs i).toList == (textAt ys i).toList) w := run_equalIn_string w 9998 9 _ _ Tryz.underlying9
  simp only [List.forIn_cons, Sem.run_bind, px xs hx, px ys hy, pe, Result.andThen_ok, List.all_cons]
  cases hb : ((textAt xs i).toList == (textAt ys i).toList)
  · simp
  ·simp only [Bool.not_true, Bool.false_eq_true, if_false, Sem.run_pure, Result.andThen_ok, Bool.true_and]
   exact ih fun j hj => hl j (by simp [hj])
theorem neqA (xs ys : Ts) (hx : xs.length = 20) (hy : ys.length = 20) (w : World) :
  (binOp .neq 229 (.agg (cellsA xs)) (.agg (cellsA ys))).run Tryz.prog w = .ok (.bool (!((List.range' 0 20 1).all (fun i => (textAt xs i).toList == (textAt ys i).toList)))) w := by
 rw [run_neq_struct, equalA xs ys hx hy]
 rfl
theorem neq_in (x : Int) (h : 0 ≤ x ∧ x ≤ 19) (w : World) : (binOp .neq 229 (.agg (cellsA (withP noneA x ⟨#[120]⟩))) (.agg #[.string ⟨#[]⟩, .string ⟨#[]⟩, .string ⟨#[]⟩, .string ⟨#[]⟩, .string ⟨#[]⟩, .string ⟨#[]⟩, .string ⟨#[]⟩, .string ⟨#[]⟩, .string ⟨#[]⟩, .string ⟨#[]⟩, .string ⟨#[]⟩, .string ⟨#[]⟩, .string ⟨#[]⟩, .string ⟨#[]⟩, .string ⟨#[]⟩, .string ⟨#[]⟩, .string ⟨#[]⟩, .string ⟨#[]⟩, .string ⟨#[]⟩, .string ⟨#[]⟩])).run Tryz.prog w = .ok (.bool true) w := by
 have h1 := neqA (withP noneA x ⟨#[120]⟩) noneA (withP_len _ _ _) rfl w
 rw [noneA_cells] at h1
 rw [h1]
 have h2 : textAt (withP noneA x ⟨#[120]⟩) x.toNat = ⟨#[120]⟩ := by
  unfold withP
  rw [if_pos ⟨h.1, by omega⟩, textAt_set, if_pos ⟨rfl, by rw [noneA_len]; omega⟩]
 have h3 : textAt noneA x.toNat = ⟨#[]⟩ := by
  unfold textAt noneA
  rw [List.getD_eq_getElem?_getD, List.getElem?_replicate, if_pos (by omega)]
  rfl
 have h4 : ((List.range' 0 20 1).all (fun i => (textAt (withP noneA x ⟨#[120]⟩) i).toList == (textAt noneA i).toList)) = false := by
  rw [List.all_eq_false]
  refine ⟨x.toNat, List.mem_range'_1.2 ⟨by omega, by omega⟩, ?_⟩
  rw [h2, h3, ← beq_toListBytes]
  decide
 rw [h4]
 rfl
theorem neq_out (x : Int) (h : ¬ (0 ≤ x ∧ x ≤ 19)) (w : World) : (binOp .neq 229 (.agg (cellsA (withP noneA x ⟨#[120]⟩))) (.agg #[.string ⟨#[]⟩, .string ⟨#[]⟩, .string ⟨#[]⟩, .string ⟨#[]⟩, .string ⟨#[]⟩, .string ⟨#[]⟩, .string ⟨#[]⟩, .string ⟨#[]⟩, .string ⟨#[]⟩, .string ⟨#[]⟩, .string ⟨#[]⟩, .string ⟨#[]⟩, .string ⟨#[]⟩, .string ⟨#[]⟩, .string ⟨#[]⟩, .string ⟨#[]⟩, .string ⟨#[]⟩, .string ⟨#[]⟩, .string ⟨#[]⟩, .string ⟨#[]⟩])).run Tryz.prog w = .ok (.bool false) w := by
 have e : withP noneA x ⟨#[120]⟩ = noneA := by unfold withP; rw [if_neg (fun h2 => h ⟨h2.1, by omega⟩)]
 have h1 := neqA noneA noneA rfl rfl w
 rw [e]
 rw [noneA_cells] at h1 ⊢
 rw [h1]
 have h4 : ((List.range' 0 20 1).all (fun i => (textAt noneA i).toList == (textAt noneA i).toList)) = true := by
  rw [List.all_eq_true]
  exact fun i _ => by simp
 rw [h4]
 rfl
theorem isCell_any (x : Int) (w : World) :
  Calls Tryz.prog 150 #[.int .i64 x] w fun e w' => BoolIs (0 ≤ x ∧ x ≤ 19) w e w' := by
 have hgb := guardA
 by_cases h : 0 ≤ x ∧ x ≤ 19
 rotate_left
 ·have hqe := neq_out x h
  have HH := hid h
  clear h
  go_enter Tryz.func150, Tryz.ntmps150
  go_wp2_with fail
  refine (with_any noneA rfl x ⟨#[120]⟩ _).mono ?_
  rintro e w1 ⟨rfl, bw⟩
  have HBW : Hid (Below w.heap.size w w1) := bw
  clear bw
  go_wp2_with fail
  go_ret
  exact BoolIs.no HH.out HBW.out
 have hqe := neq_in x h
 have HH := hid h
 clear h
 go_enter Tryz.func150, Tryz.ntmps150
 go_wp2_with fail
 refine (with_any noneA rfl x ⟨#[120]⟩ _).mono ?_
 rintro e w1 ⟨rfl, bw⟩
 have HBW : Hid (Below w.heap.size w w1) := bw
 clear bw
 go_wp2_with fail
 go_ret
 exact ⟨true, rfl, ⟨fun _ => HH.out, fun _ => rfl⟩, HBW.out⟩
theorem allToCells_any (o : Oa) (n c : Nat) (ws : List (Int × ByteArray)) (w : World) (h : WriteA w o n ws) (hn : n ≤ 2000000) :
  Calls Tryz.prog 149 #[.slice o n c] w fun e w' => BoolIs (AllIn ws) w e w' := by
 have HW := hid h
 clear h
 go_enter Tryz.func149, Tryz.ntmps149
 go_wp2_with fail
 go_loopw [7] (fun i wr => ∃ j : Nat, j ≤ n ∧ i = .int .i64 (j : Int) ∧ Hid (Below w.heap.size w wr) ∧ Hid (∀ x ∈ ws.take j, 0 ≤ x.1 ∧ x.1 ≤ 19)) (fun i _ => n - (intOf i).toNat)
 case atStart => exact ⟨0, Nat.zero_le _, rfl, Below.refl _ _, fun x hx => by simp at hx⟩
 case round =>
  obtain ⟨j, hj, rfl, HB, HN⟩ := hrel
  by_cases hlt : (j : Int) < (n : Int)
  rotate_left
  ·have HAL : Hid (AllIn ws) := fun x hx => HN.out x (by rw [List.take_of_length_le (by rw [HW.out.1]; omega)]; exact hx)
   clear HN
   go_wp2_with fail
   go_ret
   exact ⟨true, rfl, ⟨fun _ => HAL.out, fun _ => rfl⟩, HB.out⟩
  have hjx : j < ws.length := by rw [HW.out.1]; omega
  obtain ⟨g, rfl, hg, r0, r1⟩ := (HW.out.below HB.out).2 j (by omega)
  obtain ⟨y, hy⟩ := exq (writeAt ws j)
  have HM : Hid (y ∈ ws) := by show _ ∈ _; rw [hy]; exact writeAt_mem ws j hjx
  have HTK : Hid (ws.take (j + 1) = ws.take j ++ [y]) := by show _ = _; rw [hy]; exact take_writeAt ws j hjx
  rw [← hy] at r0 r1
  obtain ⟨y0, y1⟩ := y
  simp only at r0 r1
  clear hy hjx
  go_wp2_with fail
  refine (isCell_any y0 _).mono ?_
  rintro e w4 ⟨b, rfl, hb, bw⟩
  have HBW : Hid (Below w.heap.size w w4) := (HB.out.alloc HB.out.size _).trans (bw.mono (Nat.le_trans HB.out.size (by simp)))
  clear bw r0 r1
  cases b with
  | true =>
   have HY : Hid (0 ≤ y0 ∧ y0 ≤ 19) := hb.1 rfl
   clear hb
   go_wp2_with fail
   go_roundw
   case rel =>
    refine ⟨j + 1, by omega, by go_num, HBW, fun x hx => ?_⟩
    rw [HTK.out] at hx
    rcases List.mem_append.1 hx with hx | hx
    · exact HN.out x hx
    · rw [List.mem_singleton.1 hx]; exact HY.out
   case measure => simp [intOf]; omega
  | false =>
   have HY : Hid (¬ (0 ≤ y0 ∧ y0 ≤ 19)) := fun h => nomatch hb.2 h
   clear hb
   go_wp2_with fail
   go_ret
   exact BoolIs.no (fun h => HY.out (h _ HM.out)) HBW.out
theorem isObjectCell_any (x : Int) (w : World) :
  Calls Tryz.prog 127 #[.int .i64 x] w fun e w' => BoolIs (5 ≤ x ∧ x ≤ 19) w e w' := by
 have hb0 := Below.refl w.heap.size w
 go_enter Tryz.func127, Tryz.ntmps127
 by_cases hc1 : 5 ≤ x
 rotate_left
 ·have H5 : Hid (¬ 5 ≤ x) := hc1
  go_wp2_with fail
  go_ret
  exact BoolIs.no (fun h => by have h5 := H5.out; omega) hb0
 have H5 : Hid (5 ≤ x) := hc1
 go_wp2_with fail
 refine (isCell_any x _).mono ?_
 rintro e w1 ⟨uc, rfl, huc, bw⟩
 have hb1 := hbt hb0 bw
 clear hb0 bw
 go_wp2_with fail
 go_ret
 cases uc with
 | true => exact BoolIs.yes ⟨H5.out, (huc.1 rfl).2⟩ hb1
 | false => exact BoolIs.no (fun h => nomatch huc.2 ⟨by omega, h.2⟩) hb1
theorem knownOf_any (V : Value) (kv : Ks) (B : Nat) (w : World) (h : KeptsO w B V kv) (hn : kv.length ≤ 1048576) (ha : ∀ x ∈ kv, 0 ≤ x.1.a ∧ x.1.a ≤ 1000) :
  Calls Tryz.prog 152 #[V] w fun e w' => KnownIs kv w e w' := by
 obtain ⟨o3, c3, e3⟩ := slice_of_owns h.row
 subst e3
 obtain ⟨n3, hn3⟩ := exq kv.length
 rw [← hn3] at h ⊢
 obtain ⟨ks, hks⟩ := exq (kv.map (·.1))
 have HKS : Hid (kv.map (·.1) = ks) := hks.symm
 have HLK : Hid (kv.length = n3) := hn3.symm
 have bn3 : n3 ≤ 1048576 := by rw [hn3]; exact hn
 have HKP : Hid (∀ W, Below w.heap.size w W → KeptsO W B (.slice o3 n3 c3) kv) := fun W hb => KeptsO.below h hb
 clear hn3 hks h hn
 have HAB := hid ha
 clear ha
 have hmm : ∀ W : World, (Instr.makeMap 215 (some (.int .i64 (n3 : Int)))).run Tryz.prog W = .ok (.map (some W.heap.size)) (W.alloc (.map #[] 0)) := fun W => run_makeMap_hint Tryz.underlying215 _ W
 have hb0 := Below.refl w.heap.size w
 go_enter Tryz.func152, Tryz.ntmps152
 go_upto_region 2 with fail
 obtain ⟨qm1, hqm1⟩ := exq (w.heap.size)
 obtain ⟨w1, hW1⟩ := exq (w.alloc (.map #[] 0))
 rw [← hW1]; try rw [← hqm1]
 have bw := bal hW1
 have hb1 := hbt hb0 bw
 have HGm1 : Hid (w.heap.size ≤ qm1) := by show _ ≤ _; rw [hqm1]; exact hb0.size
 have EMm1_1 : Hid (KnownO w1 qm1 0 (.map [])) := by unfold KnownO; show World.ownsMap _ _ _ _ _ _ _; rw [hW1, hqm1]; exact World.ownsMap_made _ _ _ _
 clear bw hW1 hqm1 hb0
 go_wp2_with fail
 go_loopw [11] (fun i wr => ∃ (j : Nat) (D : DataW Value), j ≤ n3 ∧ i = .int .i64 (j : Int) ∧ Hid (KnownO wr qm1 j D ∧ MapN D (kv.take j) ∧ Below w.heap.size w (wr))) (fun i _ => n3 - (intOf i).toNat)
 case atStart => exact ⟨0, .map [], Nat.zero_le _, rfl, EMm1_1.out, by rw [List.take_zero]; exact MapN.nil, hb1⟩
 case round =>
  obtain ⟨j, D, hj, rfl, HW⟩ := hrel
  by_cases hlt : (j : Int) < (n3 : Int)
  rotate_left
  ·have hb2 := HW.out.2.2
   have HMN := HW.out.2.1
   have HMNH : Hid (MapN D (kv.take j)) := HMN
   clear HMN
   have EMm1_2 : Hid (KnownO wr qm1 j D) := HW.out.1
   clear HW hb1
   go_wp2_with fail
   go_ret
   have HMN2 : MapN D kv := by
    have h := HMNH.out
    rw [List.take_of_length_le (by rw [HLK.out]; omega)] at h
    exact h
   exact ⟨qm1, j, D, rfl, by rw [HLK.out]; omega, EMm1_2.out, HMN2, HGm1.out, hb2⟩
  have hb2 := HW.out.2.2
  have HMN := HW.out.2.1
  have HMNH : Hid (MapN D (kv.take j)) := HMN
  clear HMN
  have EMm1_2 : Hid (KnownO wr qm1 j D) := HW.out.1
  clear HW hb1
  obtain ⟨g3, p3, hV, _, _⟩ := (HKP.out _ hb2).look j (by rw [HLK.out]; omega)
  rw [HLK.out] at hV
  injection hV with hV1 hV2 hV3
  subst hV1 hV3
  clear hV2
  obtain ⟨xX, hxX⟩ := exq (kvAt kv j)
  have HMx : Hid (xX ∈ kv) := by show _ ∈ _; rw [hxX]; exact kvAt_mem kv j (by rw [HLK.out]; omega)
  have HEx : Hid (kpAt ks j = xX.1) := by show _ = _; rw [hxX, ← HKS.out]; exact (kvAt_fst kv j (by rw [HLK.out]; omega)).symm
  have HTKx : Hid (kv.take (j + 1) = kv.take j ++ [xX]) := by show _ = _; rw [hxX]; exact kvAt_take kv j (by rw [HLK.out]; omega)
  have HKx : Hid (∀ W, Below w.heap.size w W → KpAt W g3 j xX) := fun W hb => by
   obtain ⟨g', p', hV, _, hc⟩ := (HKP.out W hb).look j (by rw [HLK.out]; omega)
   injection hV with hV1 _ _
   cases hV1
   rw [hxX]
   exact hc
  clear hxX
  obtain ⟨x, kuv1, kuv2, kuv3⟩ := xX
  obtain ⟨ku1, kc1, hu⟩ := slice_of_owns ((HKP.out _ hb2).names HMx.out)
  have hu' : kuv1 = .slice ku1 x.xs.length kc1 := hu
  subst hu'
  clear hu
  obtain ⟨ku2, kc2, hu⟩ := slice_of_owns ((HKP.out _ hb2).vals HMx.out)
  have hu' : kuv2 = .slice ku2 x.ys.length kc2 := hu
  subst hu'
  clear hu
  obtain ⟨ku3, kc3, hu⟩ := slice_of_owns ((HKP.out _ hb2).flds HMx.out)
  have hu' : kuv3 = .slice ku3 x.fs.length kc3 := hu
  subst hu'
  clear hu
  have r0x := (HKx.out _ hb2).c0
  have r1x := (HKx.out _ hb2).c1
  have r2x := (HKx.out _ hb2).c2
  have r3x := (HKx.out _ hb2).c3
  have r4x := (HKx.out _ hb2).c4
  have r5x := (HKx.out _ hb2).c5
  have r6x := (HKx.out _ hb2).c6
  have r7x := (HKx.out _ hb2).c7
  have r8x := (HKx.out _ hb2).c8
  dsimp only at r0x r1x r2x r3x r4x r5x r6x r7x r8x
  go_upto_region 5 with fail
  obtain ⟨q1, hq1⟩ := exq (wr.heap.size)
  obtain ⟨w3, hW3⟩ := exq (wr.alloc (.cells #[.string x.p, .slice ku1 x.xs.length kc1, .slice ku2 x.ys.length kc2, .int .i64 x.st, .slice ku3 x.fs.length kc3, .string x.b, .int .i64 x.t, .int .i64 x.a, .int .i64 x.q] 145))
  have hz3 := hq1.symm
  rw [← hW3]; try rw [← hq1]
  have hs3 := hsa hW3 hz3
  have bw := bal hW3
  have hb3 := hbt hb2 bw
  have EMm1_3 : Hid (KnownO w3 qm1 j (D)) := map_below EMm1_2.out bw
  have B1_3 := hnew hW3 hz3
  clear hb2 bw hW3 hz3
  clear hs3 hq1
  clear r0x r1x r2x r3x r4x r5x r6x r7x r8x
  have c1_0 := (k9c B1_3).1
  have c1_1 := (k9c B1_3).2.1
  have c1_2 := (k9c B1_3).2.2.1
  have c1_3 := (k9c B1_3).2.2.2.1
  have c1_4 := (k9c B1_3).2.2.2.2.1
  have c1_5 := (k9c B1_3).2.2.2.2.2.1
  have c1_6 := (k9c B1_3).2.2.2.2.2.2.1
  have c1_7 := (k9c B1_3).2.2.2.2.2.2.2.1
  have c1_8 := (k9c B1_3).2.2.2.2.2.2.2.2
  have hmp := EMm1_3.out
  unfold KnownO at hmp
  go_wp2_with (first | (at_mapUpdate; refine wpList_mapUpdate_own _ rfl _ _ _ 215 rfl 3 145 keyInt Tryz.underlying215 mpR qm1 (j) (D) rfl hmp (by unfold maxLen; omega) _ _ (.int .i64 x.a) rfl rfl (key_wf (HAB.out _ HMx.out).1 (HAB.out _ HMx.out).2) (.held (.agg #[.string x.p, .slice ku1 x.xs.length kc1, .slice ku2 x.ys.length kc2, .int .i64 x.st, .slice ku3 x.fs.length kc3, .string x.b, .int .i64 x.t, .int .i64 x.a, .int .i64 x.q])) [] rfl ?_) | go_in)
  intro w4 hown1 hgrow
  clear c1_0 c1_1 c1_2 c1_3 c1_4 c1_5 c1_6 c1_7 c1_8
  have hb4 : Below w.heap.size w (w4) := hb3.grown hgrow hb3.size (by intro g hg; cases hg; exact HGm1.out)
  have B1_4 : Hid (w4.heap[q1]? = some (.cells #[.string x.p, .slice ku1 x.xs.length kc1, .slice ku2 x.ys.length kc2, .int .i64 x.st, .slice ku3 x.fs.length kc3, .string x.b, .int .i64 x.t, .int .i64 x.a, .int .i64 x.q] 145)) := map_blk hmp B1_3.out hgrow
  have EMm1_4 : Hid (KnownO w4 qm1 (j + 1) (((D).put (.int .i64 x.a) (.held (.agg #[.string x.p, .slice ku1 x.xs.length kc1, .slice ku2 x.ys.length kc2, .int .i64 x.st, .slice ku3 x.fs.length kc3, .string x.b, .int .i64 x.t, .int .i64 x.a, .int .i64 x.q]))))) := hown1
  clear hown1 hgrow hmp hb3
  have HN2 : Hid (MapN (D.put (.int .i64 x.a) (.held (kpX (x, .slice ku1 x.xs.length kc1, .slice ku2 x.ys.length kc2, .slice ku3 x.fs.length kc3)))) (kv.take (j + 1))) := by
   show MapN _ _
   rw [HTKx.out]
   exact HMNH.out.put (x, .slice ku1 x.xs.length kc1, .slice ku2 x.ys.length kc2, .slice ku3 x.fs.length kc3)
  go_wp2_with fail
  go_roundw
  case rel => exact ⟨j + 1, _, by omega, by go_num, EMm1_4.out, HN2.out, hb4⟩
  case measure => simp [intOf]; omega
theorem implDiskOk_len (o1 : Oa) (n1 c1 : Nat) (v2 : Value) (n2 : Nat) (ws : List (Int × ByteArray)) (B : Nat) (w : World) (h : w.ownsRow B 183 2 v2 n2 (flatWrite ws)) (hn2 : n2 ≤ 2000000) :
  Calls Tryz.prog 126 #[.agg #[.slice o1 n1 c1, v2]] w fun e w' => BoolIs (DiskN n1 ws) w e w' := by
 obtain ⟨o2, c2, rfl⟩ := slice_of_owns h
 have HV : Hid (WriteA w o2 n2 ws) := write_view h
 have HLN : Hid (ws.length = n2) := write_len h
 clear h
 by_cases h1 : n1 = 20
 rotate_left
 ·have h3 : ¬ (n1 : Int) = 20 := by omega
  have HNO := hid h1
  go_enter Tryz.func126, Tryz.ntmps126
  go_wp2_with fail
  go_ret
  exact BoolIs.no (fun h => HNO.out h.1) ((Below.refl _ _).alloc (Nat.le_refl _) _)
 subst h1
 by_cases h2 : n2 ≤ 16
 rotate_left
 ·have h3 : ¬ (n2 : Int) ≤ 16 := by omega
  have HNO : Hid (¬ ws.length ≤ 16) := by rw [HLN.out]; exact h2
  go_enter Tryz.func126, Tryz.ntmps126
  go_wp2_with fail
  go_ret
  exact BoolIs.no (fun h => HNO.out h.2.1) ((Below.refl _ _).alloc (Nat.le_refl _) _)
 have h3 : (n2 : Int) ≤ 16 := by omega
 go_enter Tryz.func126, Tryz.ntmps126
 go_wp2_with fail
 refine (allToCells_any o2 n2 c2 ws _ (HV.out.below ((Below.refl _ _).alloc (Nat.le_refl _) _)) hn2).mono ?_
 rintro e w1 ⟨b, rfl, hb, bw⟩
 have HB := hid hb
 have HBW : Hid (Below w.heap.size w w1) := ((Below.refl _ _).alloc (Nat.le_refl _) _).trans (bw.mono (by simp))
 have HN : Hid (n2 ≤ 16) := h2
 clear hb bw
 go_wp2_with fail
 go_ret
 exact ⟨b, rfl, ⟨fun e => ⟨rfl, by rw [HLN.out]; exact HN.out, HB.out.1 e⟩, fun h => HB.out.2 h.2.2⟩, HBW.out⟩
theorem implDiskOk_any (v1 v2 : Value) (n1 : Nat) (cs : Ts) (n2 : Nat) (ws : List (Int × ByteArray)) (B : Nat) (w : World) (h : DiskO w B v1 n1 cs v2 n2 ws) (_hn1 : n1 ≤ 2000000) (hn2 : n2 ≤ 2000000) :
  Calls Tryz.prog 126 #[.agg #[v1, v2]] w fun e w' => BoolIs (DiskP cs ws) w e w' := by
 obtain ⟨oCx, pCx, rfl⟩ := slice_of_owns h.cells
 have hl : cs.length = n1 := by have := h.cells.1; rw [List.length_map] at this; omega
 have h1 := implDiskOk_len oCx n1 pCx v2 n2 ws B w h.pend hn2
 rw [← hl] at h1
 rw [← hl]
 exact h1
def BansP (bl : Bs) : Prop := bl.length ≤ 5 ∧ ∀ x ∈ bl, BanP x.1 x.2.1 x.2.2.1 x.2.2.2
def lastQ (ks : List KpD) (i : Nat) : Int := if i = 0 then 0 else (kpAt ks (i - 1)).q
theorem lastQ_succ (ks : List KpD) (i : Nat) : lastQ ks (i + 1) = (kpAt ks i).q := by unfold lastQ; rw [if_neg (by omega), Nat.add_sub_cancel]
def KpA (ks : List KpD) (sq : Int) (i : Nat) : Prop := ObjK (kpAt ks i) ∧ (5 ≤ (kpAt ks i).a ∧ (kpAt ks i).a ≤ 19) ∧ lastQ ks i < (kpAt ks i).q ∧ (kpAt ks i).q < sq
theorem lastQ_ge {ks : List KpD} {sq : Int} {n : Nat} (h : ∀ m, m < n → KpA ks sq m) : ∀ i, i ≤ n → 0 ≤ lastQ ks i
 | 0, _ => by simp [lastQ]
 | i + 1, hi => by
  have h1 := lastQ_ge h i (by omega)
  have h2 := (h i (by omega)).2.2.1
  rw [lastQ_succ]
  omega
theorem kpOk_A {ks : List KpD} {sq : Int} {i : Nat} (h : KpOk ks sq i) : KpA ks sq i := by
 obtain ⟨h1, h2, h3, h4, _⟩ := h
 refine ⟨h1, h2, ?_, by omega⟩
 unfold lastQ
 split
 · omega
 · exact h4 (by omega)
theorem kpA_Ok {ks : List KpD} {sq : Int} {n i : Nat} (h : ∀ m, m < n → KpA ks sq m) (hi : i < n) (ha : ∀ j, j < i → (kpAt ks j).a ≠ (kpAt ks i).a) : KpOk ks sq i := by
 obtain ⟨h1, h2, h3, h4⟩ := h i hi
 have h5 := lastQ_ge h i (by omega)
 refine ⟨h1, h2, by omega, fun h0 => ?_, ha⟩
 unfold lastQ at h3
 rw [if_neg (by omega)] at h3
 exact h3
theorem apart_at {kv : Ks} : ApartA kv ↔ ∀ i, i < kv.length → ∀ j, j < i → (kpAt (kv.map (·.1)) j).a ≠ (kpAt (kv.map (·.1)) i).a := by
 have e : ∀ i (hi : i < kv.length), kpAt (kv.map (·.1)) i = (kv[i]'hi).1 := fun i hi => by
  rw [← kpAt_get _ i (by rw [List.length_map]; exact hi)]
  simp
 unfold ApartA
 rw [List.pairwise_iff_getElem]
 constructor
 ·intro h i hi j hj
  rw [e i hi, e j (by omega)]
  exact h j i (by omega) hi hj
 ·intro h i j hi hj hij
  have h2 := h j hj i hij
  rw [e j hj, e i hi] at h2
  exact h2
theorem keptOk_any (V : Value) (kv : Ks) (sq : Int) (B : Nat) (w : World) (h : KeptsO w B V kv) (hn : kv.length ≤ 1048576) (hs : ∀ x ∈ kv, KpSmall x.1) :
  Calls Tryz.prog 128 #[V, .int .i64 sq] w fun e w' => BoolIs (∀ m, m < kv.length → KpOk (kv.map (·.1)) sq m) w e w' := by
 obtain ⟨o3, c3, e3⟩ := slice_of_owns h.row
 subst e3
 obtain ⟨n3, hn3⟩ := exq kv.length
 rw [← hn3] at h ⊢
 obtain ⟨ks, hks⟩ := exq (kv.map (·.1))
 have HKS : Hid (kv.map (·.1) = ks) := hks.symm
 have HLK : Hid (kv.length = n3) := hn3.symm
 have bn3 : n3 ≤ 1048576 := by rw [hn3]; exact hn
 have HKP : Hid (∀ W, Below w.heap.size w W → KeptsO W B (.slice o3 n3 c3) kv) := fun W hb => KeptsO.below h hb
 clear hn3 hks h hn
 have HSM := hid hs
 clear hs
 have hb0 := Below.refl w.heap.size w
 go_enter Tryz.func128, Tryz.ntmps128
 go_wp2_with fail
 go_loopw [5, 10] (fun l i wr => ∃ i' : Nat, i' ≤ n3 ∧ l = .int .i64 (lastQ ks i') ∧ i = .int .i64 (i' : Int) ∧ Hid (Below w.heap.size w (wr)) ∧ Hid (∀ m, m < i' → KpA ks sq m)) (fun _ i _ => n3 - (intOf i).toNat)
 case atStart => exact ⟨0, Nat.zero_le _, rfl, rfl, hb0, fun m hm => absurd hm (by omega)⟩
 case round =>
  obtain ⟨i, hi, rfl, rfl, HW, HN⟩ := hrel
  by_cases hlt : (i : Int) < (n3 : Int)
  rotate_left
  ·have hb1 := HW.out
   clear HW hb0
   have HKA : Hid (∀ m, m < n3 → KpA ks sq m) := fun m hm => HN.out m (by omega)
   have HAB : Hid (∀ x ∈ kv, 0 ≤ x.1.a ∧ x.1.a ≤ 1000) := fun x hx => by
    obtain ⟨j, hj, e⟩ := List.getElem_of_mem hx
    have h2 := (HKA.out j (by rw [← HLK.out]; exact hj)).2.1
    rw [← HKS.out, ← kvAt_fst kv j hj, ← kvAt_get kv j hj, e] at h2
    omega
   clear HN
   go_wp2_with fail
   refine (knownOf_any _ kv B _ (HKP.out _ hb1) (by rw [HLK.out]; exact bn3) (fun x hx => HAB.out x hx)).mono ?_
   rintro e w2 ⟨bM, nM, D, rfl, hnM, hko, hmn, hbg, bw⟩
   have HBK : Hid (w.heap.size ≤ wr.heap.size) := hb1.size
   have hb2 := hbt hb1 bw
   have HM2 := hsz bw
   clear hb1 bw
   have EMmk_2 : Hid (KnownO w2 bM nM D) := hko
   have HMN := hid hmn
   clear hbg hko hmn
   by_cases hc1 : (Maps.size (D) : Int) = (n3 : Int)
   rotate_left
   ·have hc1b : (((Maps.size (D) : Int) : Int) == (n3 : Int)) = false := by simpa using hc1
    have hc1n : (((Maps.size (D) : Int) : Int) != (n3 : Int)) = true := by simpa using hc1
    have HSZ := hid hc1
    have hc1H := hid hc1
    clear hc1
    have hmp := EMmk_2.out
    unfold KnownO at hmp
    go_wp2_with (first | (at_len; refine wpList_len_own _ rfl _ 215 rfl 3 145 Tryz.underlying215 mpR bM nM (D) rfl hmp ?_) | go_in)
    go_ret
    refine BoolIs.no (fun h => ?_) hb2
    have hsz := HSZ.out
    have ha : ApartA kv := apart_at.2 (fun m hm => (h m (by rw [← HLK.out]; exact hm)).2.2.2.2)
    have h2 := HMN.out.eq.2 ha
    rw [HLK.out] at h2
    omega
   have hc1b : (((Maps.size (D) : Int) : Int) == (n3 : Int)) = true := by simpa using hc1
   have hc1n : (((Maps.size (D) : Int) : Int) != (n3 : Int)) = false := by simpa using hc1
   have HSZ := hid hc1
   have hc1H := hid hc1
   clear hc1
   have hmp := EMmk_2.out
   unfold KnownO at hmp
   go_wp2_with (first | (at_len; refine wpList_len_own _ rfl _ 215 rfl 3 145 Tryz.underlying215 mpR bM nM (D) rfl hmp ?_) | go_in)
   go_ret
   refine BoolIs.yes (fun m hm => ?_) hb2
   have ha : ApartA kv := HMN.out.eq.1 (by have := HSZ.out; rw [HLK.out]; omega)
   rw [apart_at] at ha
   rw [HKS.out] at ha ⊢
   exact kpA_Ok (n := n3) HKA.out hm (ha m (by rw [HLK.out]; exact hm))
  have hb1 := HW.out
  clear HW hb0
  obtain ⟨g3, p3, hV, _, _⟩ := (HKP.out _ hb1).look i (by rw [HLK.out]; omega)
  rw [HLK.out] at hV
  injection hV with hV1 hV2 hV3
  subst hV1 hV3
  clear hV2
  obtain ⟨xX, hxX⟩ := exq (kvAt kv i)
  have HMx : Hid (xX ∈ kv) := by show _ ∈ _; rw [hxX]; exact kvAt_mem kv i (by rw [HLK.out]; omega)
  have HEx : Hid (kpAt ks i = xX.1) := by show _ = _; rw [hxX, ← HKS.out]; exact (kvAt_fst kv i (by rw [HLK.out]; omega)).symm
  have HTKx : Hid (kv.take (i + 1) = kv.take i ++ [xX]) := by show _ = _; rw [hxX]; exact kvAt_take kv i (by rw [HLK.out]; omega)
  have HKx : Hid (∀ W, Below w.heap.size w W → KpAt W g3 i xX) := fun W hb => by
   obtain ⟨g', p', hV, _, hc⟩ := (HKP.out W hb).look i (by rw [HLK.out]; omega)
   injection hV with hV1 _ _
   cases hV1
   rw [hxX]
   exact hc
  clear hxX
  obtain ⟨x, kuv1, kuv2, kuv3⟩ := xX
  obtain ⟨ku1, kc1, hu⟩ := slice_of_owns ((HKP.out _ hb1).names HMx.out)
  have hu' : kuv1 = .slice ku1 x.xs.length kc1 := hu
  subst hu'
  clear hu
  obtain ⟨ku2, kc2, hu⟩ := slice_of_owns ((HKP.out _ hb1).vals HMx.out)
  have hu' : kuv2 = .slice ku2 x.ys.length kc2 := hu
  subst hu'
  clear hu
  obtain ⟨ku3, kc3, hu⟩ := slice_of_owns ((HKP.out _ hb1).flds HMx.out)
  have hu' : kuv3 = .slice ku3 x.fs.length kc3 := hu
  subst hu'
  clear hu
  have r0x := (HKx.out _ hb1).c0
  have r1x := (HKx.out _ hb1).c1
  have r2x := (HKx.out _ hb1).c2
  have r3x := (HKx.out _ hb1).c3
  have r4x := (HKx.out _ hb1).c4
  have r5x := (HKx.out _ hb1).c5
  have r6x := (HKx.out _ hb1).c6
  have r7x := (HKx.out _ hb1).c7
  have r8x := (HKx.out _ hb1).c8
  dsimp only at r0x r1x r2x r3x r4x r5x r6x r7x r8x
  go_upto_region 5 with fail
  obtain ⟨q1, hq1⟩ := exq (wr.heap.size)
  obtain ⟨w2, hW2⟩ := exq (wr.alloc (.cells #[.string x.p, .slice ku1 x.xs.length kc1, .slice ku2 x.ys.length kc2, .int .i64 x.st, .slice ku3 x.fs.length kc3, .string x.b, .int .i64 x.t, .int .i64 x.a, .int .i64 x.q] 145))
  have hz2 := hq1.symm
  rw [← hW2]; try rw [← hq1]
  have hs2 := hsa hW2 hz2
  have bw := bal hW2
  have hb2 := hbt hb1 bw
  have HM2 := hsz bw
  have B1_2 := hnew hW2 hz2
  clear hb1 bw hW2 hz2
  clear hs2 hq1
  clear r0x r1x r2x r3x r4x r5x r6x r7x r8x
  have c1_0 := (k9c B1_2).1
  have c1_1 := (k9c B1_2).2.1
  have c1_2 := (k9c B1_2).2.2.1
  have c1_3 := (k9c B1_2).2.2.2.1
  have c1_4 := (k9c B1_2).2.2.2.2.1
  have c1_5 := (k9c B1_2).2.2.2.2.2.1
  have c1_6 := (k9c B1_2).2.2.2.2.2.2.1
  go_wp2_with fail
  refine (implObjOk_k x _ _ _ _ ((HKP.out _ hb2).read HMx.out) (HSM.out _ HMx.out)).mono ?_
  rintro e w3 ⟨uo, rfl, huo, bw⟩
  have hb3 := hbt hb2 bw
  have B1_3 := hblk B1_2 bw
  clear hb2 bw
  clear c1_0 c1_1 c1_2 c1_3 c1_4 c1_5 c1_6
  cases uo
  ·have HNuo : Hid (¬ (ObjK x)) := fun h => nomatch huo.2 h
   clear huo
   go_wp2_with fail
   go_ret
   exact BoolIs.no (fun h => by have hk := h i (by omega); rw [HKS.out] at hk; have hA := kpOk_A hk; unfold KpA at hA; rw [HEx.out] at hA; exact HNuo.out hA.1) hb3
  have HYuo : Hid (ObjK x) := huo.1 rfl
  clear huo
  have c1_7 := (k9c B1_3).2.2.2.2.2.2.2.1
  go_wp2_with fail
  refine (isObjectCell_any x.a _).mono ?_
  rintro e w4 ⟨uka, rfl, huka, bw⟩
  have hb4 := hbt hb3 bw
  have B1_4 := hblk B1_3 bw
  clear hb3 bw
  clear c1_7
  cases uka
  ·have HNuka : Hid (¬ (5 ≤ x.a ∧ x.a ≤ 19)) := fun h => nomatch huka.2 h
   clear huka
   go_wp2_with fail
   go_ret
   exact BoolIs.no (fun h => by have hk := h i (by omega); rw [HKS.out] at hk; have hA := kpOk_A hk; unfold KpA at hA; rw [HEx.out] at hA; exact HNuka.out hA.2.1) hb4
  have HYuka : Hid (5 ≤ x.a ∧ x.a ≤ 19) := huka.1 rfl
  clear huka
  by_cases hc1 : x.q ≤ (lastQ ks i)
  ·have HLQ := hid hc1
   have c1_8 := (k9c B1_4).2.2.2.2.2.2.2.2
   go_wp2_with fail
   go_ret
   exact BoolIs.no (fun h => by have hk := h i (by omega); rw [HKS.out] at hk; have hA := kpOk_A hk; unfold KpA at hA; rw [HEx.out] at hA; have h2 := HLQ.out; omega) hb4
  have HLQ := hid hc1
  have c1_8 := (k9c B1_4).2.2.2.2.2.2.2.2
  by_cases hc2 : sq ≤ x.q
  ·have HGQ := hid hc2
   go_wp2_with fail
   go_ret
   exact BoolIs.no (fun h => by have hk := h i (by omega); rw [HKS.out] at hk; have hA := kpOk_A hk; unfold KpA at hA; rw [HEx.out] at hA; have h2 := HGQ.out; omega) hb4
  have HGQ := hid hc2
  have HN2 : Hid (∀ m, m < i + 1 → KpA ks sq m) := fun m hm => by
   by_cases e : m = i
   ·subst e
    unfold KpA
    rw [HEx.out]
    have h1 := HLQ.out
    have h2 := HGQ.out
    exact ⟨HYuo.out, HYuka.out, by omega, by omega⟩
   · exact HN.out m (by omega)
  have HLS : Hid (x.q = lastQ ks (i + 1)) := by show _ = _; rw [lastQ_succ, HEx.out]
  go_wp2_with fail
  go_roundw
  case rel => exact ⟨i + 1, by omega, congrArg (Value.int .i64) HLS.out, by go_num, hb4, HN2⟩
  case measure => simp [intOf]; omega
theorem bansOk_any (VB : Value) (bl : Bs) (B : Nat) (w : World) (h : w.ownsRow B 143 4 VB bl.length (flatBan bl)) (hn : bl.length ≤ 1048576) (hz : ∀ x ∈ bl, x.2.1.size ≤ maxLen ∧ x.2.2.1.size ≤ maxLen) :
  Calls Tryz.prog 129 #[VB] w fun e w' => BoolIs (BansP bl) w e w' := by
 obtain ⟨o4, c4, e4⟩ := slice_of_owns h
 subst e4
 obtain ⟨n4, hn4⟩ := exq bl.length
 rw [← hn4] at h ⊢
 have HLB : Hid (bl.length = n4) := hn4.symm
 have bn4 : n4 ≤ 1048576 := by rw [hn4]; exact hn
 have HBN : Hid (∀ W, Below w.heap.size w W → W.ownsRow B 143 4 (.slice o4 n4 c4) n4 (flatBan bl)) := fun W hb => owns_below h hb (fun g hg => owns_lt h hg)
 have HBZ := hid hz
 clear hn4 h hn hz
 have hb0 := Below.refl w.heap.size w
 go_enter Tryz.func129, Tryz.ntmps129
 go_wp2_with fail
 go_loopw [7] (fun i wr => ∃ j : Nat, j ≤ n4 ∧ i = .int .i64 (j : Int) ∧ Hid (Below w.heap.size w (wr)) ∧ Hid (∀ x ∈ bl.take j, BanP x.1 x.2.1 x.2.2.1 x.2.2.2)) (fun i _ => n4 - (intOf i).toNat)
 case atStart => exact ⟨0, Nat.zero_le _, rfl, hb0, fun x hx => by simp at hx⟩
 case round =>
  obtain ⟨j, hj, rfl, HW, HN⟩ := hrel
  by_cases hlt : (j : Int) < (n4 : Int)
  rotate_left
  ·have hb1 := HW.out
   clear HW hb0
   have HAL : Hid (∀ x ∈ bl, BanP x.1 x.2.1 x.2.2.1 x.2.2.2) := fun x hx => HN.out x (by rw [List.take_of_length_le (by rw [HLB.out]; omega)]; exact hx)
   clear HN
   by_cases hc1 : (n4 : Int) ≤ 5
   ·have HB5 : Hid (n4 ≤ 5) := (by have := hc1; show _ ≤ _; omega)
    go_wp2_with fail
    go_ret
    exact BoolIs.yes (⟨by rw [HLB.out]; exact HB5.out, HAL.out⟩ : BansP bl) hb1
   have HB5 : Hid (¬ n4 ≤ 5) := (by have := hc1; show ¬ _; omega)
   go_wp2_with fail
   go_ret
   exact BoolIs.no (fun h => by have h1 : bl.length ≤ 5 := h.1; have h5 := HB5.out; rw [HLB.out] at h1; omega) hb1
  have hb1 := HW.out
  clear HW hb0
  have hbn := HBN.out _ hb1
  try rw [HLB.out] at hbn
  have hbv := ban_view hbn
  clear hbn
  obtain ⟨g4, hog, hgl, r1, r2, r3, r4⟩ := hbv.2 j (by first | omega | (rw [HLB.out]; omega))
  clear hbv
  subst hog
  obtain ⟨y, hy⟩ := exq (banAt bl j)
  rw [← hy] at r1 r2 r3 r4
  have HM : Hid (y ∈ bl) := by show _ ∈ _; rw [hy]; exact banAt_mem bl j (by rw [HLB.out]; omega)
  have HTK : Hid (bl.take (j + 1) = bl.take j ++ [y]) := by show _ = _; rw [hy]; exact take_banAt bl j (by rw [HLB.out]; omega)
  clear hy hgl
  obtain ⟨y0, y1, y2, y3⟩ := y
  dsimp only at r1 r2 r3 r4
  go_upto_region 4 with fail
  obtain ⟨q1, hq1⟩ := exq (wr.heap.size)
  obtain ⟨w2, hW2⟩ := exq (wr.alloc (.cells #[.int .i64 y0, .string y1, .string y2, .int .i64 y3] 143))
  have hz2 := hq1.symm
  rw [← hW2]; try rw [← hq1]
  have hs2 := hsa hW2 hz2
  have bw := bal hW2
  have hb2 := hbt hb1 bw
  have B1_2 := hnew hW2 hz2
  clear hb1 bw hW2 hz2
  clear hs2 hq1
  clear r1 r2 r3 r4
  have c1_0 := (k4c B1_2).1
  have c1_1 := (k4c B1_2).2.1
  have c1_2 := (k4c B1_2).2.2.1
  have c1_3 := (k4c B1_2).2.2.2
  go_wp2_with fail
  refine (implBanOk_any y0 y1 y2 y3 _ (HBZ.out _ HM.out).1 (HBZ.out _ HM.out).2).mono ?_
  rintro e w3 ⟨ub, rfl, hub, bw⟩
  have hb3 := hbt hb2 bw
  have B1_3 := hblk B1_2 bw
  clear hb2 bw
  clear c1_0 c1_1 c1_2 c1_3
  cases ub
  ·have HNub : Hid (¬ (BanP y0 y1 y2 y3)) := fun h => nomatch hub.2 h
   clear hub
   go_wp2_with fail
   go_ret
   exact BoolIs.no (fun h => HNub.out ((show BansP bl from h).2 _ HM.out)) hb3
  have HYub : Hid (BanP y0 y1 y2 y3) := hub.1 rfl
  clear hub
  have HN2 : Hid (∀ x ∈ bl.take (j + 1), BanP x.1 x.2.1 x.2.2.1 x.2.2.2) := fun x hx => by
   rw [HTK.out] at hx
   rcases List.mem_append.1 hx with hx | hx
   · exact HN.out x hx
   · rw [List.mem_singleton.1 hx]; exact HYub.out
  go_wp2_with fail
  go_roundw
  case rel => exact ⟨j + 1, by omega, by go_num, hb3, HN2⟩
  case measure => simp [intOf]; omega
theorem implShelfOk_any (v1 v2 V VB : Value) (kv : Ks) (s : ShD) (B : Nat) (w : World) (h : ShelfO w B v1 v2 V VB kv s) (hz : ShSmall s) :
  Calls Tryz.prog 94 #[.agg #[v1, v2, V, VB, .int .i64 s.nx, .int .i64 s.sq]] w fun e w' => BoolIs (ShelfP s) w e w' := by
 obtain ⟨o1, c1, e1⟩ := slice_of_owns h.disk.cells
 obtain ⟨o2, c2, e2⟩ := slice_of_owns h.disk.pend
 obtain ⟨o3, c3, e3⟩ := slice_of_owns h.kept.row
 obtain ⟨o4, c4, e4⟩ := slice_of_owns h.bans
 subst e1 e2 e3 e4
 obtain ⟨n1, hn1⟩ := exq (s.cs.length)
 obtain ⟨n2, hn2⟩ := exq (s.ws.length)
 obtain ⟨n3, hn3⟩ := exq kv.length
 obtain ⟨n4, hn4⟩ := exq (s.bl.length)
 rw [← hn1, ← hn2, ← hn3, ← hn4] at h ⊢
 have HLN : Hid (s.cs.length = n1 ∧ s.ws.length = n2 ∧ kv.length = n3 ∧ s.bl.length = n4) := ⟨hn1.symm, hn2.symm, hn3.symm, hn4.symm⟩
 have HKS : Hid (kv.map (·.1) = s.ks) := h.2
 have HZ := hid hz
 have bn1 : n1 ≤ 1048576 := by rw [hn1]; exact hz.c
 have bn2 : n2 ≤ 1048576 := by rw [hn2]; exact hz.w
 have bn3 : n3 ≤ 1048576 := by rw [hn3, ← List.length_map (f := (·.1)), h.2]; exact hz.k
 have bn4 : n4 ≤ 1048576 := by rw [hn4]; exact hz.b
 have HSH : Hid (∀ W, Below w.heap.size w W → ShelfO W B (.slice o1 n1 c1) (.slice o2 n2 c2) (.slice o3 n3 c3) (.slice o4 n4 c4) kv s) := fun W hb => h.below hb
 have HKP : Hid (∀ W, Below w.heap.size w W → KeptsO W B (.slice o3 n3 c3) kv) := fun W hb => (h.below hb).kept
 have HLK : Hid (kv.length = n3) := hn3.symm
 clear hn1 hn2 hn3 hn4 h hz
 have hb0 := Below.refl w.heap.size w
 go_enter Tryz.func94, Tryz.ntmps94
 go_upto_region 1 with fail
 obtain ⟨q1, hq1⟩ := exq (w.heap.size)
 obtain ⟨w1, hW1⟩ := exq (w.alloc (.cells #[.slice o1 n1 c1, .slice o2 n2 c2, .slice o3 n3 c3, .slice o4 n4 c4, .int .i64 s.nx, .int .i64 s.sq] 43))
 have hz1 := hq1.symm
 rw [← hW1]; try rw [← hq1]
 have hs1 := hsa hW1 hz1
 have bw := bal hW1
 have hb1 := hbt hb0 bw
 have B1_1 := hnew hW1 hz1
 clear hb0 bw hW1 hz1
 clear hs1 hq1
 have c1_0 := (k6c B1_1).1
 have c1_1 := (k6c B1_1).2.1
 go_wp2_with fail
 refine (implDiskOk_any _ _ n1 s.cs n2 s.ws B _ (by have hd := (HSH.out _ hb1).disk; rw [HLN.out.1, HLN.out.2.1] at hd; exact hd) (by omega) (by omega)).mono ?_
 rintro e w2 ⟨ud, rfl, hud, bw⟩
 have hb2 := hbt hb1 bw
 have B1_2 := hblk B1_1 bw
 clear hb1 bw
 clear c1_0 c1_1
 cases ud
 ·have HNud : Hid (¬ (DiskP s.cs s.ws)) := fun h => nomatch hud.2 h
  clear hud
  go_wp2_with fail
  go_ret
  exact BoolIs.no (fun h => HNud.out h.1) hb2
 have HYud : Hid (DiskP s.cs s.ws) := hud.1 rfl
 clear hud
 have c1_4 := (k6c B1_2).2.2.2.2.1
 go_wp2_with fail
 refine (isObjectCell_any s.nx _).mono ?_
 rintro e w3 ⟨unx, rfl, hunx, bw⟩
 have hb3 := hbt hb2 bw
 have B1_3 := hblk B1_2 bw
 clear hb2 bw
 clear c1_4
 cases unx
 ·have HNunx : Hid (¬ (5 ≤ s.nx ∧ s.nx ≤ 19)) := fun h => nomatch hunx.2 h
  clear hunx
  go_wp2_with fail
  go_ret
  exact BoolIs.no (fun h => HNunx.out h.2.2.1) hb3
 have HYunx : Hid (5 ≤ s.nx ∧ s.nx ≤ 19) := hunx.1 rfl
 clear hunx
 by_cases hc1 : s.sq < 1
 ·have HQ1 := hid hc1
  have c1_5 := (k6c B1_3).2.2.2.2.2
  go_wp2_with fail
  go_ret
  exact BoolIs.no (fun h => by have h1 := HQ1.out; have h2 := h.2.2.2.1; omega) hb3
 have HQ1 := hid hc1
 have c1_5 := (k6c B1_3).2.2.2.2.2
 by_cases hc2 : 100000 < s.sq
 ·have HQ2 := hid hc2
  go_wp2_with fail
  go_ret
  exact BoolIs.no (fun h => by have h1 := HQ2.out; have h2 := h.2.2.2.1; omega) hb3
 have HQ2 := hid hc2
 have c1_2 := (k6c B1_3).2.2.1
 go_wp2_with fail
 refine (keptOk_any _ kv s.sq B _ (HKP.out _ hb3) (by rw [HLK.out]; exact bn3) (fun x hx => HZ.out.kv HKS.out hx)).mono ?_
 rintro e w4 ⟨uk, rfl, huk, bw⟩
 have hb4 := hbt hb3 bw
 have B1_4 := hblk B1_3 bw
 clear hb3 bw
 clear c1_5 c1_2
 cases uk
 ·have HNuk : Hid (¬ (∀ m, m < kv.length → KpOk (kv.map (·.1)) s.sq m)) := fun h => nomatch huk.2 h
  clear huk
  go_wp2_with fail
  go_ret
  exact BoolIs.no (fun h => HNuk.out (fun m hm => by rw [HKS.out]; exact h.2.2.2.2.2 m (by rw [← HKS.out, List.length_map]; exact hm))) hb4
 have HYuk : Hid (∀ m, m < kv.length → KpOk (kv.map (·.1)) s.sq m) := huk.1 rfl
 clear huk
 have c1_3 := (k6c B1_4).2.2.2.1
 go_wp2_with fail
 refine (bansOk_any _ s.bl B _ (by have hd := (HSH.out _ hb4).bans; exact hd) HZ.out.b HZ.out.bm).mono ?_
 rintro e w5 ⟨ub, rfl, hub, bw⟩
 have hb5 := hbt hb4 bw
 have B1_5 := hblk B1_4 bw
 clear hb4 bw
 clear c1_3
 cases ub
 ·have HNub : Hid (¬ (BansP s.bl)) := fun h => nomatch hub.2 h
  clear hub
  go_wp2_with fail
  go_ret
  exact BoolIs.no (fun h => HNub.out ⟨h.2.1, h.2.2.2.2.1⟩) hb5
 have HYub : Hid (BansP s.bl) := hub.1 rfl
 clear hub
 go_wp2_with fail
 go_ret
 exact BoolIs.yes ⟨HYud.out, HYub.out.1, HYunx.out, ⟨by have := HQ1.out; omega, by have := HQ2.out; omega⟩, HYub.out.2, fun i hi => by have hk := HYuk.out; rw [HKS.out] at hk; exact hk i (by rw [← HKS.out, List.length_map] at hi; exact hi)⟩ hb5
theorem FlsO.cap {w : World} {B : Nat} {o : Oa} {n c : Nat} {fv : List FlV} (h : FlsO w B (.slice o n c) fv) : n ≤ c := by
 rcases h.row.2 with ⟨h1, _⟩ | ⟨g, cap, cur, h1, _, _, h2, _⟩
 ·injection h1 with _ h3 _
  omega
 ·injection h1 with _ h3 h4
  omega
theorem flightsOk_any (V : Value) (fv : List FlV) (fl : List FlD) (B : Nat) (w : World) (h : FlsO w B V fv) (hfd : fv.map (·.d) = fl) (hs : ∀ x ∈ fv, FlSmall x.d) (hn : fv.length ≤ 1048576) :
  Calls Tryz.prog 96 #[V] w fun e w' => BoolIs (FlsP fl) w e w' := by
 obtain ⟨o5, c5, rfl⟩ := h.len
 obtain ⟨n5, hn5⟩ := exq fv.length
 rw [← hn5] at h hn ⊢
 have HLF : Hid (fv.length = n5) := hn5.symm
 have HLC : Hid (fl.length = n5) := by show _ = _; rw [← hfd, List.length_map, hn5]
 have HFD := hid hfd
 have HFS := hid hs
 have HFL : Hid (∀ W, Below w.heap.size w W → FlsO W B (.slice o5 n5 c5) fv) := fun W hb => h.below hb
 clear hn5 h hfd hs
 have hb0 := Below.refl w.heap.size w
 go_enter Tryz.func96, Tryz.ntmps96
 by_cases hc1 : 5 < (n5 : Int)
 ·have Hf5 : Hid (¬ n5 ≤ 5) := (by have := hc1; show ¬ _; omega)
  go_wp2_with fail
  go_ret
  exact BoolIs.no (fun h => by have h1 := h.1; have h5 := Hf5.out; rw [HLC.out] at h1; omega) hb0
 have Hf5 : Hid (n5 ≤ 5) := (by have := hc1; show _ ≤ _; omega)
 go_wp2_with fail
 go_loopw [10] (fun i wr => ∃ i' : Nat, i' ≤ n5 ∧ i = .int .i64 (i' : Int) ∧ Hid (Below w.heap.size w (wr)) ∧ Hid (∀ m, m < i' → FlAtOk fl m)) (fun i _ => n5 - (intOf i).toNat)
 case atStart => exact ⟨0, Nat.zero_le _, rfl, hb0, fun m hm => absurd hm (by omega)⟩
 case round =>
  obtain ⟨i, hi, rfl, HW, HN⟩ := hrel
  by_cases hlt : (i : Int) < (n5 : Int)
  rotate_left
  ·have hb1 := HW.out
   clear HW hb0
   have HFA : Hid (∀ m, m < fl.length → FlAtOk fl m) := fun m hm => HN.out m (by rw [HLC.out] at hm; omega)
   clear HN
   go_wp2_with fail
   go_ret
   exact BoolIs.yes ⟨by rw [HLC.out]; exact Hf5.out, HFA.out⟩ hb1
  have hb1 := HW.out
  clear HW hb0
  obtain ⟨g5, p5, hV, _, _⟩ := (HFL.out _ hb1).look i (by rw [HLF.out]; omega)
  rw [HLF.out] at hV
  injection hV with hV1 hV2 hV3
  subst hV1 hV3
  clear hV2
  obtain ⟨dX, hdX⟩ := exq (flvAt fv i)
  have HMd : Hid (dX ∈ fv) := by show _ ∈ _; rw [hdX]; exact getD_mem0 _ fv i (by rw [HLF.out]; omega)
  have HEd : Hid (flAt fl i = dX.d) := by show _ = _; rw [hdX, ← HFD.out]; exact getD_map0 _ _ _ fv i (by rw [HLF.out]; omega)
  have HKd : Hid (∀ W, Below w.heap.size w W → FlAt W g5 i dX) := fun W hb => by
   obtain ⟨g', p', hV, _, hc⟩ := (HFL.out W hb).look i (by rw [HLF.out]; omega)
   injection hV with hV1 _ _
   cases hV1
   rw [hdX]
   exact hc
  have HRd : Hid (∀ W, Below w.heap.size w W → RowsO W B (flR dX)) := fun W hb => (HFL.out W hb).item HMd.out
  have HSd : Hid (FlSmall dX.d) := HFS.out _ HMd.out
  clear hdX
  obtain ⟨d, kuv2, kuv4, kuv6, kuv7, kuv9⟩ := dX
  obtain ⟨ku2, kc2, hu⟩ := slice_of_owns ((HRd.out _ hb1).own (⟨185, 2, kuv2, d.qfs.length, flatF d.qfs⟩ : Rw) (by simp [flR]))
  obtain rfl : kuv2 = .slice ku2 d.qfs.length kc2 := hu
  obtain ⟨ku4, kc4, hu⟩ := slice_of_owns ((HRd.out _ hb1).own (⟨3, 1, kuv4, d.who.length, d.who.map (Value.int .i64)⟩ : Rw) (by simp [flR]))
  obtain rfl : kuv4 = .slice ku4 d.who.length kc4 := hu
  obtain ⟨ku6, kc6, hu⟩ := slice_of_owns ((HRd.out _ hb1).own (⟨9, 1, kuv6, d.oxs.length, d.oxs.map Value.string⟩ : Rw) (by simp [flR]))
  obtain rfl : kuv6 = .slice ku6 d.oxs.length kc6 := hu
  obtain ⟨ku7, kc7, hu⟩ := slice_of_owns ((HRd.out _ hb1).own (⟨9, 1, kuv7, d.oys.length, d.oys.map Value.string⟩ : Rw) (by simp [flR]))
  obtain rfl : kuv7 = .slice ku7 d.oys.length kc7 := hu
  obtain ⟨ku9, kc9, hu⟩ := slice_of_owns ((HRd.out _ hb1).own (⟨185, 2, kuv9, d.ofs.length, flatF d.ofs⟩ : Rw) (by simp [flR]))
  obtain rfl : kuv9 = .slice ku9 d.ofs.length kc9 := hu
  have r0d := (HKd.out _ hb1).c0
  have r1d := (HKd.out _ hb1).c1
  have r2d := (HKd.out _ hb1).c2
  have r3d := (HKd.out _ hb1).c3
  have r4d := (HKd.out _ hb1).c4
  have r5d := (HKd.out _ hb1).c5
  have r6d := (HKd.out _ hb1).c6
  have r7d := (HKd.out _ hb1).c7
  have r8d := (HKd.out _ hb1).c8
  have r9d := (HKd.out _ hb1).c9
  have r10d := (HKd.out _ hb1).c10
  have r11d := (HKd.out _ hb1).c11
  have r12d := (HKd.out _ hb1).c12
  dsimp only at r0d r1d r2d r3d r4d r5d r6d r7d r8d r9d r10d r11d r12d
  have hcp := FlsO.cap (HFL.out _ hb1)
  have hic : i ≤ c5 := by omega
  have hic2 : ¬ (c5 < i) := by omega
  clear hcp
  go_upto_region 6 with fail
  obtain ⟨q1, hq1⟩ := exq (wr.heap.size)
  obtain ⟨w2, hW2⟩ := exq (wr.alloc (.cells #[.int .i64 d.qmt, .string d.qpa, .slice ku2 d.qfs.length kc2, .string d.qbd, .slice ku4 d.who.length kc4, .string d.opa, .slice ku6 d.oxs.length kc6, .slice ku7 d.oys.length kc7, .int .i64 d.ost, .slice ku9 d.ofs.length kc9, .string d.obd, .int .i64 d.otm, .bool d.has] 101))
  have hz2 := hq1.symm
  rw [← hW2]; try rw [← hq1]
  have hs2 := hsa hW2 hz2
  have bw := bal hW2
  have hb2 := hbt hb1 bw
  have B1_2 := hnew hW2 hz2
  clear hb1 bw hW2 hz2
  clear hs2 hq1
  clear r0d r1d r2d r3d r4d r5d r6d r7d r8d r9d r10d r11d r12d
  go_upto_region 6 with fail
  refine wp_region_held_drew (S := fun W => W.heap[q1]? = some (.cells #[.int .i64 d.qmt, .string d.qpa, .slice ku2 d.qfs.length kc2, .string d.qbd, .slice ku4 d.who.length kc4, .string d.opa, .slice ku6 d.oxs.length kc6, .slice ku7 d.oys.length kc7, .int .i64 d.ost, .slice ku9 d.ofs.length kc9, .string d.obd, .int .i64 d.otm, .bool d.has] 101)) (by kernel_rfl) B1_2.out (fun _ => ?_)
  obtain ⟨w3, hX⟩ := exq w2.drew
  have bw := bdr hX
  rw [← hX]
  have hb3 := hbt hb2 bw
  have B1_3 := hblk B1_2 bw
  have hS3 := B1_3.out
  clear hb2 bw hX
  refine tkL 0 (.agg #[.int .i64 d.qmt, .string d.qpa, .slice ku2 d.qfs.length kc2, .string d.qbd, .slice ku4 d.who.length kc4, .string d.opa, .slice ku6 d.oxs.length kc6, .slice ku7 d.oys.length kc7, .int .i64 d.ost, .slice ku9 d.ofs.length kc9, .string d.obd, .int .i64 d.otm, .bool d.has]) 15 rfl rfl (Or.inl ⟨by rfl, by intro W hW; have hhv1 := hW; have y0 := (cell_of hhv1 0).trans rfl; have y1 := (cell_of hhv1 1).trans rfl; have y2 := (cell_of hhv1 2).trans rfl; have y3 := (cell_of hhv1 3).trans rfl; have y4 := (cell_of hhv1 4).trans rfl; have y5 := (cell_of hhv1 5).trans rfl; have y6 := (cell_of hhv1 6).trans rfl; have y7 := (cell_of hhv1 7).trans rfl; have y8 := (cell_of hhv1 8).trans rfl; have y9 := (cell_of hhv1 9).trans rfl; have y10 := (cell_of hhv1 10).trans rfl; have y11 := (cell_of hhv1 11).trans rfl; have y12 := (cell_of hhv1 12).trans rfl; go_simp⟩) hS3 ?_
  go_frame
  refine rd1 1 rfl (fun K hK => ?_)
  go_simp
  refine (flightOk_any d _ _ _ _ _ B _ (HRd.out _ hb3) HSd.out).mono ?_
  rintro e w4 ⟨uf, rfl, huf, bw⟩
  have hb4 := hbt hb3 bw
  have B1_4 := hblk B1_3 bw
  clear hb3 bw
  have hS4 := B1_4.out
  refine hK.out _ _ hS4 (fun _ => ?_)
  clear hK K hS3
  cases uf
  ·have HNuf : Hid (¬ (FlOk d)) := fun h => nomatch huf.2 h
   clear huf
   refine tkP 2 (.bool true) 17 rfl rfl hS4 (tkP 3 (.bool true) 18 rfl rfl hS4 (tkN 4 19 rfl rfl hS4 ?_))
   go_frame
   refine tkN 5 20 rfl rfl hS4 (tkN 6 21 rfl rfl hS4 (tkN 7 22 rfl rfl hS4 ?_))
   go_frame
   refine tkN 8 23 rfl rfl hS4 (tkN 9 24 rfl rfl hS4 (tkN 10 25 rfl rfl hS4 ?_))
   go_frame
   refine tkP 11 (.bool true) 26 rfl rfl hS4 ?_
   go_frame
   clear hS4
   refine wdn ?_
   go_wp2_with fail
   go_ret
   exact BoolIs.no (fun h => by have hk := h.2 i (by rw [HLC.out]; omega); unfold FlAtOk at hk; rw [HEd.out] at hk; exact HNuf.out hk.1) hb4
  have HYuf : Hid (FlOk d) := huf.1 rfl
  clear huf
  refine tkP 2 (.bool false) 17 rfl rfl hS4 (tkP 3 (.bool false) 18 rfl rfl hS4 (tkP 4 (.slice (some ⟨g5, 0, none⟩) n5 c5) 19 rfl rfl hS4 ?_))
  go_frame
  refine tkP 5 (.int .i64 (i : Int)) 20 rfl rfl hS4 (tkP 6 (.slice (some ⟨g5, 0, none⟩) i c5) 21 rfl rfl hS4 (tkP 7 (.pointer (some ⟨q1, 0, none⟩)) 22 rfl rfl hS4 ?_))
  go_frame
  refine tkL 8 (.agg #[.int .i64 d.qmt, .string d.qpa, .slice ku2 d.qfs.length kc2, .string d.qbd]) 23 rfl rfl (Or.inl ⟨by rfl, by intro W hW; have hhv1 := hW; have y0 := (cell_of hhv1 0).trans rfl; have y1 := (cell_of hhv1 1).trans rfl; have y2 := (cell_of hhv1 2).trans rfl; have y3 := (cell_of hhv1 3).trans rfl; go_simp⟩) hS4 ?_
  go_frame
  refine rd1 9 rfl (fun K hK => ?_)
  go_simp
  refine (alikePlace_any (.slice (some ⟨g5, 0, none⟩) n5 c5) fv fl _ i c5 d _ _ _ _ _ B B _ ⟨c5, by rw [HLF.out]⟩ (HFL.out _ hb4) HFD.out HFS.out (by rw [HLF.out]; omega) (by omega) (HRd.out _ hb4) HSd.out).mono ?_
  rintro e w5 ⟨rp, rfl, hrp, bw⟩
  have HRP := hid hrp
  clear hrp
  have hb5 := hbt hb4 bw
  have B1_5 := hblk B1_4 bw
  clear hb4 bw
  have hS5 := B1_5.out
  refine hK.out _ _ hS5 (fun _ => ?_)
  clear hK K hS4
  by_cases hc2 : 0 ≤ rp
  ·have HAL : Hid (0 ≤ rp) := hc2
   refine tkP 10 (.bool true) 25 rfl rfl hS5 (tkP 11 (.bool true) 26 rfl rfl hS5 ?_)
   go_frame
   clear hS5
   refine wdn ?_
   go_wp2_with fail
   go_ret
   exact BoolIs.no (fun h => by have hk := h.2 i (by rw [HLC.out]; omega); unfold FlAtOk at hk; rw [HEd.out] at hk; obtain ⟨k, hk2, hA⟩ := HRP.out.1 HAL.out; exact hk.2 k hk2 hA) hb5
  have HAL := hid hc2
  refine tkP 10 (.bool false) 25 rfl rfl hS5 (tkP 11 (.bool false) 26 rfl rfl hS5 ?_)
  go_frame
  clear hS5
  refine wdn ?_
  have HN2 : Hid (∀ m, m < i + 1 → FlAtOk fl m) := fun m hm => by
   by_cases e : m = i
   ·subst e
    unfold FlAtOk
    rw [HEd.out]
    exact ⟨HYuf.out, fun k hk hA => HAL.out (HRP.out.2 ⟨k, hk, hA⟩)⟩
   · exact HN.out m (by omega)
  go_wp2_with fail
  go_roundw
  case rel => exact ⟨i + 1, by omega, by go_num, hb5, HN2⟩
  case measure => simp [intOf]; omega
theorem implCacheOk_any (v1 v2 V VB F E R : Value) (kv : Ks) (fv : List FlV) (ev : List SeV) (rv : List RpV) (c : CaD) (B : Nat) (w : World) (h : CacheO w B v1 v2 V VB F E R kv fv ev rv c) (hz : CaSmall c) :
  Calls Tryz.prog 48 #[.agg #[v1, v2, V, VB, .int .i64 c.s.nx, .int .i64 c.s.sq, F, .int .i64 c.now, E, R]] w fun e w' => BoolIs (CacheP c) w e w' := by
 obtain ⟨o1, c1, rfl⟩ := slice_of_owns h.shelf.disk.cells
 obtain ⟨o2, c2, rfl⟩ := slice_of_owns h.shelf.disk.pend
 obtain ⟨o3, c3, rfl⟩ := h.shelf.kept.len
 obtain ⟨o4, c4, rfl⟩ := slice_of_owns h.shelf.bans
 obtain ⟨o5, c5, rfl⟩ := h.fls.len
 obtain ⟨o6, c6, rfl⟩ := h.ses.len
 obtain ⟨o7, c7, rfl⟩ := h.rps.len
 obtain ⟨n5, hn5⟩ := exq fv.length
 obtain ⟨n6, hn6⟩ := exq ev.length
 obtain ⟨n7, hn7⟩ := exq rv.length
 rw [← hn5, ← hn6, ← hn7] at h ⊢
 have HLF : Hid (fv.length = n5) := hn5.symm
 have HLC : Hid (c.fl.length = n5 ∧ c.se.length = n6 ∧ c.sn.length = n7) := ⟨by rw [← h.hf, List.length_map, hn5], by rw [← h.he, List.length_map, hn6], by rw [← h.hr, List.length_map, hn7]⟩
 have HFD : Hid (fv.map (·.d) = c.fl) := h.hf
 have HZ := hid hz
 have bn5 : n5 ≤ 1048576 := by rw [← HLC.out.1]; exact hz.nf
 have bn6 : n6 ≤ 1048576 := by rw [← HLC.out.2.1]; exact hz.ne
 have bn7 : n7 ≤ 1048576 := by rw [← HLC.out.2.2]; exact hz.nr
 have HCA : Hid (∀ W, Below w.heap.size w W → CacheO W B (.slice o1 c.s.cs.length c1) (.slice o2 c.s.ws.length c2) (.slice o3 kv.length c3) (.slice o4 c.s.bl.length c4) (.slice o5 n5 c5) (.slice o6 n6 c6) (.slice o7 n7 c7) kv fv ev rv c) := fun W hb => h.below hb
 clear hn5 hn6 hn7 h hz
 have HFL : Hid (∀ W, Below w.heap.size w W → FlsO W B (.slice o5 n5 c5) fv) := fun W hb => (HCA.out W hb).fls
 have HFS : Hid (∀ x ∈ fv, FlSmall x.d) := fun x hx => HZ.out.fl _ (by rw [← HFD.out]; exact List.mem_map.2 ⟨x, hx, rfl⟩)
 have hb0 := Below.refl w.heap.size w
 go_enter Tryz.func48, Tryz.ntmps48
 go_upto_region 1 with fail
 obtain ⟨q1, hq1⟩ := exq (w.heap.size)
 obtain ⟨w1, hW1⟩ := exq (w.alloc (.cells #[.slice o1 c.s.cs.length c1, .slice o2 c.s.ws.length c2, .slice o3 kv.length c3, .slice o4 c.s.bl.length c4, .int .i64 c.s.nx, .int .i64 c.s.sq, .slice o5 n5 c5, .int .i64 c.now, .slice o6 n6 c6, .slice o7 n7 c7] 48))
 have hz1 := hq1.symm
 rw [← hW1]; try rw [← hq1]
 have hs1 := hsa hW1 hz1
 have bw := bal hW1
 have hb1 := hbt hb0 bw
 have B1_1 := hnew hW1 hz1
 clear hb0 bw hW1 hz1
 clear hs1 hq1
 have c1_0 := (k10c B1_1).1
 have c1_1 := (k10c B1_1).2.1
 have c1_2 := (k10c B1_1).2.2.1
 have c1_3 := (k10c B1_1).2.2.2.1
 have c1_4 := (k10c B1_1).2.2.2.2.1
 have c1_5 := (k10c B1_1).2.2.2.2.2.1
 go_wp2_with fail
 refine (implShelfOk_any _ _ _ _ kv c.s B _ (HCA.out _ hb1).shelf HZ.out.s).mono ?_
 rintro e w2 ⟨us, rfl, hus, bw⟩
 have hb2 := hbt hb1 bw
 have B1_2 := hblk B1_1 bw
 clear hb1 bw
 clear c1_0 c1_1 c1_2 c1_3 c1_4 c1_5
 cases us
 ·have HNus : Hid (¬ (ShelfP c.s)) := fun h => nomatch hus.2 h
  clear hus
  go_wp2_with fail
  go_ret
  exact BoolIs.no (fun h => HNus.out h.1) hb2
 have HYus : Hid (ShelfP c.s) := hus.1 rfl
 clear hus
 have c1_7 := (k10c B1_2).2.2.2.2.2.2.2.1
 go_wp2_with fail
 refine (timeOk_any c.now _).mono ?_
 rintro e w3 ⟨rfl, hwe⟩
 have bw : Below w2.heap.size (w2) w3 := by rw [hwe]; exact Below.refl _ _
 clear hwe
 obtain ⟨un, hun⟩ : ∃ u, u = decide ((0 : Int) ≤ c.now ∧ c.now ≤ 1000000) := ⟨_, rfl⟩
 rw [← hun]
 have hb3 := hbt hb2 bw
 have B1_3 := hblk B1_2 bw
 clear hb2 bw
 clear c1_7
 cases un
 ·have HNun : Hid (¬ ((0 : Int) ≤ c.now ∧ c.now ≤ 1000000)) := (show ¬ ((0 : Int) ≤ c.now ∧ c.now ≤ 1000000) from of_decide_eq_false hun.symm)
  clear hun
  go_wp2_with fail
  go_ret
  exact BoolIs.no (fun h => HNun.out h.2.1) hb3
 have HYun : Hid ((0 : Int) ≤ c.now ∧ c.now ≤ 1000000) := (show ((0 : Int) ≤ c.now ∧ c.now ≤ 1000000) from of_decide_eq_true hun.symm)
 clear hun
 have c1_6 := (k10c B1_3).2.2.2.2.2.2.1
 go_wp2_with fail
 refine (flightsOk_any _ fv c.fl B _ (HFL.out _ hb3) HFD.out HFS.out (by rw [HLF.out]; omega)).mono ?_
 rintro e w4 ⟨uf, rfl, huf, bw⟩
 have hb4 := hbt hb3 bw
 have B1_4 := hblk B1_3 bw
 clear hb3 bw
 clear c1_6
 cases uf
 ·have HNuf : Hid (¬ (FlsP c.fl)) := fun h => nomatch huf.2 h
  clear huf
  go_wp2_with fail
  go_ret
  exact BoolIs.no (fun h => HNuf.out h.2.2.1) hb4
 have HYuf : Hid (FlsP c.fl) := huf.1 rfl
 clear huf
 by_cases hc1 : (n6 : Int) ≤ 1500
 rotate_left
 ·have hde5 : decide ((n6 : Int) ≤ 1500) = false := decide_eq_false hc1
  have He5 : Hid (¬ n6 ≤ 1500) := (by have := hc1; show ¬ _; omega)
  have c1_8 := (k10c B1_4).2.2.2.2.2.2.2.2.1
  go_wp2_with fail
  go_ret
  exact BoolIs.no (fun h => by have h1 := h.2.2.2.1; have h5 := He5.out; rw [HLC.out.2.1] at h1; omega) hb4
 have hde5 : decide ((n6 : Int) ≤ 1500) = true := decide_eq_true hc1
 have He5 : Hid (n6 ≤ 1500) := (by have := hc1; show _ ≤ _; omega)
 have c1_8 := (k10c B1_4).2.2.2.2.2.2.2.2.1
 have c1_9 := (k10c B1_4).2.2.2.2.2.2.2.2.2
 by_cases hc2 : (n7 : Int) ≤ 1500
 rotate_left
 ·have hdr5 : decide ((n7 : Int) ≤ 1500) = false := decide_eq_false hc2
  have Hr5 : Hid (¬ n7 ≤ 1500) := (by have := hc2; show ¬ _; omega)
  go_wp2_with fail
  go_ret
  exact BoolIs.no (fun h => by have h1 := h.2.2.2.2; have h5 := Hr5.out; rw [HLC.out.2.2] at h1; omega) hb4
 have hdr5 : decide ((n7 : Int) ≤ 1500) = true := decide_eq_true hc2
 have Hr5 : Hid (n7 ≤ 1500) := (by have := hc2; show _ ≤ _; omega)
 go_wp2_with fail
 go_ret
 exact BoolIs.yes ⟨HYus.out, HYun.out, HYuf.out, by rw [HLC.out.2.1]; exact He5.out, by rw [HLC.out.2.2]; exact Hr5.out⟩ hb4
theorem judgeOfHere_any (w : World) :
  Calls Tryz.prog 20 #[] w fun e w' => e = .returned (.agg #[.func (.func 50) #[] #[], .nilFunc]) ∧ Below w.heap.size w w' := by
 have hb0 := Below.refl w.heap.size w
 go_enter Tryz.func20, Tryz.ntmps20
 go_upto_region 1 with fail
 obtain ⟨q1, hq1⟩ := exq (w.heap.size)
 obtain ⟨w1, hW1⟩ := exq (w.alloc (.cells #[.nilFunc, .nilFunc] 72))
 have hz1 := hq1.symm
 rw [← hW1]; try rw [← hq1]
 have hs1 := hsa hW1 hz1
 have bw := bal hW1
 have hb1 := hbt hb0 bw
 have B1_1 := hnew hW1 hz1
 have Gv1 := hge hz1 hb0
 clear hb0 bw hW1 hz1
 clear hs1 hq1
 have c1_0 := (k2c B1_1).1
 have f1_0 := hfz B1_1 0
 have c1_1 := (k2c B1_1).2
 have f1_1 := hfz B1_1 1
 go_wp2_with fail
 obtain ⟨w2, hW2⟩ := exq (w1.setCell ⟨q1, 0, none⟩ (.func (.func 50) #[] #[]))
 rw [← hW2]
 have hb2 := hbS hW2 hb1 Gv1
 have B1_2 := hput hW2 B1_1
 clear hb1 hW2
 obtain ⟨w3, hW3⟩ := exq (w2.setCell ⟨q1, 1, none⟩ (.nilFunc))
 rw [← hW3]
 have hb3 := hbS hW3 hb2 Gv1
 have B1_3 := hput hW3 B1_2
 clear hb2 hW3
 have kv1_0 := (k2c B1_3).1
 have kv1_1 := (k2c B1_3).2
 refine bodyPost_ret (v := .agg #[.func (.func 50) #[] #[], .nilFunc]) (by simp [results, Tryz.results20, go_sem, kv1_0, kv1_1]) rfl ?_
 exact ⟨rfl, hb3⟩
theorem agreeOnWholeHere_any (v1 v2 V VB F E R : Value) (kv : Ks) (fv : List FlV) (ev : List SeV) (rv : List RpV) (c : CaD) (B : Nat) (w : World) (h : CacheO w B v1 v2 V VB F E R kv fv ev rv c) (hz : CaSmall c) (gj : Nat) (hj : w.heap[gj]? = some (.cells #[.func (.func 50) #[] #[], .nilFunc] 72))  :
  Calls Tryz.prog 49 #[.agg #[v1, v2, V, VB, .int .i64 c.s.nx, .int .i64 c.s.sq, F, .int .i64 c.now, E, R], .slice (some ⟨gj, 0, none⟩) 1 1] w fun e w' => BoolIs (True) w e w' := by
 obtain ⟨o1, c1, rfl⟩ := slice_of_owns h.shelf.disk.cells
 obtain ⟨o2, c2, rfl⟩ := slice_of_owns h.shelf.disk.pend
 obtain ⟨o3, c3, rfl⟩ := h.shelf.kept.len
 obtain ⟨o4, c4, rfl⟩ := slice_of_owns h.shelf.bans
 obtain ⟨o5, c5, rfl⟩ := h.fls.len
 obtain ⟨o6, c6, rfl⟩ := h.ses.len
 obtain ⟨o7, c7, rfl⟩ := h.rps.len
 obtain ⟨n3, hn3⟩ := exq kv.length
 obtain ⟨n4, hn4⟩ := exq (c.s.bl.length)
 obtain ⟨n5, hn5⟩ := exq fv.length
 obtain ⟨n6, hn6⟩ := exq ev.length
 obtain ⟨n7, hn7⟩ := exq rv.length
 rw [← hn3, ← hn4, ← hn5, ← hn6, ← hn7] at h ⊢
 have HLK : Hid (kv.length = n3) := hn3.symm
 have HLB : Hid (c.s.bl.length = n4) := hn4.symm
 have HLF : Hid (fv.length = n5) := hn5.symm
 have HLE : Hid (ev.length = n6) := hn6.symm
 have HLR : Hid (rv.length = n7) := hn7.symm
 have HLC : Hid (c.fl.length = n5 ∧ c.se.length = n6 ∧ c.sn.length = n7 ∧ c.s.ks.length = n3) := ⟨by rw [← h.hf, List.length_map, hn5], by rw [← h.he, List.length_map, hn6], by rw [← h.hr, List.length_map, hn7], by rw [← h.hk, List.length_map, hn3]⟩
 have HFD : Hid (fv.map (·.d) = c.fl) := h.hf
 have HED : Hid (ev.map (·.d) = c.se) := h.he
 have HKS : Hid (kv.map (·.1) = c.s.ks) := h.hk
 have HZ := hid hz
 have bn3 : n3 ≤ 1048576 := by rw [← HLC.out.2.2.2]; exact hz.s.k
 have bn4 : n4 ≤ 1048576 := by rw [← HLB.out]; exact hz.s.b
 have bn5 : n5 ≤ 1048576 := by rw [← HLC.out.1]; exact hz.nf
 have bn6 : n6 ≤ 1048576 := by rw [← HLC.out.2.1]; exact hz.ne
 have bn7 : n7 ≤ 1048576 := by rw [← HLC.out.2.2.1]; exact hz.nr
 have HCA : Hid (∀ W, Below w.heap.size w W → CacheO W B (.slice o1 c.s.cs.length c1) (.slice o2 c.s.ws.length c2) (.slice o3 n3 c3) (.slice o4 n4 c4) (.slice o5 n5 c5) (.slice o6 n6 c6) (.slice o7 n7 c7) kv fv ev rv c) := fun W hb => h.below hb
 have HKP : Hid (∀ W, Below w.heap.size w W → KeptsO W B (.slice o3 n3 c3) kv) := fun W hb => (h.below hb).shelf.kept
 have HBN : Hid (∀ W, Below w.heap.size w W → BanA W o4 n4 c.s.bl) := fun W hb => by
  have h1 := (h.below hb).shelf.bans
  rw [HLB.out] at h1
  exact ban_view h1
 have HC4 : Hid (n4 ≤ c4) := by
  have h1 := h.shelf.bans
  rw [HLB.out] at h1
  exact owns_cap h1
 clear hn3 hn4 hn5 hn6 hn7 h hz
 have HJB : Hid (∀ W, Below w.heap.size w W → W.heap[gj]? = some (.cells #[.func (.func 50) #[] #[], .nilFunc] 72)) := fun W hb => blk_below hj hb
 clear hj
 have hnf : ∀ W : World, (binOp .neq 36 (.nilFunc) .nilFunc).run Tryz.prog W = .ok (.bool false) W := fun W => run_neq_nil_nil W 36 Tryz.underlying36
 have hb0 := Below.refl w.heap.size w
 go_enter Tryz.func49, Tryz.ntmps49
 go_upto_region 1 with fail
 obtain ⟨q1, hq1⟩ := exq (w.heap.size)
 obtain ⟨w1, hW1⟩ := exq (w.alloc (.cells #[.slice o1 c.s.cs.length c1, .slice o2 c.s.ws.length c2, .slice o3 n3 c3, .slice o4 n4 c4, .int .i64 c.s.nx, .int .i64 c.s.sq, .slice o5 n5 c5, .int .i64 c.now, .slice o6 n6 c6, .slice o7 n7 c7] 48))
 have hz1 := hq1.symm
 rw [← hW1]; try rw [← hq1]
 have hs1 := hsa hW1 hz1
 have bw := bal hW1
 have hb1 := hbt hb0 bw
 have B1_1 := hnew hW1 hz1
 clear hb0 bw hW1 hz1
 clear hs1 hq1
 go_wp2_with fail
 obtain ⟨wA, hwA⟩ := exq w1
 rw [← hwA] at hb1 B1_1 ⊢
 clear hwA
 go_loopw [9] (fun i wr => ∃ j : Nat, j ≤ 1 ∧ i = .int .i64 (j : Int) ∧ Hid (Below w.heap.size w (wr) ∧ wr.heap[q1]? = some (.cells #[.slice o1 c.s.cs.length c1, .slice o2 c.s.ws.length c2, .slice o3 n3 c3, .slice o4 n4 c4, .int .i64 c.s.nx, .int .i64 c.s.sq, .slice o5 n5 c5, .int .i64 c.now, .slice o6 n6 c6, .slice o7 n7 c7] 48)) ∧ Hid (0 < j → True)) (fun i _ => 1 - (intOf i).toNat)
 case atStart => exact ⟨0, Nat.zero_le _, rfl, ⟨hb1, B1_1.out⟩, fun h => absurd h (by omega)⟩
 case round =>
  obtain ⟨j, hj, rfl, HW, HN⟩ := hrel
  by_cases hlt : (j : Int) < (1 : Int)
  rotate_left
  ·have hb2 := HW.out.1
   have B1_2 := hid HW.out.2
   clear HW hb1
   have HFA : Hid (True) := HN.out (by omega)
   clear HN
   go_wp2_with fail
   go_ret
   exact BoolIs.yes HFA.out hb2
  have hb2 := HW.out.1
  have B1_2 := hid HW.out.2
  clear HW hb1
  have rj0 : wr.cell? ⟨gj, j * 2, none⟩ = some (.func (.func 50) #[] #[]) := by
   have e : j = 0 := by omega
   rw [e]
   exact (cell_of (HJB.out _ hb2) 0).trans rfl
  have rj1 : wr.cell? ⟨gj, j * 2 + 1, none⟩ = some (.nilFunc) := by
   have e : j = 0 := by omega
   rw [e]
   exact (cell_of (HJB.out _ hb2) 1).trans rfl
  have hjn : ¬ (1 ≤ j) := by omega
  go_upto_region 4 with fail
  obtain ⟨q2, hq2⟩ := exq (wr.heap.size)
  obtain ⟨w3, hW3⟩ := exq (wr.alloc (.cells #[.func (.func 50) #[] #[], .nilFunc] 72))
  have hz3 := hq2.symm
  rw [← hW3]; try rw [← hq2]
  have hs3 := hsa hW3 hz3
  have bw := bal hW3
  have hb3 := hbt hb2 bw
  have B1_3 := hblk B1_2 bw
  have B2_3 := hnew hW3 hz3
  clear hb2 bw hW3 hz3
  clear hs3 hq2
  clear rj0 rj1
  have c2_1 := (k2c B2_3).2
  have HN2 : Hid (0 < j + 1 → True) := fun _ => (by trivial)
  go_wp2_with fail
  go_roundw
  case rel => exact ⟨j + 1, by omega, by go_num, ⟨hb3, B1_3.out⟩, HN2⟩
  case measure => simp [intOf]; omega
theorem agreeHere_any (v1 v2 V VB F E R : Value) (kv : Ks) (fv : List FlV) (ev : List SeV) (rv : List RpV) (c : CaD) (B : Nat) (w : World) (h : CacheO w B v1 v2 V VB F E R kv fv ev rv c) (hz : CaSmall c) (gj : Nat) (hj : w.heap[gj]? = some (.cells #[.func (.func 50) #[] #[], .nilFunc] 72))  (hT : TabOk w) (ht : TimesOk c) :
  Calls Tryz.prog 19 #[.agg #[v1, v2, V, VB, .int .i64 c.s.nx, .int .i64 c.s.sq, F, .int .i64 c.now, E, R], .slice (some ⟨gj, 0, none⟩) 1 1] w fun e w' => BoolIs (CacheP c ∧ True ∧ EachHere (HereRP c) c.sn) w e w' := by
 obtain ⟨o1, c1, rfl⟩ := slice_of_owns h.shelf.disk.cells
 obtain ⟨o2, c2, rfl⟩ := slice_of_owns h.shelf.disk.pend
 obtain ⟨o3, c3, rfl⟩ := h.shelf.kept.len
 obtain ⟨o4, c4, rfl⟩ := slice_of_owns h.shelf.bans
 obtain ⟨o5, c5, rfl⟩ := h.fls.len
 obtain ⟨o6, c6, rfl⟩ := h.ses.len
 obtain ⟨o7, c7, rfl⟩ := h.rps.len
 obtain ⟨n3, hn3⟩ := exq kv.length
 obtain ⟨n4, hn4⟩ := exq (c.s.bl.length)
 obtain ⟨n5, hn5⟩ := exq fv.length
 obtain ⟨n6, hn6⟩ := exq ev.length
 obtain ⟨n7, hn7⟩ := exq rv.length
 rw [← hn3, ← hn4, ← hn5, ← hn6, ← hn7] at h ⊢
 have HLK : Hid (kv.length = n3) := hn3.symm
 have HLB : Hid (c.s.bl.length = n4) := hn4.symm
 have HLF : Hid (fv.length = n5) := hn5.symm
 have HLE : Hid (ev.length = n6) := hn6.symm
 have HLR : Hid (rv.length = n7) := hn7.symm
 have HLC : Hid (c.fl.length = n5 ∧ c.se.length = n6 ∧ c.sn.length = n7 ∧ c.s.ks.length = n3) := ⟨by rw [← h.hf, List.length_map, hn5], by rw [← h.he, List.length_map, hn6], by rw [← h.hr, List.length_map, hn7], by rw [← h.hk, List.length_map, hn3]⟩
 have HFD : Hid (fv.map (·.d) = c.fl) := h.hf
 have HED : Hid (ev.map (·.d) = c.se) := h.he
 have HRD : Hid (rv.map (·.d) = c.sn) := h.hr
 have HKS : Hid (kv.map (·.1) = c.s.ks) := h.hk
 have HZ := hid hz
 have bn3 : n3 ≤ 1048576 := by rw [← HLC.out.2.2.2]; exact hz.s.k
 have bn4 : n4 ≤ 1048576 := by rw [← HLB.out]; exact hz.s.b
 have bn5 : n5 ≤ 1048576 := by rw [← HLC.out.1]; exact hz.nf
 have bn6 : n6 ≤ 1048576 := by rw [← HLC.out.2.1]; exact hz.ne
 have bn7 : n7 ≤ 1048576 := by rw [← HLC.out.2.2.1]; exact hz.nr
 have HCA : Hid (∀ W, Below w.heap.size w W → CacheO W B (.slice o1 c.s.cs.length c1) (.slice o2 c.s.ws.length c2) (.slice o3 n3 c3) (.slice o4 n4 c4) (.slice o5 n5 c5) (.slice o6 n6 c6) (.slice o7 n7 c7) kv fv ev rv c) := fun W hb => h.below hb
 have HKP : Hid (∀ W, Below w.heap.size w W → KeptsO W B (.slice o3 n3 c3) kv) := fun W hb => (h.below hb).shelf.kept
 have HBN : Hid (∀ W, Below w.heap.size w W → BanA W o4 n4 c.s.bl) := fun W hb => by
  have h1 := (h.below hb).shelf.bans
  rw [HLB.out] at h1
  exact ban_view h1
 have HC4 : Hid (n4 ≤ c4) := by
  have h1 := h.shelf.bans
  rw [HLB.out] at h1
  exact owns_cap h1
 clear hn3 hn4 hn5 hn6 hn7 h hz
 have HJB : Hid (∀ W, Below w.heap.size w W → W.heap[gj]? = some (.cells #[.func (.func 50) #[] #[], .nilFunc] 72)) := fun W hb => blk_below hj hb
 clear hj
 have HT : Hid (∀ W, Below w.heap.size w W → TabOk W) := fun W hb => hT.below hb
 have HTI := hid ht
 clear hT ht
 have hcf : ∀ (args : Array Value) (W : World), (callFunc 50 args).run Tryz.prog W = .ok (.enter 50 args) W := enters_of Tryz.func50 (by kernel_rfl) rfl
 have hnf : ∀ W : World, (binOp .neq 65 (.func (.func 50) #[] #[]) .nilFunc).run Tryz.prog W = .ok (.bool true) W := fun W => run_neq_func_nil W 65 _ _ _ Tryz.underlying65
 have hb0 := Below.refl w.heap.size w
 go_enter Tryz.func19, Tryz.ntmps19
 go_wp2_with fail
 obtain ⟨q1, hq1⟩ := exq (w.heap.size)
 obtain ⟨w1, hW1⟩ := exq (w.alloc (.cells #[.slice o1 c.s.cs.length c1, .slice o2 c.s.ws.length c2, .slice o3 n3 c3, .slice o4 n4 c4, .int .i64 c.s.nx, .int .i64 c.s.sq, .slice o5 n5 c5, .int .i64 c.now, .slice o6 n6 c6, .slice o7 n7 c7] 48))
 have hz1 := hq1.symm
 rw [← hW1]; try rw [← hq1]
 have hs1 := hsa hW1 hz1
 have bw := bal hW1
 have hb1 := hbt hb0 bw
 have B1_1 := hnew hW1 hz1
 clear hb0 bw hW1 hz1
 clear hs1 hq1
 go_step3
 have c1_0 := (k10c B1_1).1
 have c1_1 := (k10c B1_1).2.1
 have c1_2 := (k10c B1_1).2.2.1
 have c1_3 := (k10c B1_1).2.2.2.1
 have c1_4 := (k10c B1_1).2.2.2.2.1
 have c1_5 := (k10c B1_1).2.2.2.2.2.1
 have c1_6 := (k10c B1_1).2.2.2.2.2.2.1
 have c1_7 := (k10c B1_1).2.2.2.2.2.2.2.1
 have c1_8 := (k10c B1_1).2.2.2.2.2.2.2.2.1
 have c1_9 := (k10c B1_1).2.2.2.2.2.2.2.2.2
 go_wp2_with fail
 refine (implCacheOk_any _ _ _ _ _ _ _ kv fv ev rv c B _ (HCA.out _ hb1) HZ.out).mono ?_
 rintro e w2 ⟨us, rfl, hus, bw⟩
 have hb2 := hbt hb1 bw
 have B1_2 := hblk B1_1 bw
 clear hb1 bw
 clear c1_0 c1_1 c1_2 c1_3 c1_4 c1_5 c1_6 c1_7 c1_8 c1_9
 cases us
 ·have HNus : Hid (¬ (CacheP c)) := fun h => nomatch hus.2 h
  clear hus
  go_wp2_with fail
  try rw [Exit.noGoto_ret]
  go_ret
  exact BoolIs.no (fun h => HNus.out h.1) hb2
 have HYus : Hid (CacheP c) := hus.1 rfl
 clear hus
 have c1_0 := (k10c B1_2).1
 have c1_1 := (k10c B1_2).2.1
 have c1_2 := (k10c B1_2).2.2.1
 have c1_3 := (k10c B1_2).2.2.2.1
 have c1_4 := (k10c B1_2).2.2.2.2.1
 have c1_5 := (k10c B1_2).2.2.2.2.2.1
 have c1_6 := (k10c B1_2).2.2.2.2.2.2.1
 have c1_7 := (k10c B1_2).2.2.2.2.2.2.2.1
 have c1_8 := (k10c B1_2).2.2.2.2.2.2.2.2.1
 have c1_9 := (k10c B1_2).2.2.2.2.2.2.2.2.2
 go_wp2_with fail
 refine (agreeOnWholeHere_any _ _ _ _ _ _ _ kv fv ev rv c B _ (HCA.out _ hb2) HZ.out gj (HJB.out _ hb2)).mono ?_
 rintro e w3 ⟨uw, rfl, huw, bw⟩
 have hb3 := hbt hb2 bw
 have B1_3 := hblk B1_2 bw
 clear hb2 bw
 clear c1_0 c1_1 c1_2 c1_3 c1_4 c1_5 c1_6 c1_7 c1_8 c1_9
 cases uw
 ·have HNuw : Hid (¬ (True)) := fun h => nomatch huw.2 h
  clear huw
  go_wp2_with fail
  try rw [Exit.noGoto_ret]
  go_ret
  exact BoolIs.no (fun h => HNuw.out h.2.1) hb3
 have HYuw : Hid (True) := huw.1 rfl
 clear huw
 go_wp2_with fail
 go_step3
 have c1_9 := (k10c B1_3).2.2.2.2.2.2.2.2.2
 go_wp2_with fail
 clear c1_9
 obtain ⟨wA, hwA⟩ := exq w3
 rw [← hwA] at hb3 B1_3 ⊢
 clear hwA
 go_loopw [5, 22] (fun r0 i wr => ∃ i' : Nat, i' ≤ n7 ∧ i = .int .i64 (i' : Int) ∧ r0 = .bool true ∧ Hid (Below w.heap.size w (wr) ∧ wr.heap[q1]? = some (.cells #[.slice o1 c.s.cs.length c1, .slice o2 c.s.ws.length c2, .slice o3 n3 c3, .slice o4 n4 c4, .int .i64 c.s.nx, .int .i64 c.s.sq, .slice o5 n5 c5, .int .i64 c.now, .slice o6 n6 c6, .slice o7 n7 c7] 48)) ∧ Hid (∀ m, m < i' → (rpAt c.sn m).knd = 1 → (HereRP c) (rpAt c.sn m))) (fun _ i _ => n7 - (intOf i).toNat)
 case atStart => exact ⟨0, Nat.zero_le _, rfl, rfl, ⟨hb3, B1_3.out⟩, fun m hm => absurd hm (by omega)⟩
 case round =>
  obtain ⟨i, hi, rfl, rfl, HW, HN⟩ := hrel
  by_cases hlt : (i : Int) < (n7 : Int)
  rotate_left
  ·have hb4 := HW.out.1
   have B1_4 := hid HW.out.2
   clear HW hb3
   have HFA : Hid (EachHere (HereRP c) c.sn) := fun m hm => HN.out m (by rw [HLC.out.2.2.1] at hm; omega)
   clear HN
   go_wp2_with fail
   try rw [Exit.noGoto_ret]
   go_ret
   exact BoolIs.yes ⟨HYus.out, HYuw.out, HFA.out⟩ hb4
  have hb4 := HW.out.1
  have B1_4 := hid HW.out.2
  clear HW hb3
  obtain ⟨g7, p7, hV, _, _⟩ := (HCA.out _ hb4).rps.look i (by rw [HLR.out]; omega)
  rw [HLR.out] at hV
  injection hV with hV1 hV2 hV3
  subst hV1 hV3
  clear hV2
  obtain ⟨dX, hdX⟩ := exq (rpvAt rv i)
  have HMd : Hid (dX ∈ rv) := by show _ ∈ _; rw [hdX]; exact getD_mem0 _ rv i (by rw [HLR.out]; omega)
  have HEd : Hid (rpAt c.sn i = dX.d) := by show _ = _; rw [hdX, ← HRD.out]; exact getD_map0 _ _ _ rv i (by rw [HLR.out]; omega)
  have HKd : Hid (∀ W, Below w.heap.size w W → RpAt W g7 i dX) := fun W hb => by
   obtain ⟨g', p', hV, _, hc⟩ := (HCA.out W hb).rps.look i (by rw [HLR.out]; omega)
   injection hV with hV1 _ _
   cases hV1
   rw [hdX]
   exact hc
  have HRd : Hid (∀ W, Below w.heap.size w W → RowsO W B (rpR dX)) := fun W hb => (HCA.out W hb).rps.item HMd.out
  have HSd : Hid (RpSmall dX.d) := HZ.out.sn _ (by rw [← HRD.out]; exact List.mem_map.2 ⟨_, HMd.out, rfl⟩)
  clear hdX
  obtain ⟨d, kuv3, kuv6, kuv11, kuv12, kuv14⟩ := dX
  obtain ⟨ku3, kc3, hu⟩ := slice_of_owns ((HRd.out _ hb4).own (⟨185, 2, kuv3, d.qfs.length, flatF d.qfs⟩ : Rw) (by simp [rpR]))
  obtain rfl : kuv3 = .slice ku3 d.qfs.length kc3 := hu
  obtain ⟨ku6, kc6, hu⟩ := slice_of_owns ((HRd.out _ hb4).own (⟨185, 2, kuv6, d.rfs.length, flatF d.rfs⟩ : Rw) (by simp [rpR]))
  obtain rfl : kuv6 = .slice ku6 d.rfs.length kc6 := hu
  obtain ⟨ku11, kc11, hu⟩ := slice_of_owns ((HRd.out _ hb4).own (⟨9, 1, kuv11, d.oxs.length, d.oxs.map Value.string⟩ : Rw) (by simp [rpR]))
  obtain rfl : kuv11 = .slice ku11 d.oxs.length kc11 := hu
  obtain ⟨ku12, kc12, hu⟩ := slice_of_owns ((HRd.out _ hb4).own (⟨9, 1, kuv12, d.oys.length, d.oys.map Value.string⟩ : Rw) (by simp [rpR]))
  obtain rfl : kuv12 = .slice ku12 d.oys.length kc12 := hu
  obtain ⟨ku14, kc14, hu⟩ := slice_of_owns ((HRd.out _ hb4).own (⟨185, 2, kuv14, d.ofs.length, flatF d.ofs⟩ : Rw) (by simp [rpR]))
  obtain rfl : kuv14 = .slice ku14 d.ofs.length kc14 := hu
  have HTd : Hid (TimesR d) := HTI.out _ (by rw [← HRD.out]; exact List.mem_map.2 ⟨_, HMd.out, rfl⟩)
  have HRGe7 : World.rangeAt (wr) g7 (i * 18) [.int .i64 d.cli, .int .i64 d.qmt, .string d.qpa, .slice ku3 d.qfs.length kc3, .string d.qbd, .int .i64 d.rst, .slice ku6 d.rfs.length kc6, .string d.rbd, .int .i64 d.knd, .int .i64 d.tim, .string d.opa, .slice ku11 d.oxs.length kc11, .slice ku12 d.oys.length kc12, .int .i64 d.ost, .slice ku14 d.ofs.length kc14, .string d.obd, .int .i64 d.otm, .int .i64 d.bns] := RpAt.range (HKd.out _ hb4)
  have HIFe7 : (Tryz.prog.info? 64).map (·.size) = some 18 := by kernel_rfl
  have HTHa : World.there (wr.alloc (.cells #[.int .i64 0, .int .i64 0, .string ⟨#[]⟩, .slice none 0 0, .string ⟨#[]⟩, .int .i64 0, .slice none 0 0, .string ⟨#[]⟩, .int .i64 0, .int .i64 0, .string ⟨#[]⟩, .slice none 0 0, .slice none 0 0, .int .i64 0, .slice none 0 0, .string ⟨#[]⟩, .int .i64 0, .int .i64 0] 64)) wr.heap.size 0 18 := there_of (heap_alloc_new _ _) rfl
  have HIFa : (Tryz.prog.info? 64).map (·.size) = some 18 := by kernel_rfl
  have HWEa : Hid ((wr.alloc (.cells #[.int .i64 0, .int .i64 0, .string ⟨#[]⟩, .slice none 0 0, .string ⟨#[]⟩, .int .i64 0, .slice none 0 0, .string ⟨#[]⟩, .int .i64 0, .int .i64 0, .string ⟨#[]⟩, .slice none 0 0, .slice none 0 0, .int .i64 0, .slice none 0 0, .string ⟨#[]⟩, .int .i64 0, .int .i64 0] 64)).setCells wr.heap.size 0 (#[.int .i64 d.cli, .int .i64 d.qmt, .string d.qpa, .slice ku3 d.qfs.length kc3, .string d.qbd, .int .i64 d.rst, .slice ku6 d.rfs.length kc6, .string d.rbd, .int .i64 d.knd, .int .i64 d.tim, .string d.opa, .slice ku11 d.oxs.length kc11, .slice ku12 d.oys.length kc12, .int .i64 d.ost, .slice ku14 d.ofs.length kc14, .string d.obd, .int .i64 d.otm, .int .i64 d.bns] : Array Value).toList = wr.alloc (.cells #[.int .i64 d.cli, .int .i64 d.qmt, .string d.qpa, .slice ku3 d.qfs.length kc3, .string d.qbd, .int .i64 d.rst, .slice ku6 d.rfs.length kc6, .string d.rbd, .int .i64 d.knd, .int .i64 d.tim, .string d.opa, .slice ku11 d.oxs.length kc11, .slice ku12 d.oys.length kc12, .int .i64 d.ost, .slice ku14 d.ofs.length kc14, .string d.obd, .int .i64 d.otm, .int .i64 d.bns] 64)) := alloc_whole rfl
  go_upto_region 7 with (first | (refine wpList_load_mid rfl 64 _ rfl g7 (i * 18) rfl [.int .i64 d.cli, .int .i64 d.qmt, .string d.qpa, .slice ku3 d.qfs.length kc3, .string d.qbd, .int .i64 d.rst, .slice ku6 d.rfs.length kc6, .string d.rbd, .int .i64 d.knd, .int .i64 d.tim, .string d.opa, .slice ku11 d.oxs.length kc11, .slice ku12 d.oys.length kc12, .int .i64 d.ost, .slice ku14 d.ofs.length kc14, .string d.obd, .int .i64 d.otm, .int .i64 d.bns] _ HRGe7 Tryz.underlying64 rfl HIFe7 ?_) | (refine wpList_store_mid rfl 64 _ _ rfl wr.heap.size 0 #[.int .i64 d.cli, .int .i64 d.qmt, .string d.qpa, .slice ku3 d.qfs.length kc3, .string d.qbd, .int .i64 d.rst, .slice ku6 d.rfs.length kc6, .string d.rbd, .int .i64 d.knd, .int .i64 d.tim, .string d.opa, .slice ku11 d.oxs.length kc11, .slice ku12 d.oys.length kc12, .int .i64 d.ost, .slice ku14 d.ofs.length kc14, .string d.obd, .int .i64 d.otm, .int .i64 d.bns] rfl rfl HTHa HIFa (by simp [Value.oneCell']) ?_; rw [HWEa.out]) | fail)
  clear HTHa HIFa HWEa
  obtain ⟨q2, hq2⟩ := exq (wr.heap.size)
  obtain ⟨w5, hW5⟩ := exq (wr.alloc (.cells #[.int .i64 d.cli, .int .i64 d.qmt, .string d.qpa, .slice ku3 d.qfs.length kc3, .string d.qbd, .int .i64 d.rst, .slice ku6 d.rfs.length kc6, .string d.rbd, .int .i64 d.knd, .int .i64 d.tim, .string d.opa, .slice ku11 d.oxs.length kc11, .slice ku12 d.oys.length kc12, .int .i64 d.ost, .slice ku14 d.ofs.length kc14, .string d.obd, .int .i64 d.otm, .int .i64 d.bns] 64))
  have hz5 := hq2.symm
  rw [← hW5]; try rw [← hq2]
  have hs5 := hsa hW5 hz5
  have bw := bal hW5
  have hb5 := hbt hb4 bw
  have B1_5 := hblk B1_4 bw
  have B2_5 := hnew hW5 hz5
  clear hb4 bw hW5 hz5
  clear hs5 hq2
  clear HRGe7 HIFe7
  have c2_8 := hcl B2_5 8 rfl
  by_cases hc1 : d.knd = 1
  rotate_left
  ·have hc1b : ((d.knd : Int) == (1 : Int)) = false := by simpa using hc1
   have hc1n : ((d.knd : Int) != (1 : Int)) = true := by simpa using hc1
   have HKN := hid hc1
   have hc1H := hid hc1
   clear hc1
   have HN2 : Hid (∀ m, m < i + 1 → (rpAt c.sn m).knd = 1 → (HereRP c) (rpAt c.sn m)) := fun m' hm' => by
    by_cases e : m' = i
    ·subst e
     exact fun h1 => by rw [HEd.out] at h1; exact absurd h1 HKN.out
    · exact HN.out m' (by omega)
   go_wp2_with fail
   go_roundw
   case rel => exact ⟨i + 1, by omega, by go_num, rfl, ⟨hb5, B1_5.out⟩, HN2⟩
   case measure => simp [intOf]; omega
  have hc1b : ((d.knd : Int) == (1 : Int)) = true := by simpa using hc1
  have hc1n : ((d.knd : Int) != (1 : Int)) = false := by simpa using hc1
  have HKN := hid hc1
  have hc1H := hid hc1
  clear hc1
  go_wp2_with fail
  clear c2_8
  obtain ⟨wB, hwB⟩ := exq w5
  rw [← hwB] at hb5 B1_5 B2_5 ⊢
  clear hwB
  go_loopw [5, 31] (fun r0 i0 wr => ∃ j : Nat, j ≤ 1 ∧ i0 = .int .i64 (j : Int) ∧ r0 = .bool true ∧ Hid (Below w.heap.size w (wr) ∧ wr.heap[q1]? = some (.cells #[.slice o1 c.s.cs.length c1, .slice o2 c.s.ws.length c2, .slice o3 n3 c3, .slice o4 n4 c4, .int .i64 c.s.nx, .int .i64 c.s.sq, .slice o5 n5 c5, .int .i64 c.now, .slice o6 n6 c6, .slice (some ⟨g7, 0, none⟩) n7 c7] 48) ∧ wr.heap[q2]? = some (.cells #[.int .i64 d.cli, .int .i64 d.qmt, .string d.qpa, .slice ku3 d.qfs.length kc3, .string d.qbd, .int .i64 d.rst, .slice ku6 d.rfs.length kc6, .string d.rbd, .int .i64 d.knd, .int .i64 d.tim, .string d.opa, .slice ku11 d.oxs.length kc11, .slice ku12 d.oys.length kc12, .int .i64 d.ost, .slice ku14 d.ofs.length kc14, .string d.obd, .int .i64 d.otm, .int .i64 d.bns] 64)) ∧ Hid (0 < j → (HereRP c) d)) (fun _ i0 _ => 1 - (intOf i0).toNat)
  case atStart => exact ⟨0, Nat.zero_le _, rfl, rfl, ⟨hb5, B1_5.out, B2_5.out⟩, fun h => absurd h (by omega)⟩
  case round =>
   obtain ⟨j, hj, rfl, rfl, HW, HJ⟩ := hrel
   by_cases hlj : (j : Int) < (1 : Int)
   rotate_left
   ·have hb6 := HW.out.1
    have B1_6 := hid HW.out.2.1
    have B2_6 := hid HW.out.2.2
    clear HW hb5
    have HPD : Hid ((HereRP c) d) := HJ.out (by omega)
    clear HJ
    have HN2 : Hid (∀ m, m < i + 1 → (rpAt c.sn m).knd = 1 → (HereRP c) (rpAt c.sn m)) := fun m' hm' => by
     by_cases e : m' = i
     ·subst e
      exact fun _ => by rw [HEd.out]; exact HPD.out
     · exact HN.out m' (by omega)
    go_wp2_with fail
    go_roundw
    case rel => exact ⟨i + 1, by omega, by go_num, rfl, ⟨hb6, B1_6.out⟩, HN2⟩
    case measure => simp [intOf]; omega
   have hb6 := HW.out.1
   have B1_6 := hid HW.out.2.1
   have B2_6 := hid HW.out.2.2
   clear HW hb5
   have rj0 : wr.cell? ⟨gj, j * 2, none⟩ = some (.func (.func 50) #[] #[]) := by
    have e : j = 0 := by omega
    rw [e]
    exact (cell_of (HJB.out _ hb6) 0).trans rfl
   have rj1 : wr.cell? ⟨gj, j * 2 + 1, none⟩ = some (.nilFunc) := by
    have e : j = 0 := by omega
    rw [e]
    exact (cell_of (HJB.out _ hb6) 1).trans rfl
   have hjn : ¬ (1 ≤ j) := by omega
   go_upto_region 11 with fail
   obtain ⟨q3, hq3⟩ := exq (wr.heap.size)
   obtain ⟨w7, hW7⟩ := exq (wr.alloc (.cells #[.func (.func 50) #[] #[], .nilFunc] 72))
   have hz7 := hq3.symm
   rw [← hW7]; try rw [← hq3]
   have hs7 := hsa hW7 hz7
   have bw := bal hW7
   have hb7 := hbt hb6 bw
   have B1_7 := hblk B1_6 bw
   have B2_7 := hblk B2_6 bw
   have B3_7 := hnew hW7 hz7
   clear hb6 bw hW7 hz7
   clear hs7 hq3
   clear rj0 rj1
   have HRGv2 : World.rangeAt (w7) q2 0 [.int .i64 d.cli, .int .i64 d.qmt, .string d.qpa, .slice ku3 d.qfs.length kc3, .string d.qbd, .int .i64 d.rst, .slice ku6 d.rfs.length kc6, .string d.rbd, .int .i64 d.knd, .int .i64 d.tim, .string d.opa, .slice ku11 d.oxs.length kc11, .slice ku12 d.oys.length kc12, .int .i64 d.ost, .slice ku14 d.ofs.length kc14, .string d.obd, .int .i64 d.otm, .int .i64 d.bns] := range_of B2_7.out
   have HIFv2 : (Tryz.prog.info? 64).map (·.size) = some 18 := by kernel_rfl
   have c1_0 := (k10c B1_7).1
   have c1_1 := (k10c B1_7).2.1
   have c1_2 := (k10c B1_7).2.2.1
   have c1_3 := (k10c B1_7).2.2.2.1
   have c1_4 := (k10c B1_7).2.2.2.2.1
   have c1_5 := (k10c B1_7).2.2.2.2.2.1
   have c1_6 := (k10c B1_7).2.2.2.2.2.2.1
   have c1_7 := (k10c B1_7).2.2.2.2.2.2.2.1
   have c1_8 := (k10c B1_7).2.2.2.2.2.2.2.2.1
   have c1_9 := (k10c B1_7).2.2.2.2.2.2.2.2.2
   have c3_0 := (k2c B3_7).1
   go_wp2_with (first | (refine wpList_load_mid rfl 64 _ rfl q2 0 rfl [.int .i64 d.cli, .int .i64 d.qmt, .string d.qpa, .slice ku3 d.qfs.length kc3, .string d.qbd, .int .i64 d.rst, .slice ku6 d.rfs.length kc6, .string d.rbd, .int .i64 d.knd, .int .i64 d.tim, .string d.opa, .slice ku11 d.oxs.length kc11, .slice ku12 d.oys.length kc12, .int .i64 d.ost, .slice ku14 d.ofs.length kc14, .string d.obd, .int .i64 d.otm, .int .i64 d.bns] _ HRGv2 Tryz.underlying64 rfl HIFv2 ?_) | (refine wpList_load_midG (by rfl) 64 _ rfl q2 0 rfl [.int .i64 d.cli, .int .i64 d.qmt, .string d.qpa, .slice ku3 d.qfs.length kc3, .string d.qbd, .int .i64 d.rst, .slice ku6 d.rfs.length kc6, .string d.rbd, .int .i64 d.knd, .int .i64 d.tim, .string d.opa, .slice ku11 d.oxs.length kc11, .slice ku12 d.oys.length kc12, .int .i64 d.ost, .slice ku14 d.ofs.length kc14, .string d.obd, .int .i64 d.otm, .int .i64 d.bns] _ HRGv2 Tryz.underlying64 rfl HIFv2 ?_) | fail)
   refine (isRightFromHere_any _ _ _ _ _ _ _ kv fv ev rv c B _ (HCA.out _ hb7) HZ.out d _ _ _ _ _ B (HRd.out _ hb7) HSd.out HTd.out (HT.out _ hb7)).mono ?_
   rintro e w8 ⟨ua, rfl, hua, bw⟩
   have hb8 := hbt hb7 bw
   have B1_8 := hblk B1_7 bw
   have B2_8 := hblk B2_7 bw
   have B3_8 := hblk B3_7 bw
   clear hb7 bw
   clear HRGv2 HIFv2 c1_0 c1_1 c1_2 c1_3 c1_4 c1_5 c1_6 c1_7 c1_8 c1_9 c3_0
   cases ua
   rotate_left
   ·have HYua : Hid (HereRP c d) := hua.1 rfl
    clear hua
    have HJ2 : Hid (0 < j + 1 → (HereRP c) d) := fun _ => HYua.out
    go_wp2_with fail
    go_roundw
    case rel => exact ⟨j + 1, by omega, by go_num, rfl, ⟨hb8, B1_8.out, B2_8.out⟩, HJ2⟩
    case measure => simp [intOf]; omega
   have HNua : Hid (¬ (HereRP c d)) := fun h => nomatch hua.2 h
   clear hua
   go_wp2_with fail
   try rw [Exit.noGoto_ret]
   go_ret
   exact BoolIs.no (fun h => by have h1 := h.2.2 i (by rw [HLC.out.2.2.1]; omega) (by rw [HEd.out]; exact HKN.out); rw [HEd.out] at h1; exact HNua.out h1) hb8
theorem implJudgeHere_any (v1 v2 V VB F E R : Value) (kv : Ks) (fv : List FlV) (ev : List SeV) (rv : List RpV) (c : CaD) (B : Nat) (w : World) (h : CacheO w B v1 v2 V VB F E R kv fv ev rv c) (hz : CaSmall c) (hT : TabOk w) (ht : TimesOk c) :
  Calls Tryz.prog 7 #[.agg #[v1, v2, V, VB, .int .i64 c.s.nx, .int .i64 c.s.sq, F, .int .i64 c.now, E, R]] w fun e w' => BoolIs (CacheP c ∧ True ∧ EachHere (HereRP c) c.sn) w e w' := by
 obtain ⟨o1, c1, rfl⟩ := slice_of_owns h.shelf.disk.cells
 obtain ⟨o2, c2, rfl⟩ := slice_of_owns h.shelf.disk.pend
 obtain ⟨o3, c3, rfl⟩ := h.shelf.kept.len
 obtain ⟨o4, c4, rfl⟩ := slice_of_owns h.shelf.bans
 obtain ⟨o5, c5, rfl⟩ := h.fls.len
 obtain ⟨o6, c6, rfl⟩ := h.ses.len
 obtain ⟨o7, c7, rfl⟩ := h.rps.len
 obtain ⟨n3, hn3⟩ := exq kv.length
 obtain ⟨n4, hn4⟩ := exq (c.s.bl.length)
 obtain ⟨n5, hn5⟩ := exq fv.length
 obtain ⟨n6, hn6⟩ := exq ev.length
 obtain ⟨n7, hn7⟩ := exq rv.length
 rw [← hn3, ← hn4, ← hn5, ← hn6, ← hn7] at h ⊢
 have HLK : Hid (kv.length = n3) := hn3.symm
 have HLB : Hid (c.s.bl.length = n4) := hn4.symm
 have HLF : Hid (fv.length = n5) := hn5.symm
 have HLE : Hid (ev.length = n6) := hn6.symm
 have HLR : Hid (rv.length = n7) := hn7.symm
 have HLC : Hid (c.fl.length = n5 ∧ c.se.length = n6 ∧ c.sn.length = n7 ∧ c.s.ks.length = n3) := ⟨by rw [← h.hf, List.length_map, hn5], by rw [← h.he, List.length_map, hn6], by rw [← h.hr, List.length_map, hn7], by rw [← h.hk, List.length_map, hn3]⟩
 have HFD : Hid (fv.map (·.d) = c.fl) := h.hf
 have HED : Hid (ev.map (·.d) = c.se) := h.he
 have HKS : Hid (kv.map (·.1) = c.s.ks) := h.hk
 have HZ := hid hz
 have bn3 : n3 ≤ 1048576 := by rw [← HLC.out.2.2.2]; exact hz.s.k
 have bn4 : n4 ≤ 1048576 := by rw [← HLB.out]; exact hz.s.b
 have bn5 : n5 ≤ 1048576 := by rw [← HLC.out.1]; exact hz.nf
 have bn6 : n6 ≤ 1048576 := by rw [← HLC.out.2.1]; exact hz.ne
 have bn7 : n7 ≤ 1048576 := by rw [← HLC.out.2.2.1]; exact hz.nr
 have HCA : Hid (∀ W, Below w.heap.size w W → CacheO W B (.slice o1 c.s.cs.length c1) (.slice o2 c.s.ws.length c2) (.slice o3 n3 c3) (.slice o4 n4 c4) (.slice o5 n5 c5) (.slice o6 n6 c6) (.slice o7 n7 c7) kv fv ev rv c) := fun W hb => h.below hb
 have HKP : Hid (∀ W, Below w.heap.size w W → KeptsO W B (.slice o3 n3 c3) kv) := fun W hb => (h.below hb).shelf.kept
 have HBN : Hid (∀ W, Below w.heap.size w W → BanA W o4 n4 c.s.bl) := fun W hb => by
  have h1 := (h.below hb).shelf.bans
  rw [HLB.out] at h1
  exact ban_view h1
 have HC4 : Hid (n4 ≤ c4) := by
  have h1 := h.shelf.bans
  rw [HLB.out] at h1
  exact owns_cap h1
 clear hn3 hn4 hn5 hn6 hn7 h hz
 have HT : Hid (∀ W, Below w.heap.size w W → TabOk W) := fun W hb => hT.below hb
 have HTI := hid ht
 clear hT ht
 have hb0 := Below.refl w.heap.size w
 go_enter Tryz.func7, Tryz.ntmps7
 go_upto_region 1 with fail
 obtain ⟨q1, hq1⟩ := exq (w.heap.size)
 obtain ⟨w1, hW1⟩ := exq (w.alloc (.cells #[.slice o1 c.s.cs.length c1, .slice o2 c.s.ws.length c2, .slice o3 n3 c3, .slice o4 n4 c4, .int .i64 c.s.nx, .int .i64 c.s.sq, .slice o5 n5 c5, .int .i64 c.now, .slice o6 n6 c6, .slice o7 n7 c7] 48))
 have hz1 := hq1.symm
 rw [← hW1]; try rw [← hq1]
 have hs1 := hsa hW1 hz1
 have bw := bal hW1
 have hb1 := hbt hb0 bw
 have B1_1 := hnew hW1 hz1
 clear hb0 bw hW1 hz1
 clear hs1 hq1
 go_upto_region 1 with fail
 refine wp_region_held_drew (S := fun W => W.heap[q1]? = some (.cells #[.slice o1 c.s.cs.length c1, .slice o2 c.s.ws.length c2, .slice o3 n3 c3, .slice o4 n4 c4, .int .i64 c.s.nx, .int .i64 c.s.sq, .slice o5 n5 c5, .int .i64 c.now, .slice o6 n6 c6, .slice o7 n7 c7] 48)) (by kernel_rfl) B1_1.out (fun _ => ?_)
 obtain ⟨w2, hX⟩ := exq w1.drew
 have bw := bdr hX
 rw [← hX]
 have hb2 := hbt hb1 bw
 have B1_2 := hblk B1_1 bw
 have hS2 := B1_2.out
 clear hb1 bw hX
 refine tkL 0 (.agg #[.slice o1 c.s.cs.length c1, .slice o2 c.s.ws.length c2, .slice o3 n3 c3, .slice o4 n4 c4, .int .i64 c.s.nx, .int .i64 c.s.sq, .slice o5 n5 c5, .int .i64 c.now, .slice o6 n6 c6, .slice o7 n7 c7]) 3 rfl rfl (Or.inl ⟨by rfl, by intro W hW; have hhv1 := hW; have y0 := (cell_of hhv1 0).trans rfl; have y1 := (cell_of hhv1 1).trans rfl; have y2 := (cell_of hhv1 2).trans rfl; have y3 := (cell_of hhv1 3).trans rfl; have y4 := (cell_of hhv1 4).trans rfl; have y5 := (cell_of hhv1 5).trans rfl; have y6 := (cell_of hhv1 6).trans rfl; have y7 := (cell_of hhv1 7).trans rfl; have y8 := (cell_of hhv1 8).trans rfl; have y9 := (cell_of hhv1 9).trans rfl; go_simp⟩) hS2 ?_
 go_frame
 refine rd1 1 rfl (fun K hK => ?_)
 go_simp
 refine (judgeOfHere_any _).mono ?_
 rintro e w3 ⟨rfl, bw⟩
 have hb3 := hbt hb2 bw
 have B1_3 := hblk B1_2 bw
 clear hb2 bw
 have hS3 := B1_3.out
 refine hK.out _ _ hS3 (fun _ => ?_)
 clear hK K hS2
 refine rd1 2 rfl (fun K hK => ?_)
 go_simp
 have bw : Below w3.heap.size w3 (w3.alloc (.cells #[.func (.func 50) #[] #[], .nilFunc] 72)) := (Below.refl _ _).alloc (Nat.le_refl _) _
 have hSA : (w3.alloc (.cells #[.func (.func 50) #[] #[], .nilFunc] 72)).heap[q1]? = some (.cells #[.slice o1 c.s.cs.length c1, .slice o2 c.s.ws.length c2, .slice o3 n3 c3, .slice o4 n4 c4, .int .i64 c.s.nx, .int .i64 c.s.sq, .slice o5 n5 c5, .int .i64 c.now, .slice o6 n6 c6, .slice o7 n7 c7] 48) := blk_below B1_3.out bw
 refine hK.out _ _ hSA (fun _ => ?_)
 clear hK K hSA bw hS3
 obtain ⟨q2, hq2⟩ := exq (w3.heap.size)
 obtain ⟨w4, hXj⟩ := exq ((w3.alloc (.cells #[.func (.func 50) #[] #[], .nilFunc] 72)))
 rw [← hq2, ← hXj]
 have bw := bal hXj
 have hb4 := hbt hb3 bw
 have B1_4 := hblk B1_3 bw
 have B2_4 : Hid (w4.heap[q2]? = some (.cells #[.func (.func 50) #[] #[], .nilFunc] 72)) := by show _ = _; rw [hXj, hq2]; exact heap_alloc_new _ _
 have hS4 := B1_4.out
 clear hb3 bw hXj hq2
 refine rd1 3 rfl (fun K hK => ?_)
 go_simp
 refine (agreeHere_any _ _ _ _ _ _ _ kv fv ev rv c B _ (HCA.out _ hb4) HZ.out q2 B2_4.out (HT.out _ hb4) HTI.out).mono ?_
 rintro e w5 ⟨ug, rfl, hug, bw⟩
 have HUG := hid hug
 clear hug
 have hb5 := hbt hb4 bw
 have B1_5 := hblk B1_4 bw
 have B2_5 := hblk B2_4 bw
 clear hb4 bw
 have hS5 := B1_5.out
 refine hK.out _ _ hS5 (fun _ => ?_)
 clear hK K hS4
 refine tkP 4 (.bool ug) 2 rfl rfl hS5 ?_
 go_frame
 clear hS5
 refine wdn ?_
 go_wp2_with fail
 go_ret
 exact ⟨ug, rfl, HUG.out, hb5⟩
theorem specCacheOk_any (v1 v2 V VB F E R : Value) (kv : Ks) (fv : List FlV) (ev : List SeV) (rv : List RpV) (c : CaD) (B : Nat) (w : World) (h : CacheO w B v1 v2 V VB F E R kv fv ev rv c) (hz : CaSmall c) :
  Calls Tryz.prog 13 #[.agg #[v1, v2, V, VB, .int .i64 c.s.nx, .int .i64 c.s.sq, F, .int .i64 c.now, E, R]] w fun e w' => BoolIs (CacheP c) w e w' := by
 obtain ⟨o1, c1, rfl⟩ := slice_of_owns h.shelf.disk.cells
 obtain ⟨o2, c2, rfl⟩ := slice_of_owns h.shelf.disk.pend
 obtain ⟨o3, c3, rfl⟩ := h.shelf.kept.len
 obtain ⟨o4, c4, rfl⟩ := slice_of_owns h.shelf.bans
 obtain ⟨o5, c5, rfl⟩ := h.fls.len
 obtain ⟨o6, c6, rfl⟩ := h.ses.len
 obtain ⟨o7, c7, rfl⟩ := h.rps.len
 obtain ⟨n5, hn5⟩ := exq fv.length
 obtain ⟨n6, hn6⟩ := exq ev.length
 obtain ⟨n7, hn7⟩ := exq rv.length
 rw [← hn5, ← hn6, ← hn7] at h ⊢
 have HLF : Hid (fv.length = n5) := hn5.symm
 have HLC : Hid (c.fl.length = n5 ∧ c.se.length = n6 ∧ c.sn.length = n7) := ⟨by rw [← h.hf, List.length_map, hn5], by rw [← h.he, List.length_map, hn6], by rw [← h.hr, List.length_map, hn7]⟩
 have HFD : Hid (fv.map (·.d) = c.fl) := h.hf
 have HZ := hid hz
 have bn5 : n5 ≤ 1048576 := by rw [← HLC.out.1]; exact hz.nf
 have bn6 : n6 ≤ 1048576 := by rw [← HLC.out.2.1]; exact hz.ne
 have bn7 : n7 ≤ 1048576 := by rw [← HLC.out.2.2]; exact hz.nr
 have HCA : Hid (∀ W, Below w.heap.size w W → CacheO W B (.slice o1 c.s.cs.length c1) (.slice o2 c.s.ws.length c2) (.slice o3 kv.length c3) (.slice o4 c.s.bl.length c4) (.slice o5 n5 c5) (.slice o6 n6 c6) (.slice o7 n7 c7) kv fv ev rv c) := fun W hb => h.below hb
 clear hn5 hn6 hn7 h hz
 have HFL : Hid (∀ W, Below w.heap.size w W → FlsO W B (.slice o5 n5 c5) fv) := fun W hb => (HCA.out W hb).fls
 have HFS : Hid (∀ x ∈ fv, FlSmall x.d) := fun x hx => HZ.out.fl _ (by rw [← HFD.out]; exact List.mem_map.2 ⟨x, hx, rfl⟩)
 have hb0 := Below.refl w.heap.size w
 go_enter Tryz.func13, Tryz.ntmps13
 go_upto_region 1 with fail
 obtain ⟨q1, hq1⟩ := exq (w.heap.size)
 obtain ⟨w1, hW1⟩ := exq (w.alloc (.cells #[.slice o1 c.s.cs.length c1, .slice o2 c.s.ws.length c2, .slice o3 kv.length c3, .slice o4 c.s.bl.length c4, .int .i64 c.s.nx, .int .i64 c.s.sq, .slice o5 n5 c5, .int .i64 c.now, .slice o6 n6 c6, .slice o7 n7 c7] 48))
 have hz1 := hq1.symm
 rw [← hW1]; try rw [← hq1]
 have hs1 := hsa hW1 hz1
 have bw := bal hW1
 have hb1 := hbt hb0 bw
 have B1_1 := hnew hW1 hz1
 clear hb0 bw hW1 hz1
 clear hs1 hq1
 have c1_0 := (k10c B1_1).1
 have c1_1 := (k10c B1_1).2.1
 have c1_2 := (k10c B1_1).2.2.1
 have c1_3 := (k10c B1_1).2.2.2.1
 have c1_4 := (k10c B1_1).2.2.2.2.1
 have c1_5 := (k10c B1_1).2.2.2.2.2.1
 go_wp2_with fail
 refine (specShelfOk_any _ _ _ _ kv c.s B _ (HCA.out _ hb1).shelf HZ.out.s).mono ?_
 rintro e w2 ⟨us, rfl, hus, bw⟩
 have hb2 := hbt hb1 bw
 have B1_2 := hblk B1_1 bw
 clear hb1 bw
 clear c1_0 c1_1 c1_2 c1_3 c1_4 c1_5
 cases us
 ·have HNus : Hid (¬ (ShelfP c.s)) := fun h => nomatch hus.2 h
  clear hus
  go_wp2_with fail
  go_ret
  exact BoolIs.no (fun h => HNus.out h.1) hb2
 have HYus : Hid (ShelfP c.s) := hus.1 rfl
 clear hus
 have c1_7 := (k10c B1_2).2.2.2.2.2.2.2.1
 go_wp2_with fail
 refine (l1In_any c.now 0 1000000 _).mono ?_
 rintro e w3 ⟨rfl, hwe⟩
 have bw : Below w2.heap.size (w2) w3 := by rw [hwe]; exact Below.refl _ _
 clear hwe
 obtain ⟨un, hun⟩ : ∃ u, u = decide ((0 : Int) ≤ c.now ∧ c.now ≤ 1000000) := ⟨_, rfl⟩
 rw [← hun]
 have hb3 := hbt hb2 bw
 have B1_3 := hblk B1_2 bw
 clear hb2 bw
 clear c1_7
 cases un
 ·have HNun : Hid (¬ (0 ≤ c.now ∧ c.now ≤ 1000000)) := (show ¬ (0 ≤ c.now ∧ c.now ≤ 1000000) from of_decide_eq_false hun.symm)
  clear hun
  go_wp2_with fail
  go_ret
  exact BoolIs.no (fun h => HNun.out h.2.1) hb3
 have HYun : Hid (0 ≤ c.now ∧ c.now ≤ 1000000) := (show (0 ≤ c.now ∧ c.now ≤ 1000000) from of_decide_eq_true hun.symm)
 clear hun
 by_cases hc1 : 5 < (n5 : Int)
 ·have Hf5 : Hid (¬ n5 ≤ 5) := (by have := hc1; show ¬ _; omega)
  have c1_6 := (k10c B1_3).2.2.2.2.2.2.1
  go_wp2_with fail
  go_ret
  exact BoolIs.no (fun h => by have h1 := h.2.2.1.1; have h5 := Hf5.out; rw [HLC.out.1] at h1; omega) hb3
 have Hf5 : Hid (n5 ≤ 5) := (by have := hc1; show _ ≤ _; omega)
 by_cases hc2 : 1500 < (n6 : Int)
 ·have He5 : Hid (¬ n6 ≤ 1500) := (by have := hc2; show ¬ _; omega)
  have c1_6 := (k10c B1_3).2.2.2.2.2.2.1
  have c1_8 := (k10c B1_3).2.2.2.2.2.2.2.2.1
  go_wp2_with fail
  go_ret
  exact BoolIs.no (fun h => by have h1 := h.2.2.2.1; have h5 := He5.out; rw [HLC.out.2.1] at h1; omega) hb3
 have He5 : Hid (n6 ≤ 1500) := (by have := hc2; show _ ≤ _; omega)
 have c1_6 := (k10c B1_3).2.2.2.2.2.2.1
 have c1_8 := (k10c B1_3).2.2.2.2.2.2.2.2.1
 have c1_9 := (k10c B1_3).2.2.2.2.2.2.2.2.2
 by_cases hc3 : 1500 < (n7 : Int)
 ·have Hr5 : Hid (¬ n7 ≤ 1500) := (by have := hc3; show ¬ _; omega)
  go_wp2_with fail
  go_ret
  exact BoolIs.no (fun h => by have h1 := h.2.2.2.2; have h5 := Hr5.out; rw [HLC.out.2.2] at h1; omega) hb3
 have Hr5 : Hid (n7 ≤ 1500) := (by have := hc3; show _ ≤ _; omega)
 go_wp2_with fail
 clear c1_6 c1_8 c1_9
 obtain ⟨wA, hwA⟩ := exq w3
 rw [← hwA] at hb3 B1_3 ⊢
 clear hwA
 go_loopw [3] (fun i wr => ∃ i' : Nat, i' ≤ n5 ∧ i = .int .i64 (i' : Int) ∧ Hid (Below w.heap.size w (wr) ∧ wr.heap[q1]? = some (.cells #[.slice o1 c.s.cs.length c1, .slice o2 c.s.ws.length c2, .slice o3 kv.length c3, .slice o4 c.s.bl.length c4, .int .i64 c.s.nx, .int .i64 c.s.sq, .slice o5 n5 c5, .int .i64 c.now, .slice o6 n6 c6, .slice o7 n7 c7] 48)) ∧ Hid (∀ m, m < i' → FlAtOk c.fl m)) (fun i _ => n5 - (intOf i).toNat)
 case atStart => exact ⟨0, Nat.zero_le _, rfl, ⟨hb3, B1_3.out⟩, fun m hm => absurd hm (by omega)⟩
 case round =>
  obtain ⟨i, hi, rfl, HW, HN⟩ := hrel
  by_cases hlt : (i : Int) < (n5 : Int)
  rotate_left
  ·have hb4 := HW.out.1
   have B1_4 := hid HW.out.2
   clear HW hb3
   have HFA : Hid (∀ m, m < c.fl.length → FlAtOk c.fl m) := fun m hm => HN.out m (by rw [HLC.out.1] at hm; omega)
   clear HN
   have c1_6 := (k10c B1_4).2.2.2.2.2.2.1
   go_wp2_with fail
   go_ret
   exact BoolIs.yes ⟨HYus.out, HYun.out, ⟨by rw [HLC.out.1]; exact Hf5.out, HFA.out⟩, by rw [HLC.out.2.1]; exact He5.out, by rw [HLC.out.2.2]; exact Hr5.out⟩ hb4
  have hb4 := HW.out.1
  have B1_4 := hid HW.out.2
  clear HW hb3
  obtain ⟨g5, p5, hV, _, _⟩ := (HFL.out _ hb4).look i (by rw [HLF.out]; omega)
  rw [HLF.out] at hV
  injection hV with hV1 hV2 hV3
  subst hV1 hV3
  clear hV2
  obtain ⟨dX, hdX⟩ := exq (flvAt fv i)
  have HMd : Hid (dX ∈ fv) := by show _ ∈ _; rw [hdX]; exact getD_mem0 _ fv i (by rw [HLF.out]; omega)
  have HEd : Hid (flAt c.fl i = dX.d) := by show _ = _; rw [hdX, ← HFD.out]; exact getD_map0 _ _ _ fv i (by rw [HLF.out]; omega)
  have HKd : Hid (∀ W, Below w.heap.size w W → FlAt W g5 i dX) := fun W hb => by
   obtain ⟨g', p', hV, _, hc⟩ := (HFL.out W hb).look i (by rw [HLF.out]; omega)
   injection hV with hV1 _ _
   cases hV1
   rw [hdX]
   exact hc
  have HRd : Hid (∀ W, Below w.heap.size w W → RowsO W B (flR dX)) := fun W hb => (HFL.out W hb).item HMd.out
  have HSd : Hid (FlSmall dX.d) := HFS.out _ HMd.out
  clear hdX
  obtain ⟨d, kuv2, kuv4, kuv6, kuv7, kuv9⟩ := dX
  obtain ⟨ku2, kc2, hu⟩ := slice_of_owns ((HRd.out _ hb4).own (⟨185, 2, kuv2, d.qfs.length, flatF d.qfs⟩ : Rw) (by simp [flR]))
  obtain rfl : kuv2 = .slice ku2 d.qfs.length kc2 := hu
  obtain ⟨ku4, kc4, hu⟩ := slice_of_owns ((HRd.out _ hb4).own (⟨3, 1, kuv4, d.who.length, d.who.map (Value.int .i64)⟩ : Rw) (by simp [flR]))
  obtain rfl : kuv4 = .slice ku4 d.who.length kc4 := hu
  obtain ⟨ku6, kc6, hu⟩ := slice_of_owns ((HRd.out _ hb4).own (⟨9, 1, kuv6, d.oxs.length, d.oxs.map Value.string⟩ : Rw) (by simp [flR]))
  obtain rfl : kuv6 = .slice ku6 d.oxs.length kc6 := hu
  obtain ⟨ku7, kc7, hu⟩ := slice_of_owns ((HRd.out _ hb4).own (⟨9, 1, kuv7, d.oys.length, d.oys.map Value.string⟩ : Rw) (by simp [flR]))
  obtain rfl : kuv7 = .slice ku7 d.oys.length kc7 := hu
  obtain ⟨ku9, kc9, hu⟩ := slice_of_owns ((HRd.out _ hb4).own (⟨185, 2, kuv9, d.ofs.length, flatF d.ofs⟩ : Rw) (by simp [flR]))
  obtain rfl : kuv9 = .slice ku9 d.ofs.length kc9 := hu
  have r0d := (HKd.out _ hb4).c0
  have r1d := (HKd.out _ hb4).c1
  have r2d := (HKd.out _ hb4).c2
  have r3d := (HKd.out _ hb4).c3
  have r4d := (HKd.out _ hb4).c4
  have r5d := (HKd.out _ hb4).c5
  have r6d := (HKd.out _ hb4).c6
  have r7d := (HKd.out _ hb4).c7
  have r8d := (HKd.out _ hb4).c8
  have r9d := (HKd.out _ hb4).c9
  have r10d := (HKd.out _ hb4).c10
  have r11d := (HKd.out _ hb4).c11
  have r12d := (HKd.out _ hb4).c12
  dsimp only at r0d r1d r2d r3d r4d r5d r6d r7d r8d r9d r10d r11d r12d
  obtain ⟨hs, hhhs⟩ := exq d.has
  rw [← hhhs] at r12d
  have HHhs := hid hhhs
  clear hhhs
  have c1_6 := (k10c B1_4).2.2.2.2.2.2.1
  go_upto_region 7 with fail
  obtain ⟨q2, hq2⟩ := exq (wr.heap.size)
  obtain ⟨w5, hW5⟩ := exq (wr.alloc (.cells #[.int .i64 d.qmt, .string d.qpa, .slice ku2 d.qfs.length kc2, .string d.qbd, .slice ku4 d.who.length kc4, .string d.opa, .slice ku6 d.oxs.length kc6, .slice ku7 d.oys.length kc7, .int .i64 d.ost, .slice ku9 d.ofs.length kc9, .string d.obd, .int .i64 d.otm, .bool hs] 101))
  have hz5 := hq2.symm
  rw [← hW5]; try rw [← hq2]
  have hs5 := hsa hW5 hz5
  have bw := bal hW5
  have hb5 := hbt hb4 bw
  have B1_5 := hblk B1_4 bw
  have B2_5 := hnew hW5 hz5
  clear hb4 bw hW5 hz5
  clear hs5 hq2
  clear r0d r1d r2d r3d r4d r5d r6d r7d r8d r9d r10d r11d r12d c1_6
  have c2_0 := hcl B2_5 0 rfl
  have c2_1 := hcl B2_5 1 rfl
  have c2_2 := hcl B2_5 2 rfl
  have c2_3 := hcl B2_5 3 rfl
  go_wp2_with fail
  refine (specReqOk_f d _ _ _ _ _ B _ (HRd.out _ hb5) HSd.out).mono ?_
  rintro e w6 ⟨ur, rfl, hur, bw⟩
  have hb6 := hbt hb5 bw
  have B1_6 := hblk B1_5 bw
  have B2_6 := hblk B2_5 bw
  clear hb5 bw
  clear c2_0 c2_1 c2_2 c2_3
  cases ur
  ·have HNur : Hid (¬ (ReqF d)) := fun h => nomatch hur.2 h
   clear hur
   go_wp2_with fail
   go_ret
   exact BoolIs.no (fun h => by have hk := h.2.2.1.2 i (by rw [HLC.out.1]; omega); unfold FlAtOk at hk; rw [HEd.out] at hk; exact HNur.out hk.1.1) hb6
  have HYur : Hid (ReqF d) := hur.1 rfl
  clear hur
  have c2_4 := hcl B2_6 4 rfl
  go_wp2_with fail
  refine (l1In_any (d.who.length : Int) 1 5 _).mono ?_
  rintro e w7 ⟨rfl, hwe⟩
  have bw : Below w6.heap.size (w6) w7 := by rw [hwe]; exact Below.refl _ _
  clear hwe
  obtain ⟨uw, huw⟩ : ∃ u, u = decide ((1 : Int) ≤ (d.who.length : Int) ∧ (d.who.length : Int) ≤ 5) := ⟨_, rfl⟩
  rw [← huw]
  have hb7 := hbt hb6 bw
  have B1_7 := hblk B1_6 bw
  have B2_7 := hblk B2_6 bw
  clear hb6 bw
  clear c2_4
  cases uw
  ·have HNuw : Hid (¬ (1 ≤ (d.who.length : Int) ∧ (d.who.length : Int) ≤ 5)) := (show ¬ (1 ≤ (d.who.length : Int) ∧ (d.who.length : Int) ≤ 5) from of_decide_eq_false huw.symm)
   clear huw
   go_wp2_with fail
   go_ret
   exact BoolIs.no (fun h => by have hk := h.2.2.1.2 i (by rw [HLC.out.1]; omega); unfold FlAtOk at hk; rw [HEd.out] at hk; exact HNuw.out hk.1.2.1) hb7
  have HYuw : Hid (1 ≤ (d.who.length : Int) ∧ (d.who.length : Int) ≤ 5) := (show (1 ≤ (d.who.length : Int) ∧ (d.who.length : Int) ≤ 5) from of_decide_eq_true huw.symm)
  clear huw
  cases hs
  ·have c2_12 := hcl B2_7 12 rfl
   go_wp2_with fail
   clear c2_12
   have HOB : Hid (d.has = true → ObjF d) := fun h => by have e := HHhs.out; rw [h] at e; cases e
   obtain ⟨wB, hwB⟩ := exq w7
   rw [← hwB] at hb7 B1_7 B2_7 ⊢
   clear hwB
   go_loopw [5] (fun i0 wr => ∃ j : Nat, j ≤ i ∧ i0 = .int .i64 (j : Int) ∧ Hid (Below w.heap.size w (wr) ∧ wr.heap[q1]? = some (.cells #[.slice o1 c.s.cs.length c1, .slice o2 c.s.ws.length c2, .slice o3 kv.length c3, .slice o4 c.s.bl.length c4, .int .i64 c.s.nx, .int .i64 c.s.sq, .slice (some ⟨g5, 0, none⟩) n5 c5, .int .i64 c.now, .slice o6 n6 c6, .slice o7 n7 c7] 48) ∧ wr.heap[q2]? = some (.cells #[.int .i64 d.qmt, .string d.qpa, .slice ku2 d.qfs.length kc2, .string d.qbd, .slice ku4 d.who.length kc4, .string d.opa, .slice ku6 d.oxs.length kc6, .slice ku7 d.oys.length kc7, .int .i64 d.ost, .slice ku9 d.ofs.length kc9, .string d.obd, .int .i64 d.otm, .bool false] 101)) ∧ Hid (∀ m, m < j → ¬ AlikeF (flAt c.fl m) d)) (fun i0 _ => i - (intOf i0).toNat)
   case atStart => exact ⟨0, Nat.zero_le _, rfl, ⟨hb7, B1_7.out, B2_7.out⟩, fun m hm => absurd hm (by omega)⟩
   case round =>
    obtain ⟨j, hj, rfl, HW, HJ⟩ := hrel
    by_cases hlj : (j : Int) < (i : Int)
    rotate_left
    ·have hb8 := HW.out.1
     have B1_8 := hid HW.out.2.1
     have B2_8 := hid HW.out.2.2
     clear HW hb7
     have HNA : Hid (∀ k, k < i → ¬ AlikeF (flAt c.fl k) d) := fun m hm => HJ.out m (by omega)
     clear HJ
     have HN2 : Hid (∀ m, m < i + 1 → FlAtOk c.fl m) := fun m hm => by
      by_cases e : m = i
      ·subst e
       unfold FlAtOk
       rw [HEd.out]
       exact ⟨⟨HYur.out, HYuw.out, HOB.out⟩, HNA.out⟩
      · exact HN.out m (by omega)
     go_wp2_with fail
     go_roundw
     case rel => exact ⟨i + 1, by omega, by go_num, ⟨hb8, B1_8.out⟩, HN2⟩
     case measure => simp [intOf]; omega
    have hb8 := HW.out.1
    have B1_8 := hid HW.out.2.1
    have B2_8 := hid HW.out.2.2
    clear HW hb7
    obtain ⟨zX, hzX⟩ := exq (flvAt fv j)
    have HMz : Hid (zX ∈ fv) := by show _ ∈ _; rw [hzX]; exact getD_mem0 _ fv j (by rw [HLF.out]; omega)
    have HEz : Hid (flAt c.fl j = zX.d) := by show _ = _; rw [hzX, ← HFD.out]; exact getD_map0 _ _ _ fv j (by rw [HLF.out]; omega)
    have HKz : Hid (∀ W, Below w.heap.size w W → FlAt W g5 j zX) := fun W hb => by
     obtain ⟨g', p', hV, _, hc⟩ := (HFL.out W hb).look j (by rw [HLF.out]; omega)
     injection hV with hV1 _ _
     cases hV1
     rw [hzX]
     exact hc
    have HRz : Hid (∀ W, Below w.heap.size w W → RowsO W B (flR zX)) := fun W hb => (HFL.out W hb).item HMz.out
    have HSz : Hid (FlSmall zX.d) := HFS.out _ HMz.out
    clear hzX
    obtain ⟨z, kzv2, kzv4, kzv6, kzv7, kzv9⟩ := zX
    obtain ⟨kz2, kzc2, hu⟩ := slice_of_owns ((HRz.out _ hb8).own (⟨185, 2, kzv2, z.qfs.length, flatF z.qfs⟩ : Rw) (by simp [flR]))
    obtain rfl : kzv2 = .slice kz2 z.qfs.length kzc2 := hu
    obtain ⟨kz4, kzc4, hu⟩ := slice_of_owns ((HRz.out _ hb8).own (⟨3, 1, kzv4, z.who.length, z.who.map (Value.int .i64)⟩ : Rw) (by simp [flR]))
    obtain rfl : kzv4 = .slice kz4 z.who.length kzc4 := hu
    obtain ⟨kz6, kzc6, hu⟩ := slice_of_owns ((HRz.out _ hb8).own (⟨9, 1, kzv6, z.oxs.length, z.oxs.map Value.string⟩ : Rw) (by simp [flR]))
    obtain rfl : kzv6 = .slice kz6 z.oxs.length kzc6 := hu
    obtain ⟨kz7, kzc7, hu⟩ := slice_of_owns ((HRz.out _ hb8).own (⟨9, 1, kzv7, z.oys.length, z.oys.map Value.string⟩ : Rw) (by simp [flR]))
    obtain rfl : kzv7 = .slice kz7 z.oys.length kzc7 := hu
    obtain ⟨kz9, kzc9, hu⟩ := slice_of_owns ((HRz.out _ hb8).own (⟨185, 2, kzv9, z.ofs.length, flatF z.ofs⟩ : Rw) (by simp [flR]))
    obtain rfl : kzv9 = .slice kz9 z.ofs.length kzc9 := hu
    have hjn : ¬ n5 ≤ j := by omega
    have HEL5 : Hid (∀ W, Below w.heap.size w W → (W.cell? ⟨g5, j * 13, none⟩ = some (.int .i64 z.qmt) ∧ W.cell? ⟨g5, j * 13 + 1, none⟩ = some (.string z.qpa) ∧ W.cell? ⟨g5, j * 13 + 2, none⟩ = some (.slice kz2 z.qfs.length kzc2) ∧ W.cell? ⟨g5, j * 13 + 3, none⟩ = some (.string z.qbd) ∧ W.cell? ⟨g5, j * 13 + 4, none⟩ = some (.slice kz4 z.who.length kzc4) ∧ W.cell? ⟨g5, j * 13 + 5, none⟩ = some (.string z.opa) ∧ W.cell? ⟨g5, j * 13 + 6, none⟩ = some (.slice kz6 z.oxs.length kzc6) ∧ W.cell? ⟨g5, j * 13 + 7, none⟩ = some (.slice kz7 z.oys.length kzc7) ∧ W.cell? ⟨g5, j * 13 + 8, none⟩ = some (.int .i64 z.ost) ∧ W.cell? ⟨g5, j * 13 + 9, none⟩ = some (.slice kz9 z.ofs.length kzc9) ∧ W.cell? ⟨g5, j * 13 + 10, none⟩ = some (.string z.obd) ∧ W.cell? ⟨g5, j * 13 + 11, none⟩ = some (.int .i64 z.otm) ∧ W.cell? ⟨g5, j * 13 + 12, none⟩ = some (.bool z.has))) := fun W hb => by
     have c := HKz.out W hb
     exact ⟨c.c0, c.c1, c.c2, c.c3, c.c4, c.c5, c.c6, c.c7, c.c8, c.c9, c.c10, c.c11, c.c12⟩
    go_upto_region 12 with fail
    refine wp_region_held_drew (S := fun W => W.heap[q1]? = some (.cells #[.slice o1 c.s.cs.length c1, .slice o2 c.s.ws.length c2, .slice o3 kv.length c3, .slice o4 c.s.bl.length c4, .int .i64 c.s.nx, .int .i64 c.s.sq, .slice (some ⟨g5, 0, none⟩) n5 c5, .int .i64 c.now, .slice o6 n6 c6, .slice o7 n7 c7] 48) ∧ (W.cell? ⟨g5, j * 13, none⟩ = some (.int .i64 z.qmt) ∧ W.cell? ⟨g5, j * 13 + 1, none⟩ = some (.string z.qpa) ∧ W.cell? ⟨g5, j * 13 + 2, none⟩ = some (.slice kz2 z.qfs.length kzc2) ∧ W.cell? ⟨g5, j * 13 + 3, none⟩ = some (.string z.qbd) ∧ W.cell? ⟨g5, j * 13 + 4, none⟩ = some (.slice kz4 z.who.length kzc4) ∧ W.cell? ⟨g5, j * 13 + 5, none⟩ = some (.string z.opa) ∧ W.cell? ⟨g5, j * 13 + 6, none⟩ = some (.slice kz6 z.oxs.length kzc6) ∧ W.cell? ⟨g5, j * 13 + 7, none⟩ = some (.slice kz7 z.oys.length kzc7) ∧ W.cell? ⟨g5, j * 13 + 8, none⟩ = some (.int .i64 z.ost) ∧ W.cell? ⟨g5, j * 13 + 9, none⟩ = some (.slice kz9 z.ofs.length kzc9) ∧ W.cell? ⟨g5, j * 13 + 10, none⟩ = some (.string z.obd) ∧ W.cell? ⟨g5, j * 13 + 11, none⟩ = some (.int .i64 z.otm) ∧ W.cell? ⟨g5, j * 13 + 12, none⟩ = some (.bool z.has)) ∧ W.heap[q2]? = some (.cells #[.int .i64 d.qmt, .string d.qpa, .slice ku2 d.qfs.length kc2, .string d.qbd, .slice ku4 d.who.length kc4, .string d.opa, .slice ku6 d.oxs.length kc6, .slice ku7 d.oys.length kc7, .int .i64 d.ost, .slice ku9 d.ofs.length kc9, .string d.obd, .int .i64 d.otm, .bool false] 101)) (by kernel_rfl) ⟨B1_8.out, (by first | exact HEL5.out _ hb8 | exact HEL5.out _ hb8.drew), B2_8.out⟩ (fun _ => ?_)
    obtain ⟨w9, hX⟩ := exq wr.drew
    have bw := bdr hX
    rw [← hX]
    have hb9 := hbt hb8 bw
    have B1_9 := hblk B1_8 bw
    have B2_9 := hblk B2_8 bw
    have hS9 : w9.heap[q1]? = some (.cells #[.slice o1 c.s.cs.length c1, .slice o2 c.s.ws.length c2, .slice o3 kv.length c3, .slice o4 c.s.bl.length c4, .int .i64 c.s.nx, .int .i64 c.s.sq, .slice (some ⟨g5, 0, none⟩) n5 c5, .int .i64 c.now, .slice o6 n6 c6, .slice o7 n7 c7] 48) ∧ (w9.cell? ⟨g5, j * 13, none⟩ = some (.int .i64 z.qmt) ∧ w9.cell? ⟨g5, j * 13 + 1, none⟩ = some (.string z.qpa) ∧ w9.cell? ⟨g5, j * 13 + 2, none⟩ = some (.slice kz2 z.qfs.length kzc2) ∧ w9.cell? ⟨g5, j * 13 + 3, none⟩ = some (.string z.qbd) ∧ w9.cell? ⟨g5, j * 13 + 4, none⟩ = some (.slice kz4 z.who.length kzc4) ∧ w9.cell? ⟨g5, j * 13 + 5, none⟩ = some (.string z.opa) ∧ w9.cell? ⟨g5, j * 13 + 6, none⟩ = some (.slice kz6 z.oxs.length kzc6) ∧ w9.cell? ⟨g5, j * 13 + 7, none⟩ = some (.slice kz7 z.oys.length kzc7) ∧ w9.cell? ⟨g5, j * 13 + 8, none⟩ = some (.int .i64 z.ost) ∧ w9.cell? ⟨g5, j * 13 + 9, none⟩ = some (.slice kz9 z.ofs.length kzc9) ∧ w9.cell? ⟨g5, j * 13 + 10, none⟩ = some (.string z.obd) ∧ w9.cell? ⟨g5, j * 13 + 11, none⟩ = some (.int .i64 z.otm) ∧ w9.cell? ⟨g5, j * 13 + 12, none⟩ = some (.bool z.has)) ∧ w9.heap[q2]? = some (.cells #[.int .i64 d.qmt, .string d.qpa, .slice ku2 d.qfs.length kc2, .string d.qbd, .slice ku4 d.who.length kc4, .string d.opa, .slice ku6 d.oxs.length kc6, .slice ku7 d.oys.length kc7, .int .i64 d.ost, .slice ku9 d.ofs.length kc9, .string d.obd, .int .i64 d.otm, .bool false] 101) := ⟨B1_9.out, (by first | exact HEL5.out _ hb9 | exact HEL5.out _ hb9.drew), B2_9.out⟩
    clear hb8 bw hX
    refine tkP 0 (.pointer (some ⟨q1, 6, none⟩)) 72 rfl rfl hS9 ?_
    go_frame
    refine tkL 1 (.slice (some ⟨g5, 0, none⟩) n5 c5) 73 rfl rfl (Or.inl ⟨by rfl, by intro W hW; obtain ⟨hhv1, hhE_5, hhv2⟩ := hW; have y6 := (cell_of hhv1 6).trans rfl; go_simp⟩) hS9 ?_
    go_frame
    refine tkP 2 (.int .i64 (j : Int)) 74 rfl rfl hS9 (tkP 3 (.pointer (some ⟨g5, j * 13, none⟩)) 75 rfl rfl hS9 (tkP 4 (.pointer (some ⟨g5, j * 13, none⟩)) 76 rfl rfl hS9 ?_))
    go_frame
    refine tkL 5 (.agg #[.int .i64 z.qmt, .string z.qpa, .slice kz2 z.qfs.length kzc2, .string z.qbd]) 77 rfl rfl (Or.inl ⟨by rfl, by intro W hW; obtain ⟨hhv1, hhE_5, hhv2⟩ := hW; have y0 := hhE_5.1; have y1 := hhE_5.2.1; have y2 := hhE_5.2.2.1; have y3 := hhE_5.2.2.2.1; go_simp⟩) hS9 ?_
    go_frame
    refine tkP 6 (.pointer (some ⟨q2, 0, none⟩)) 78 rfl rfl hS9 ?_
    go_frame
    refine tkL 7 (.agg #[.int .i64 d.qmt, .string d.qpa, .slice ku2 d.qfs.length kc2, .string d.qbd]) 79 rfl rfl (Or.inl ⟨by rfl, by intro W hW; obtain ⟨hhv1, hhE_5, hhv2⟩ := hW; have y0 := (cell_of hhv2 0).trans rfl; have y1 := (cell_of hhv2 1).trans rfl; have y2 := (cell_of hhv2 2).trans rfl; have y3 := (cell_of hhv2 3).trans rfl; go_simp⟩) hS9 ?_
    go_frame
    refine rd1 8 rfl (fun K hK => ?_)
    go_simp
    refine (specAlike_f z d _ _ _ _ _ _ _ _ _ _ B B _ (HRz.out _ hb9) (HRd.out _ hb9) HSz.out HSd.out).mono ?_
    rintro e w10 ⟨ua, rfl, hua, bw⟩
    have hb10 := hbt hb9 bw
    have HM10 := hsz bw
    have B1_10 := hblk B1_9 bw
    have B2_10 := hblk B2_9 bw
    clear hb9 bw
    have hS10 : w10.heap[q1]? = some (.cells #[.slice o1 c.s.cs.length c1, .slice o2 c.s.ws.length c2, .slice o3 kv.length c3, .slice o4 c.s.bl.length c4, .int .i64 c.s.nx, .int .i64 c.s.sq, .slice (some ⟨g5, 0, none⟩) n5 c5, .int .i64 c.now, .slice o6 n6 c6, .slice o7 n7 c7] 48) ∧ (w10.cell? ⟨g5, j * 13, none⟩ = some (.int .i64 z.qmt) ∧ w10.cell? ⟨g5, j * 13 + 1, none⟩ = some (.string z.qpa) ∧ w10.cell? ⟨g5, j * 13 + 2, none⟩ = some (.slice kz2 z.qfs.length kzc2) ∧ w10.cell? ⟨g5, j * 13 + 3, none⟩ = some (.string z.qbd) ∧ w10.cell? ⟨g5, j * 13 + 4, none⟩ = some (.slice kz4 z.who.length kzc4) ∧ w10.cell? ⟨g5, j * 13 + 5, none⟩ = some (.string z.opa) ∧ w10.cell? ⟨g5, j * 13 + 6, none⟩ = some (.slice kz6 z.oxs.length kzc6) ∧ w10.cell? ⟨g5, j * 13 + 7, none⟩ = some (.slice kz7 z.oys.length kzc7) ∧ w10.cell? ⟨g5, j * 13 + 8, none⟩ = some (.int .i64 z.ost) ∧ w10.cell? ⟨g5, j * 13 + 9, none⟩ = some (.slice kz9 z.ofs.length kzc9) ∧ w10.cell? ⟨g5, j * 13 + 10, none⟩ = some (.string z.obd) ∧ w10.cell? ⟨g5, j * 13 + 11, none⟩ = some (.int .i64 z.otm) ∧ w10.cell? ⟨g5, j * 13 + 12, none⟩ = some (.bool z.has)) ∧ w10.heap[q2]? = some (.cells #[.int .i64 d.qmt, .string d.qpa, .slice ku2 d.qfs.length kc2, .string d.qbd, .slice ku4 d.who.length kc4, .string d.opa, .slice ku6 d.oxs.length kc6, .slice ku7 d.oys.length kc7, .int .i64 d.ost, .slice ku9 d.ofs.length kc9, .string d.obd, .int .i64 d.otm, .bool false] 101) := ⟨B1_10.out, (by first | exact HEL5.out _ hb10 | exact HEL5.out _ hb10.drew), B2_10.out⟩
    refine hK.out _ _ hS10 (fun _ => ?_)
    clear hK K hS9
    clear hS10
    refine wdn ?_
    cases ua
    rotate_left
    ·have HYua : Hid (AlikeF z d) := hua.1 rfl
     clear hua
     go_wp2_with fail
     go_ret
     exact BoolIs.no (fun h => by have hk := h.2.2.1.2 i (by rw [HLC.out.1]; omega); unfold FlAtOk at hk; rw [HEd.out] at hk; exact hk.2 j (by omega) (by rw [HEz.out]; exact HYua.out)) hb10
    have HNua : Hid (¬ (AlikeF z d)) := fun h => nomatch hua.2 h
    clear hua
    have HJ2 : Hid (∀ m, m < j + 1 → ¬ AlikeF (flAt c.fl m) d) := fun m hm => by
     by_cases e : m = j
     ·subst e
      rw [HEz.out]
      exact HNua.out
     · exact HJ.out m (by omega)
    go_wp2_with fail
    go_roundw
    case rel => exact ⟨j + 1, by omega, by go_num, ⟨hb10, B1_10.out, B2_10.out⟩, HJ2⟩
    case measure => simp [intOf]; omega
  have c2_5 := hcl B2_7 5 rfl
  have c2_6 := hcl B2_7 6 rfl
  have c2_7 := hcl B2_7 7 rfl
  have c2_8 := hcl B2_7 8 rfl
  have c2_9 := hcl B2_7 9 rfl
  have c2_10 := hcl B2_7 10 rfl
  have c2_11 := hcl B2_7 11 rfl
  have c2_12 := hcl B2_7 12 rfl
  go_wp2_with fail
  refine (specObjOk_f d _ _ _ _ _ B _ (HRd.out _ hb7) HSd.out).mono ?_
  rintro e w8 ⟨uo, rfl, huo, bw⟩
  have hb8 := hbt hb7 bw
  have B1_8 := hblk B1_7 bw
  have B2_8 := hblk B2_7 bw
  clear hb7 bw
  clear c2_5 c2_6 c2_7 c2_8 c2_9 c2_10 c2_11 c2_12
  cases uo
  ·have HNuo : Hid (¬ (ObjF d)) := fun h => nomatch huo.2 h
   clear huo
   go_wp2_with fail
   go_ret
   exact BoolIs.no (fun h => by have hk := h.2.2.1.2 i (by rw [HLC.out.1]; omega); unfold FlAtOk at hk; rw [HEd.out] at hk; exact HNuo.out (hk.1.2.2 (by have e := HHhs.out; exact e.symm))) hb8
  have HYuo : Hid (ObjF d) := huo.1 rfl
  clear huo
  go_wp2_with fail
  have HOB : Hid (d.has = true → ObjF d) := fun _ => HYuo.out
  obtain ⟨wB, hwB⟩ := exq w8
  rw [← hwB] at hb8 B1_8 B2_8 ⊢
  clear hwB
  go_loopw [5] (fun i0 wr => ∃ j : Nat, j ≤ i ∧ i0 = .int .i64 (j : Int) ∧ Hid (Below w.heap.size w (wr) ∧ wr.heap[q1]? = some (.cells #[.slice o1 c.s.cs.length c1, .slice o2 c.s.ws.length c2, .slice o3 kv.length c3, .slice o4 c.s.bl.length c4, .int .i64 c.s.nx, .int .i64 c.s.sq, .slice (some ⟨g5, 0, none⟩) n5 c5, .int .i64 c.now, .slice o6 n6 c6, .slice o7 n7 c7] 48) ∧ wr.heap[q2]? = some (.cells #[.int .i64 d.qmt, .string d.qpa, .slice ku2 d.qfs.length kc2, .string d.qbd, .slice ku4 d.who.length kc4, .string d.opa, .slice ku6 d.oxs.length kc6, .slice ku7 d.oys.length kc7, .int .i64 d.ost, .slice ku9 d.ofs.length kc9, .string d.obd, .int .i64 d.otm, .bool true] 101)) ∧ Hid (∀ m, m < j → ¬ AlikeF (flAt c.fl m) d)) (fun i0 _ => i - (intOf i0).toNat)
  case atStart => exact ⟨0, Nat.zero_le _, rfl, ⟨hb8, B1_8.out, B2_8.out⟩, fun m hm => absurd hm (by omega)⟩
  case round =>
   obtain ⟨j, hj, rfl, HW, HJ⟩ := hrel
   by_cases hlj : (j : Int) < (i : Int)
   rotate_left
   ·have hb9 := HW.out.1
    have B1_9 := hid HW.out.2.1
    have B2_9 := hid HW.out.2.2
    clear HW hb8
    have HNA : Hid (∀ k, k < i → ¬ AlikeF (flAt c.fl k) d) := fun m hm => HJ.out m (by omega)
    clear HJ
    have HN2 : Hid (∀ m, m < i + 1 → FlAtOk c.fl m) := fun m hm => by
     by_cases e : m = i
     ·subst e
      unfold FlAtOk
      rw [HEd.out]
      exact ⟨⟨HYur.out, HYuw.out, HOB.out⟩, HNA.out⟩
     · exact HN.out m (by omega)
    go_wp2_with fail
    go_roundw
    case rel => exact ⟨i + 1, by omega, by go_num, ⟨hb9, B1_9.out⟩, HN2⟩
    case measure => simp [intOf]; omega
   have hb9 := HW.out.1
   have B1_9 := hid HW.out.2.1
   have B2_9 := hid HW.out.2.2
   clear HW hb8
   obtain ⟨zX, hzX⟩ := exq (flvAt fv j)
   have HMz : Hid (zX ∈ fv) := by show _ ∈ _; rw [hzX]; exact getD_mem0 _ fv j (by rw [HLF.out]; omega)
   have HEz : Hid (flAt c.fl j = zX.d) := by show _ = _; rw [hzX, ← HFD.out]; exact getD_map0 _ _ _ fv j (by rw [HLF.out]; omega)
   have HKz : Hid (∀ W, Below w.heap.size w W → FlAt W g5 j zX) := fun W hb => by
    obtain ⟨g', p', hV, _, hc⟩ := (HFL.out W hb).look j (by rw [HLF.out]; omega)
    injection hV with hV1 _ _
    cases hV1
    rw [hzX]
    exact hc
   have HRz : Hid (∀ W, Below w.heap.size w W → RowsO W B (flR zX)) := fun W hb => (HFL.out W hb).item HMz.out
   have HSz : Hid (FlSmall zX.d) := HFS.out _ HMz.out
   clear hzX
   obtain ⟨z, kzv2, kzv4, kzv6, kzv7, kzv9⟩ := zX
   obtain ⟨kz2, kzc2, hu⟩ := slice_of_owns ((HRz.out _ hb9).own (⟨185, 2, kzv2, z.qfs.length, flatF z.qfs⟩ : Rw) (by simp [flR]))
   obtain rfl : kzv2 = .slice kz2 z.qfs.length kzc2 := hu
   obtain ⟨kz4, kzc4, hu⟩ := slice_of_owns ((HRz.out _ hb9).own (⟨3, 1, kzv4, z.who.length, z.who.map (Value.int .i64)⟩ : Rw) (by simp [flR]))
   obtain rfl : kzv4 = .slice kz4 z.who.length kzc4 := hu
   obtain ⟨kz6, kzc6, hu⟩ := slice_of_owns ((HRz.out _ hb9).own (⟨9, 1, kzv6, z.oxs.length, z.oxs.map Value.string⟩ : Rw) (by simp [flR]))
   obtain rfl : kzv6 = .slice kz6 z.oxs.length kzc6 := hu
   obtain ⟨kz7, kzc7, hu⟩ := slice_of_owns ((HRz.out _ hb9).own (⟨9, 1, kzv7, z.oys.length, z.oys.map Value.string⟩ : Rw) (by simp [flR]))
   obtain rfl : kzv7 = .slice kz7 z.oys.length kzc7 := hu
   obtain ⟨kz9, kzc9, hu⟩ := slice_of_owns ((HRz.out _ hb9).own (⟨185, 2, kzv9, z.ofs.length, flatF z.ofs⟩ : Rw) (by simp [flR]))
   obtain rfl : kzv9 = .slice kz9 z.ofs.length kzc9 := hu
   have hjn : ¬ n5 ≤ j := by omega
   have HEL5 : Hid (∀ W, Below w.heap.size w W → (W.cell? ⟨g5, j * 13, none⟩ = some (.int .i64 z.qmt) ∧ W.cell? ⟨g5, j * 13 + 1, none⟩ = some (.string z.qpa) ∧ W.cell? ⟨g5, j * 13 + 2, none⟩ = some (.slice kz2 z.qfs.length kzc2) ∧ W.cell? ⟨g5, j * 13 + 3, none⟩ = some (.string z.qbd) ∧ W.cell? ⟨g5, j * 13 + 4, none⟩ = some (.slice kz4 z.who.length kzc4) ∧ W.cell? ⟨g5, j * 13 + 5, none⟩ = some (.string z.opa) ∧ W.cell? ⟨g5, j * 13 + 6, none⟩ = some (.slice kz6 z.oxs.length kzc6) ∧ W.cell? ⟨g5, j * 13 + 7, none⟩ = some (.slice kz7 z.oys.length kzc7) ∧ W.cell? ⟨g5, j * 13 + 8, none⟩ = some (.int .i64 z.ost) ∧ W.cell? ⟨g5, j * 13 + 9, none⟩ = some (.slice kz9 z.ofs.length kzc9) ∧ W.cell? ⟨g5, j * 13 + 10, none⟩ = some (.string z.obd) ∧ W.cell? ⟨g5, j * 13 + 11, none⟩ = some (.int .i64 z.otm) ∧ W.cell? ⟨g5, j * 13 + 12, none⟩ = some (.bool z.has))) := fun W hb => by
    have c := HKz.out W hb
    exact ⟨c.c0, c.c1, c.c2, c.c3, c.c4, c.c5, c.c6, c.c7, c.c8, c.c9, c.c10, c.c11, c.c12⟩
   go_upto_region 12 with fail
   refine wp_region_held_drew (S := fun W => W.heap[q1]? = some (.cells #[.slice o1 c.s.cs.length c1, .slice o2 c.s.ws.length c2, .slice o3 kv.length c3, .slice o4 c.s.bl.length c4, .int .i64 c.s.nx, .int .i64 c.s.sq, .slice (some ⟨g5, 0, none⟩) n5 c5, .int .i64 c.now, .slice o6 n6 c6, .slice o7 n7 c7] 48) ∧ (W.cell? ⟨g5, j * 13, none⟩ = some (.int .i64 z.qmt) ∧ W.cell? ⟨g5, j * 13 + 1, none⟩ = some (.string z.qpa) ∧ W.cell? ⟨g5, j * 13 + 2, none⟩ = some (.slice kz2 z.qfs.length kzc2) ∧ W.cell? ⟨g5, j * 13 + 3, none⟩ = some (.string z.qbd) ∧ W.cell? ⟨g5, j * 13 + 4, none⟩ = some (.slice kz4 z.who.length kzc4) ∧ W.cell? ⟨g5, j * 13 + 5, none⟩ = some (.string z.opa) ∧ W.cell? ⟨g5, j * 13 + 6, none⟩ = some (.slice kz6 z.oxs.length kzc6) ∧ W.cell? ⟨g5, j * 13 + 7, none⟩ = some (.slice kz7 z.oys.length kzc7) ∧ W.cell? ⟨g5, j * 13 + 8, none⟩ = some (.int .i64 z.ost) ∧ W.cell? ⟨g5, j * 13 + 9, none⟩ = some (.slice kz9 z.ofs.length kzc9) ∧ W.cell? ⟨g5, j * 13 + 10, none⟩ = some (.string z.obd) ∧ W.cell? ⟨g5, j * 13 + 11, none⟩ = some (.int .i64 z.otm) ∧ W.cell? ⟨g5, j * 13 + 12, none⟩ = some (.bool z.has)) ∧ W.heap[q2]? = some (.cells #[.int .i64 d.qmt, .string d.qpa, .slice ku2 d.qfs.length kc2, .string d.qbd, .slice ku4 d.who.length kc4, .string d.opa, .slice ku6 d.oxs.length kc6, .slice ku7 d.oys.length kc7, .int .i64 d.ost, .slice ku9 d.ofs.length kc9, .string d.obd, .int .i64 d.otm, .bool true] 101)) (by kernel_rfl) ⟨B1_9.out, (by first | exact HEL5.out _ hb9 | exact HEL5.out _ hb9.drew), B2_9.out⟩ (fun _ => ?_)
   obtain ⟨w10, hX⟩ := exq wr.drew
   have bw := bdr hX
   rw [← hX]
   have hb10 := hbt hb9 bw
   have HM10 := hsz bw
   have B1_10 := hblk B1_9 bw
   have B2_10 := hblk B2_9 bw
   have hS10 : w10.heap[q1]? = some (.cells #[.slice o1 c.s.cs.length c1, .slice o2 c.s.ws.length c2, .slice o3 kv.length c3, .slice o4 c.s.bl.length c4, .int .i64 c.s.nx, .int .i64 c.s.sq, .slice (some ⟨g5, 0, none⟩) n5 c5, .int .i64 c.now, .slice o6 n6 c6, .slice o7 n7 c7] 48) ∧ (w10.cell? ⟨g5, j * 13, none⟩ = some (.int .i64 z.qmt) ∧ w10.cell? ⟨g5, j * 13 + 1, none⟩ = some (.string z.qpa) ∧ w10.cell? ⟨g5, j * 13 + 2, none⟩ = some (.slice kz2 z.qfs.length kzc2) ∧ w10.cell? ⟨g5, j * 13 + 3, none⟩ = some (.string z.qbd) ∧ w10.cell? ⟨g5, j * 13 + 4, none⟩ = some (.slice kz4 z.who.length kzc4) ∧ w10.cell? ⟨g5, j * 13 + 5, none⟩ = some (.string z.opa) ∧ w10.cell? ⟨g5, j * 13 + 6, none⟩ = some (.slice kz6 z.oxs.length kzc6) ∧ w10.cell? ⟨g5, j * 13 + 7, none⟩ = some (.slice kz7 z.oys.length kzc7) ∧ w10.cell? ⟨g5, j * 13 + 8, none⟩ = some (.int .i64 z.ost) ∧ w10.cell? ⟨g5, j * 13 + 9, none⟩ = some (.slice kz9 z.ofs.length kzc9) ∧ w10.cell? ⟨g5, j * 13 + 10, none⟩ = some (.string z.obd) ∧ w10.cell? ⟨g5, j * 13 + 11, none⟩ = some (.int .i64 z.otm) ∧ w10.cell? ⟨g5, j * 13 + 12, none⟩ = some (.bool z.has)) ∧ w10.heap[q2]? = some (.cells #[.int .i64 d.qmt, .string d.qpa, .slice ku2 d.qfs.length kc2, .string d.qbd, .slice ku4 d.who.length kc4, .string d.opa, .slice ku6 d.oxs.length kc6, .slice ku7 d.oys.length kc7, .int .i64 d.ost, .slice ku9 d.ofs.length kc9, .string d.obd, .int .i64 d.otm, .bool true] 101) := ⟨B1_10.out, (by first | exact HEL5.out _ hb10 | exact HEL5.out _ hb10.drew), B2_10.out⟩
   clear hb9 bw hX
   refine tkP 0 (.pointer (some ⟨q1, 6, none⟩)) 72 rfl rfl hS10 ?_
   go_frame
   refine tkL 1 (.slice (some ⟨g5, 0, none⟩) n5 c5) 73 rfl rfl (Or.inl ⟨by rfl, by intro W hW; obtain ⟨hhv1, hhE_5, hhv2⟩ := hW; have y6 := (cell_of hhv1 6).trans rfl; go_simp⟩) hS10 ?_
   go_frame
   refine tkP 2 (.int .i64 (j : Int)) 74 rfl rfl hS10 (tkP 3 (.pointer (some ⟨g5, j * 13, none⟩)) 75 rfl rfl hS10 (tkP 4 (.pointer (some ⟨g5, j * 13, none⟩)) 76 rfl rfl hS10 ?_))
   go_frame
   refine tkL 5 (.agg #[.int .i64 z.qmt, .string z.qpa, .slice kz2 z.qfs.length kzc2, .string z.qbd]) 77 rfl rfl (Or.inl ⟨by rfl, by intro W hW; obtain ⟨hhv1, hhE_5, hhv2⟩ := hW; have y0 := hhE_5.1; have y1 := hhE_5.2.1; have y2 := hhE_5.2.2.1; have y3 := hhE_5.2.2.2.1; go_simp⟩) hS10 ?_
   go_frame
   refine tkP 6 (.pointer (some ⟨q2, 0, none⟩)) 78 rfl rfl hS10 ?_
   go_frame
   refine tkL 7 (.agg #[.int .i64 d.qmt, .string d.qpa, .slice ku2 d.qfs.length kc2, .string d.qbd]) 79 rfl rfl (Or.inl ⟨by rfl, by intro W hW; obtain ⟨hhv1, hhE_5, hhv2⟩ := hW; have y0 := (cell_of hhv2 0).trans rfl; have y1 := (cell_of hhv2 1).trans rfl; have y2 := (cell_of hhv2 2).trans rfl; have y3 := (cell_of hhv2 3).trans rfl; go_simp⟩) hS10 ?_
   go_frame
   refine rd1 8 rfl (fun K hK => ?_)
   go_simp
   refine (specAlike_f z d _ _ _ _ _ _ _ _ _ _ B B _ (HRz.out _ hb10) (HRd.out _ hb10) HSz.out HSd.out).mono ?_
   rintro e w11 ⟨ua, rfl, hua, bw⟩
   have hb11 := hbt hb10 bw
   have B1_11 := hblk B1_10 bw
   have B2_11 := hblk B2_10 bw
   clear hb10 bw
   have hS11 : w11.heap[q1]? = some (.cells #[.slice o1 c.s.cs.length c1, .slice o2 c.s.ws.length c2, .slice o3 kv.length c3, .slice o4 c.s.bl.length c4, .int .i64 c.s.nx, .int .i64 c.s.sq, .slice (some ⟨g5, 0, none⟩) n5 c5, .int .i64 c.now, .slice o6 n6 c6, .slice o7 n7 c7] 48) ∧ (w11.cell? ⟨g5, j * 13, none⟩ = some (.int .i64 z.qmt) ∧ w11.cell? ⟨g5, j * 13 + 1, none⟩ = some (.string z.qpa) ∧ w11.cell? ⟨g5, j * 13 + 2, none⟩ = some (.slice kz2 z.qfs.length kzc2) ∧ w11.cell? ⟨g5, j * 13 + 3, none⟩ = some (.string z.qbd) ∧ w11.cell? ⟨g5, j * 13 + 4, none⟩ = some (.slice kz4 z.who.length kzc4) ∧ w11.cell? ⟨g5, j * 13 + 5, none⟩ = some (.string z.opa) ∧ w11.cell? ⟨g5, j * 13 + 6, none⟩ = some (.slice kz6 z.oxs.length kzc6) ∧ w11.cell? ⟨g5, j * 13 + 7, none⟩ = some (.slice kz7 z.oys.length kzc7) ∧ w11.cell? ⟨g5, j * 13 + 8, none⟩ = some (.int .i64 z.ost) ∧ w11.cell? ⟨g5, j * 13 + 9, none⟩ = some (.slice kz9 z.ofs.length kzc9) ∧ w11.cell? ⟨g5, j * 13 + 10, none⟩ = some (.string z.obd) ∧ w11.cell? ⟨g5, j * 13 + 11, none⟩ = some (.int .i64 z.otm) ∧ w11.cell? ⟨g5, j * 13 + 12, none⟩ = some (.bool z.has)) ∧ w11.heap[q2]? = some (.cells #[.int .i64 d.qmt, .string d.qpa, .slice ku2 d.qfs.length kc2, .string d.qbd, .slice ku4 d.who.length kc4, .string d.opa, .slice ku6 d.oxs.length kc6, .slice ku7 d.oys.length kc7, .int .i64 d.ost, .slice ku9 d.ofs.length kc9, .string d.obd, .int .i64 d.otm, .bool true] 101) := ⟨B1_11.out, (by first | exact HEL5.out _ hb11 | exact HEL5.out _ hb11.drew), B2_11.out⟩
   refine hK.out _ _ hS11 (fun _ => ?_)
   clear hK K hS10
   clear hS11
   refine wdn ?_
   cases ua
   rotate_left
   ·have HYua : Hid (AlikeF z d) := hua.1 rfl
    clear hua
    go_wp2_with fail
    go_ret
    exact BoolIs.no (fun h => by have hk := h.2.2.1.2 i (by rw [HLC.out.1]; omega); unfold FlAtOk at hk; rw [HEd.out] at hk; exact hk.2 j (by omega) (by rw [HEz.out]; exact HYua.out)) hb11
   have HNua : Hid (¬ (AlikeF z d)) := fun h => nomatch hua.2 h
   clear hua
   have HJ2 : Hid (∀ m, m < j + 1 → ¬ AlikeF (flAt c.fl m) d) := fun m hm => by
    by_cases e : m = j
    ·subst e
     rw [HEz.out]
     exact HNua.out
    · exact HJ.out m (by omega)
   go_wp2_with fail
   go_roundw
   case rel => exact ⟨j + 1, by omega, by go_num, ⟨hb11, B1_11.out, B2_11.out⟩, HJ2⟩
   case measure => simp [intOf]; omega
end Go.Proofs.YtpacdigfnneoeaaGreatDoor
