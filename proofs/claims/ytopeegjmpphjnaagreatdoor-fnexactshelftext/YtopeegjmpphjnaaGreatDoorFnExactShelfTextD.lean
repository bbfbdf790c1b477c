/- What the proof of FnExactShelfText leans on: contracts of the program's and the specification's functions, and plain facts (part 4 of 5). -/
import Derived.Test.YtopeegjmpphjnaaGreatDoorFnExactShelfTextC
set_option maxHeartbeats 16000000
set_option maxRecDepth 100000
namespace Go.Proofs.YtopeegjmpphjnaaGreatDoor
open Go.RowKit
open Go.Lib hiding intOf
structure ShSmall (s : ShD) : Prop where
 c : s.cs.length ≤ 1048576
 w : s.ws.length ≤ 1048576
 k : s.ks.length ≤ 1048576
 b : s.bl.length ≤ 1048576
 ct : ∀ i, i < s.cs.length → (textAt s.cs i).size ≤ 1048576
 wt : ∀ x ∈ s.ws, x.2.size ≤ 1048576
 ks : ∀ k ∈ s.ks, KpSmall k
 bt : ∀ x ∈ s.bl, x.2.1.size ≤ 1048576 ∧ x.2.2.1.size ≤ 1048576
theorem ShSmall.bm {s : ShD} (h : ShSmall s) : ∀ x ∈ s.bl, x.2.1.size ≤ maxLen ∧ x.2.2.1.size ≤ maxLen := fun x hx => ⟨Nat.le_trans (h.bt x hx).1 (by decide), Nat.le_trans (h.bt x hx).2 (by decide)⟩
theorem ShSmall.kv {s : ShD} (h : ShSmall s) {kv : Ks} (hk : kv.map (·.1) = s.ks) {x : KpD × Value × Value × Value} (hx : x ∈ kv) : KpSmall x.1 := h.ks x.1 (by rw [← hk]; exact List.mem_map.2 ⟨x, hx, rfl⟩)
theorem specShelfOk_any (v1 v2 V VB : Value) (kv : Ks) (s : ShD) (B : Nat) (w : World) (h : ShelfO w B v1 v2 V VB kv s) (hz : ShSmall s) :
  Calls Tryz.prog 22 #[.agg #[v1, v2, V, VB, .int .i64 s.nx, .int .i64 s.sq]] w fun e w' => BoolIs (ShelfP s) w e w' := by
 obtain ⟨o1, c1, e1⟩ := slice_of_owns h.disk.cells
 obtain ⟨o2, c2, e2⟩ := slice_of_owns h.disk.pend
 obtain ⟨o3, c3, e3⟩ := slice_of_owns h.kept.row
 obtain ⟨o4, c4, e4⟩ := slice_of_owns h.bans
 subst e1 e2 e3 e4
 obtain ⟨n1, hn1⟩ := exq (s.cs.length)
 obtain ⟨n2, hn2⟩ := exq (s.ws.length)
 obtain ⟨n3, hn3⟩ := exq kv.length
 obtain ⟨n4, hn4⟩ := exq (s.bl.length)
 rw [← hn1, ← hn2, ← hn3, ← hn4] at h ⊢
 have HLN : Hid (s.cs.length = n1 ∧ s.ws.length = n2 ∧ kv.length = n3 ∧ s.bl.length = n4) := ⟨hn1.symm, hn2.symm, hn3.symm, hn4.symm⟩
 have HKS : Hid (kv.map (·.1) = s.ks) := h.2
 have HZ := hid hz
 have bn1 : n1 ≤ 1048576 := by rw [hn1]; exact hz.c
 have bn2 : n2 ≤ 1048576 := by rw [hn2]; exact hz.w
 have bn3 : n3 ≤ 1048576 := by rw [hn3, ← List.length_map (f := (·.1)), h.2]; exact hz.k
 have bn4 : n4 ≤ 1048576 := by rw [hn4]; exact hz.b
 have HSH : Hid (∀ W, Below w.heap.size w W → ShelfO W B (.slice o1 n1 c1) (.slice o2 n2 c2) (.slice o3 n3 c3) (.slice o4 n4 c4) kv s) := fun W hb => h.below hb
 have HKP : Hid (∀ W, Below w.heap.size w W → KeptsO W B (.slice o3 n3 c3) kv) := fun W hb => (h.below hb).kept
 have HLK : Hid (kv.length = n3) := hn3.symm
 clear hn1 hn2 hn3 hn4 h hz
 have hb0 := Below.refl w.heap.size w
 go_enter Tryz.func22, Tryz.ntmps22
 go_upto_region 1 with fail
 obtain ⟨q1, hq1⟩ := exq (w.heap.size)
 obtain ⟨w1, hW1⟩ := exq (w.alloc (.cells #[.slice o1 n1 c1, .slice o2 n2 c2, .slice o3 n3 c3, .slice o4 n4 c4, .int .i64 s.nx, .int .i64 s.sq] 38))
 have hz1 := hq1.symm
 rw [← hW1]; try rw [← hq1]
 have hs1 := hsa hW1 hz1
 have bw := bal hW1
 have hb1 := hbt hb0 bw
 have B1_1 := hnew hW1 hz1
 clear hb0 bw hW1 hz1
 clear hs1 hq1
 have c1_0 := (k6c B1_1).1
 have c1_1 := (k6c B1_1).2.1
 go_wp2_with fail
 refine (specDiskOk_any _ _ n1 s.cs n2 s.ws B _ (by have hd := (HSH.out _ hb1).disk; rw [HLN.out.1, HLN.out.2.1] at hd; exact hd) (by omega) (by omega)).mono ?_
 rintro e w2 ⟨ud, rfl, hud, bw⟩
 have hb2 := hbt hb1 bw
 have B1_2 := hblk B1_1 bw
 clear hb1 bw
 clear c1_0 c1_1
 cases ud
 ·have HNud : Hid (¬ (DiskP s.cs s.ws)) := fun h => nomatch hud.2 h
  clear hud
  go_wp2_with fail
  go_ret
  exact BoolIs.no (fun h => HNud.out h.1) hb2
 have HYud : Hid (DiskP s.cs s.ws) := hud.1 rfl
 clear hud
 by_cases hc1 : 5 < (n4 : Int)
 ·have HB5 : Hid (¬ n4 ≤ 5) := (by have := hc1; show ¬ _; omega)
  have c1_3 := (k6c B1_2).2.2.2.1
  go_wp2_with fail
  go_ret
  exact BoolIs.no (fun h => by have h1 := h.2.1; have h5 := HB5.out; rw [HLN.out.2.2.2] at h1; omega) hb2
 have HB5 : Hid (n4 ≤ 5) := (by have := hc1; show _ ≤ _; omega)
 have c1_3 := (k6c B1_2).2.2.2.1
 have c1_4 := (k6c B1_2).2.2.2.2.1
 go_wp2_with fail
 refine (l1In_any s.nx 5 19 _).mono ?_
 rintro e w3 ⟨rfl, hwe⟩
 have bw : Below w2.heap.size (w2) w3 := by rw [hwe]; exact Below.refl _ _
 clear hwe
 obtain ⟨unx, hunx⟩ : ∃ u, u = decide ((5 : Int) ≤ s.nx ∧ s.nx ≤ 19) := ⟨_, rfl⟩
 rw [← hunx]
 have hb3 := hbt hb2 bw
 have B1_3 := hblk B1_2 bw
 clear hb2 bw
 clear c1_3 c1_4
 cases unx
 ·have HNunx : Hid (¬ (5 ≤ s.nx ∧ s.nx ≤ 19)) := (show ¬ (5 ≤ s.nx ∧ s.nx ≤ 19) from of_decide_eq_false hunx.symm)
  clear hunx
  go_wp2_with fail
  go_ret
  exact BoolIs.no (fun h => HNunx.out h.2.2.1) hb3
 have HYunx : Hid (5 ≤ s.nx ∧ s.nx ≤ 19) := (show (5 ≤ s.nx ∧ s.nx ≤ 19) from of_decide_eq_true hunx.symm)
 clear hunx
 have c1_5 := (k6c B1_3).2.2.2.2.2
 go_wp2_with fail
 refine (l1In_any s.sq 1 100000 _).mono ?_
 rintro e w4 ⟨rfl, hwe⟩
 have bw : Below w3.heap.size (w3) w4 := by rw [hwe]; exact Below.refl _ _
 clear hwe
 obtain ⟨usq, husq⟩ : ∃ u, u = decide ((1 : Int) ≤ s.sq ∧ s.sq ≤ 100000) := ⟨_, rfl⟩
 rw [← husq]
 have hb4 := hbt hb3 bw
 have B1_4 := hblk B1_3 bw
 clear hb3 bw
 clear c1_5
 cases usq
 ·have HNusq : Hid (¬ (1 ≤ s.sq ∧ s.sq ≤ 100000)) := (show ¬ (1 ≤ s.sq ∧ s.sq ≤ 100000) from of_decide_eq_false husq.symm)
  clear husq
  go_wp2_with fail
  go_ret
  exact BoolIs.no (fun h => HNusq.out h.2.2.2.1) hb4
 have HYusq : Hid (1 ≤ s.sq ∧ s.sq ≤ 100000) := (show (1 ≤ s.sq ∧ s.sq ≤ 100000) from of_decide_eq_true husq.symm)
 clear husq
 have bq1 := HYusq.out.1
 have bq2 := HYusq.out.2
 have hwq : IntKind.i64.wrap (s.sq - 1) = s.sq - 1 := by rw [IntKind.wrap_i64]; omega
 go_wp2_with fail
 go_loopw [3] (fun i wr => ∃ j : Nat, j ≤ n4 ∧ i = .int .i64 (j : Int) ∧ Hid (Below w.heap.size w (wr) ∧ wr.heap[q1]? = some (.cells #[.slice o1 n1 c1, .slice o2 n2 c2, .slice o3 n3 c3, .slice o4 n4 c4, .int .i64 s.nx, .int .i64 s.sq] 38)) ∧ Hid (∀ x ∈ s.bl.take j, BanP x.1 x.2.1 x.2.2.1 x.2.2.2)) (fun i _ => n4 - (intOf i).toNat)
 case atStart => exact ⟨0, Nat.zero_le _, rfl, ⟨hb4, B1_4.out⟩, fun x hx => by simp at hx⟩
 case round =>
  obtain ⟨j, hj, rfl, HW, HN⟩ := hrel
  by_cases hlt : (j : Int) < (n4 : Int)
  ·have hb5 := HW.out.1
   have B1_5 := hid HW.out.2
   clear HW hb4
   have hbn := (HSH.out _ hb5).bans
   try rw [HLN.out.2.2.2] at hbn
   have hbv := ban_view hbn
   clear hbn
   obtain ⟨g4, hog, hgl, r1, r2, r3, r4⟩ := hbv.2 j (by first | omega | (rw [HLN.out.2.2.2]; omega))
   clear hbv
   subst hog
   obtain ⟨y, hy⟩ := exq (banAt s.bl j)
   rw [← hy] at r1 r2 r3 r4
   have HM : Hid (y ∈ s.bl) := by show _ ∈ _; rw [hy]; exact banAt_mem s.bl j (by rw [HLN.out.2.2.2]; omega)
   have HTK : Hid (s.bl.take (j + 1) = s.bl.take j ++ [y]) := by show _ = _; rw [hy]; exact take_banAt s.bl j (by rw [HLN.out.2.2.2]; omega)
   clear hy hgl
   obtain ⟨y0, y1, y2, y3⟩ := y
   dsimp only at r1 r2 r3 r4
   have c1_3 := (k6c B1_5).2.2.2.1
   go_wp2_with fail
   refine (specBanOk_any y0 y1 y2 y3 _ (HZ.out.bm _ HM.out).1 (HZ.out.bm _ HM.out).2).mono ?_
   rintro e w6 ⟨ub, rfl, hub, bw⟩
   have hb6 := hbt hb5 bw
   have B1_6 := hblk B1_5 bw
   clear hb5 bw
   clear r1 r2 r3 r4 c1_3
   cases ub
   ·have HNub : Hid (¬ (BanP y0 y1 y2 y3)) := fun h => nomatch hub.2 h
    clear hub
    go_wp2_with fail
    go_ret
    exact BoolIs.no (fun h => HNub.out (h.2.2.2.2.1 _ HM.out)) hb6
   have HYub : Hid (BanP y0 y1 y2 y3) := hub.1 rfl
   clear hub
   have HN2 : Hid (∀ x ∈ s.bl.take (j + 1), BanP x.1 x.2.1 x.2.2.1 x.2.2.2) := fun x hx => by
    rw [HTK.out] at hx
    rcases List.mem_append.1 hx with hx | hx
    · exact HN.out x hx
    · rw [List.mem_singleton.1 hx]; exact HYub.out
   go_wp2_with fail
   go_roundw
   case rel => exact ⟨j + 1, by omega, by go_num, ⟨hb6, B1_6.out⟩, HN2⟩
   case measure => simp [intOf]; omega
  have hb5 := HW.out.1
  have B1_5 := hid HW.out.2
  clear HW hb4
  have HAL : Hid (∀ x ∈ s.bl, BanP x.1 x.2.1 x.2.2.1 x.2.2.2) := fun x hx => HN.out x (by rw [List.take_of_length_le (by rw [HLN.out.2.2.2]; omega)]; exact hx)
  clear HN
  have c1_3 := (k6c B1_5).2.2.2.1
  go_wp2_with fail
  clear c1_3
  obtain ⟨wA, hwA⟩ := exq wr
  rw [← hwA] at hb5 B1_5 ⊢
  clear hwA
  go_loopw [4] (fun i wr => ∃ i' : Nat, i' ≤ n3 ∧ i = .int .i64 (i' : Int) ∧ Hid (Below w.heap.size w (wr) ∧ wr.heap[q1]? = some (.cells #[.slice o1 n1 c1, .slice o2 n2 c2, .slice o3 n3 c3, .slice o4 n4 c4, .int .i64 s.nx, .int .i64 s.sq] 38)) ∧ Hid (∀ m, m < i' → KpOk s.ks s.sq m)) (fun i _ => n3 - (intOf i).toNat)
  case atStart => exact ⟨0, Nat.zero_le _, rfl, ⟨hb5, B1_5.out⟩, fun m hm => absurd hm (by omega)⟩
  case round =>
   obtain ⟨i, hi, rfl, HW, HN⟩ := hrel
   by_cases hlt : (i : Int) < (n3 : Int)
   rotate_left
   ·have hb6 := HW.out.1
    have B1_6 := hid HW.out.2
    clear HW hb5
    have HKA : Hid (∀ m, m < s.ks.length → KpOk s.ks s.sq m) := fun m hm => HN.out m (by rw [← HKS.out, List.length_map, HLN.out.2.2.1] at hm; omega)
    clear HN
    have c1_2 := (k6c B1_6).2.2.1
    go_wp2_with fail
    go_ret
    exact BoolIs.yes ⟨HYud.out, by rw [HLN.out.2.2.2]; exact HB5.out, HYunx.out, HYusq.out, HAL.out, HKA.out⟩ hb6
   have hb6 := HW.out.1
   have B1_6 := hid HW.out.2
   clear HW hb5
   obtain ⟨g3, p3, hV, _, _⟩ := (HKP.out _ hb6).look i (by rw [HLK.out]; omega)
   rw [HLK.out] at hV
   injection hV with hV1 hV2 hV3
   subst hV1 hV3
   clear hV2
   obtain ⟨xX, hxX⟩ := exq (kvAt kv i)
   have HMx : Hid (xX ∈ kv) := by show _ ∈ _; rw [hxX]; exact kvAt_mem kv i (by rw [HLK.out]; omega)
   have HEx : Hid (kpAt s.ks i = xX.1) := by show _ = _; rw [hxX, ← HKS.out]; exact (kvAt_fst kv i (by rw [HLK.out]; omega)).symm
   have HTKx : Hid (kv.take (i + 1) = kv.take i ++ [xX]) := by show _ = _; rw [hxX]; exact kvAt_take kv i (by rw [HLK.out]; omega)
   have HKx : Hid (∀ W, Below w.heap.size w W → KpAt W g3 i xX) := fun W hb => by
    obtain ⟨g', p', hV, _, hc⟩ := (HKP.out W hb).look i (by rw [HLK.out]; omega)
    injection hV with hV1 _ _
    cases hV1
    rw [hxX]
    exact hc
   clear hxX
   obtain ⟨x, kuv1, kuv2, kuv3⟩ := xX
   obtain ⟨ku1, kc1, hu⟩ := slice_of_owns ((HKP.out _ hb6).names HMx.out)
   have hu' : kuv1 = .slice ku1 x.xs.length kc1 := hu
   subst hu'
   clear hu
   obtain ⟨ku2, kc2, hu⟩ := slice_of_owns ((HKP.out _ hb6).vals HMx.out)
   have hu' : kuv2 = .slice ku2 x.ys.length kc2 := hu
   subst hu'
   clear hu
   obtain ⟨ku3, kc3, hu⟩ := slice_of_owns ((HKP.out _ hb6).flds HMx.out)
   have hu' : kuv3 = .slice ku3 x.fs.length kc3 := hu
   subst hu'
   clear hu
   have r0x := (HKx.out _ hb6).c0
   have r1x := (HKx.out _ hb6).c1
   have r2x := (HKx.out _ hb6).c2
   have r3x := (HKx.out _ hb6).c3
   have r4x := (HKx.out _ hb6).c4
   have r5x := (HKx.out _ hb6).c5
   have r6x := (HKx.out _ hb6).c6
   have r7x := (HKx.out _ hb6).c7
   have r8x := (HKx.out _ hb6).c8
   dsimp only at r0x r1x r2x r3x r4x r5x r6x r7x r8x
   have c1_2 := (k6c B1_6).2.2.1
   go_upto_region 12 with fail
   obtain ⟨q2, hq2⟩ := exq (wr.heap.size)
   obtain ⟨w7, hW7⟩ := exq (wr.alloc (.cells #[.string x.p, .slice ku1 x.xs.length kc1, .slice ku2 x.ys.length kc2, .int .i64 x.st, .slice ku3 x.fs.length kc3, .string x.b, .int .i64 x.t, .int .i64 x.a, .int .i64 x.q] 63))
   have hz7 := hq2.symm
   rw [← hW7]; try rw [← hq2]
   have hs7 := hsa hW7 hz7
   have bw := bal hW7
   have hb7 := hbt hb6 bw
   have B1_7 := hblk B1_6 bw
   have B2_7 := hnew hW7 hz7
   clear hb6 bw hW7 hz7
   clear hs7 hq2
   clear r0x r1x r2x r3x r4x r5x r6x r7x r8x c1_2
   go_upto_region 12 with fail
   by_cases hi0 : (0 : Int) < (i : Int)
   rotate_left
   ·have hi0z : i = 0 := by omega
    go_upto_region 12 with fail
    refine wp_region_held_drew (S := fun W => W.heap[q2]? = some (.cells #[.string x.p, .slice ku1 x.xs.length kc1, .slice ku2 x.ys.length kc2, .int .i64 x.st, .slice ku3 x.fs.length kc3, .string x.b, .int .i64 x.t, .int .i64 x.a, .int .i64 x.q] 63) ∧ W.heap[q1]? = some (.cells #[.slice o1 n1 c1, .slice o2 n2 c2, .slice (some ⟨g3, 0, none⟩) n3 c3, .slice o4 n4 c4, .int .i64 s.nx, .int .i64 s.sq] 38)) (by kernel_rfl) ⟨B2_7.out, B1_7.out⟩ (fun _ => ?_)
    obtain ⟨w8, hX⟩ := exq w7.drew
    have bw := bdr hX
    rw [← hX]
    have hb8 := hbt hb7 bw
    have HM8 := hsz bw
    have B1_8 := hblk B1_7 bw
    have B2_8 := hblk B2_7 bw
    have hS8 := And.intro B2_8.out B1_8.out
    clear hb7 bw hX
    refine tkP 0 (.pointer (some ⟨q2, 0, none⟩)) 55 rfl rfl hS8 ?_
    go_frame
    refine tkL 1 (.agg #[.string x.p, .slice ku1 x.xs.length kc1, .slice ku2 x.ys.length kc2, .int .i64 x.st, .slice ku3 x.fs.length kc3, .string x.b, .int .i64 x.t]) 56 rfl rfl (Or.inl ⟨by rfl, by intro W hW; obtain ⟨hhv2, hhv1⟩ := hW; have y0 := (cell_of hhv2 0).trans rfl; have y1 := (cell_of hhv2 1).trans rfl; have y2 := (cell_of hhv2 2).trans rfl; have y3 := (cell_of hhv2 3).trans rfl; have y4 := (cell_of hhv2 4).trans rfl; have y5 := (cell_of hhv2 5).trans rfl; have y6 := (cell_of hhv2 6).trans rfl; go_simp⟩) hS8 ?_
    go_frame
    refine rd1 2 rfl (fun K hK => ?_)
    go_simp
    refine (specObjOk_k x _ _ _ _ ((HSH.out _ hb8).kept.read HMx.out) (HZ.out.kv HKS.out HMx.out)).mono ?_
    rintro e w9 ⟨uo, rfl, huo, bw⟩
    have hb9 := hbt hb8 bw
    have HM9 := hsz bw
    have B1_9 := hblk B1_8 bw
    have B2_9 := hblk B2_8 bw
    clear hb8 bw
    have hS9 := And.intro B2_9.out B1_9.out
    refine hK.out _ _ hS9 (fun _ => ?_)
    clear hK K hS8
    cases uo
    ·have HNuo : Hid (¬ (ObjK x)) := fun h => nomatch huo.2 h
     clear huo
     refine tkP 3 (.bool true) 58 rfl rfl hS9 (tkP 4 (.bool true) 59 rfl rfl hS9 (tkN 5 60 rfl rfl hS9 ?_))
     go_frame
     refine tkN 6 61 rfl rfl hS9 (tkN 7 62 rfl rfl hS9 (tkN 8 63 rfl rfl hS9 ?_))
     go_frame
     refine tkP 9 (.bool true) 64 rfl rfl hS9 (tkP 10 (.bool true) 65 rfl rfl hS9 (tkN 11 66 rfl rfl hS9 ?_))
     go_frame
     refine tkN 12 67 rfl rfl hS9 (tkN 13 68 rfl rfl hS9 (tkN 14 69 rfl rfl hS9 ?_))
     go_frame
     refine tkN 15 70 rfl rfl hS9 (tkN 16 71 rfl rfl hS9 (tkN 17 72 rfl rfl hS9 ?_))
     go_frame
     refine tkP 18 (.bool true) 73 rfl rfl hS9 (tkP 19 (.bool true) 74 rfl rfl hS9 (tkN 20 75 rfl rfl hS9 ?_))
     go_frame
     refine tkN 21 76 rfl rfl hS9 (tkN 22 77 rfl rfl hS9 (tkN 23 78 rfl rfl hS9 ?_))
     go_frame
     refine tkN 24 79 rfl rfl hS9 (tkN 25 80 rfl rfl hS9 (tkN 26 81 rfl rfl hS9 ?_))
     go_frame
     refine tkN 27 82 rfl rfl hS9 (tkN 28 83 rfl rfl hS9 (tkN 29 84 rfl rfl hS9 ?_))
     go_frame
     refine tkN 30 85 rfl rfl hS9 (tkN 31 86 rfl rfl hS9 (tkN 32 87 rfl rfl hS9 ?_))
     go_frame
     refine tkN 33 88 rfl rfl hS9 (tkP 34 (.bool true) 89 rfl rfl hS9 ?_)
     go_frame
     clear hS9
     refine wdn ?_
     go_wp2_with fail
     go_ret
     exact BoolIs.no (fun h => by have hk := h.2.2.2.2.2 i (by rw [← HKS.out, List.length_map, HLN.out.2.2.1]; omega); unfold KpOk at hk; rw [HEx.out] at hk; exact HNuo.out hk.1) hb9
    have HYuo : Hid (ObjK x) := huo.1 rfl
    clear huo
    refine tkP 3 (.bool false) 58 rfl rfl hS9 (tkP 4 (.bool false) 59 rfl rfl hS9 (tkP 5 (.pointer (some ⟨q2, 7, none⟩)) 60 rfl rfl hS9 ?_))
    go_frame
    refine tkL 6 (.int .i64 x.a) 61 rfl rfl (Or.inl ⟨by rfl, by intro W hW; obtain ⟨hhv2, hhv1⟩ := hW; have y7 := (cell_of hhv2 7).trans rfl; go_simp⟩) hS9 ?_
    go_frame
    refine rd1 7 rfl (fun K hK => ?_)
    go_simp
    refine (l1In_any x.a 5 19 _).mono ?_
    rintro e w10 ⟨rfl, hwe⟩
    have bw : Below w9.heap.size (w9) w10 := by rw [hwe]; exact Below.refl _ _
    clear hwe
    obtain ⟨uka, huka⟩ : ∃ u, u = decide ((5 : Int) ≤ x.a ∧ x.a ≤ 19) := ⟨_, rfl⟩
    rw [← huka]
    have hb10 := hbt hb9 bw
    have HM10 := hsz bw
    have B1_10 := hblk B1_9 bw
    have B2_10 := hblk B2_9 bw
    clear hb9 bw
    have hS10 := And.intro B2_10.out B1_10.out
    refine hK.out _ _ hS10 (fun _ => ?_)
    clear hK K hS9
    cases uka
    ·have HNuka : Hid (¬ (5 ≤ x.a ∧ x.a ≤ 19)) := (show ¬ (5 ≤ x.a ∧ x.a ≤ 19) from of_decide_eq_false huka.symm)
     clear huka
     refine tkP 8 (.bool true) 63 rfl rfl hS10 (tkP 9 (.bool true) 64 rfl rfl hS10 (tkP 10 (.bool true) 65 rfl rfl hS10 ?_))
     go_frame
     refine tkN 11 66 rfl rfl hS10 (tkN 12 67 rfl rfl hS10 (tkN 13 68 rfl rfl hS10 ?_))
     go_frame
     refine tkN 14 69 rfl rfl hS10 (tkN 15 70 rfl rfl hS10 (tkN 16 71 rfl rfl hS10 ?_))
     go_frame
     refine tkN 17 72 rfl rfl hS10 (tkP 18 (.bool true) 73 rfl rfl hS10 (tkP 19 (.bool true) 74 rfl rfl hS10 ?_))
     go_frame
     refine tkN 20 75 rfl rfl hS10 (tkN 21 76 rfl rfl hS10 (tkN 22 77 rfl rfl hS10 ?_))
     go_frame
     refine tkN 23 78 rfl rfl hS10 (tkN 24 79 rfl rfl hS10 (tkN 25 80 rfl rfl hS10 ?_))
     go_frame
     refine tkN 26 81 rfl rfl hS10 (tkN 27 82 rfl rfl hS10 (tkN 28 83 rfl rfl hS10 ?_))
     go_frame
     refine tkN 29 84 rfl rfl hS10 (tkN 30 85 rfl rfl hS10 (tkN 31 86 rfl rfl hS10 ?_))
     go_frame
     refine tkN 32 87 rfl rfl hS10 (tkN 33 88 rfl rfl hS10 (tkP 34 (.bool true) 89 rfl rfl hS10 ?_))
     go_frame
     clear hS10
     refine wdn ?_
     go_wp2_with fail
     go_ret
     exact BoolIs.no (fun h => by have hk := h.2.2.2.2.2 i (by rw [← HKS.out, List.length_map, HLN.out.2.2.1]; omega); unfold KpOk at hk; rw [HEx.out] at hk; exact HNuka.out hk.2.1) hb10
    have HYuka : Hid (5 ≤ x.a ∧ x.a ≤ 19) := (show (5 ≤ x.a ∧ x.a ≤ 19) from of_decide_eq_true huka.symm)
    clear huka
    refine tkP 8 (.bool false) 63 rfl rfl hS10 (tkP 9 (.bool false) 64 rfl rfl hS10 (tkP 10 (.bool false) 65 rfl rfl hS10 ?_))
    go_frame
    refine tkP 11 (.pointer (some ⟨q2, 8, none⟩)) 66 rfl rfl hS10 ?_
    go_frame
    refine tkL 12 (.int .i64 x.q) 67 rfl rfl (Or.inl ⟨by rfl, by intro W hW; obtain ⟨hhv2, hhv1⟩ := hW; have y8 := (cell_of hhv2 8).trans rfl; go_simp⟩) hS10 ?_
    go_frame
    refine tkP 13 (.pointer (some ⟨q1, 5, none⟩)) 68 rfl rfl hS10 ?_
    go_frame
    refine tkL 14 (.int .i64 s.sq) 69 rfl rfl (Or.inl ⟨by rfl, by intro W hW; obtain ⟨hhv2, hhv1⟩ := hW; have y5 := (cell_of hhv1 5).trans rfl; go_simp⟩) hS10 ?_
    go_frame
    refine tkP 15 (.int .i64 (s.sq - 1)) 70 rfl rfl hS10 ?_
    go_frame
    refine rd1 16 rfl (fun K hK => ?_)
    go_simp
    refine (l1In_any x.q 1 (s.sq - 1) _).mono ?_
    rintro e w11 ⟨rfl, hwe⟩
    have bw : Below w10.heap.size (w10) w11 := by rw [hwe]; exact Below.refl _ _
    clear hwe
    obtain ⟨ukq, hukq⟩ : ∃ u, u = decide ((1 : Int) ≤ x.q ∧ x.q ≤ (s.sq - 1)) := ⟨_, rfl⟩
    rw [← hukq]
    have hb11 := hbt hb10 bw
    have HM11 := hsz bw
    have B1_11 := hblk B1_10 bw
    have B2_11 := hblk B2_10 bw
    clear hb10 bw
    have hS11 := And.intro B2_11.out B1_11.out
    refine hK.out _ _ hS11 (fun _ => ?_)
    clear hK K hS10
    cases ukq
    ·have HNukq : Hid (¬ (1 ≤ x.q ∧ x.q ≤ (s.sq - 1))) := (show ¬ (1 ≤ x.q ∧ x.q ≤ (s.sq - 1)) from of_decide_eq_false hukq.symm)
     clear hukq
     refine tkP 17 (.bool true) 72 rfl rfl hS11 (tkP 18 (.bool true) 73 rfl rfl hS11 (tkP 19 (.bool true) 74 rfl rfl hS11 ?_))
     go_frame
     refine tkN 20 75 rfl rfl hS11 (tkN 21 76 rfl rfl hS11 (tkN 22 77 rfl rfl hS11 ?_))
     go_frame
     refine tkN 23 78 rfl rfl hS11 (tkN 24 79 rfl rfl hS11 (tkN 25 80 rfl rfl hS11 ?_))
     go_frame
     refine tkN 26 81 rfl rfl hS11 (tkN 27 82 rfl rfl hS11 (tkN 28 83 rfl rfl hS11 ?_))
     go_frame
     refine tkN 29 84 rfl rfl hS11 (tkN 30 85 rfl rfl hS11 (tkN 31 86 rfl rfl hS11 ?_))
     go_frame
     refine tkN 32 87 rfl rfl hS11 (tkN 33 88 rfl rfl hS11 (tkP 34 (.bool true) 89 rfl rfl hS11 ?_))
     go_frame
     clear hS11
     refine wdn ?_
     go_wp2_with fail
     go_ret
     exact BoolIs.no (fun h => by have hk := h.2.2.2.2.2 i (by rw [← HKS.out, List.length_map, HLN.out.2.2.1]; omega); unfold KpOk at hk; rw [HEx.out] at hk; exact HNukq.out hk.2.2.1) hb11
    have HYukq : Hid (1 ≤ x.q ∧ x.q ≤ (s.sq - 1)) := (show (1 ≤ x.q ∧ x.q ≤ (s.sq - 1)) from of_decide_eq_true hukq.symm)
    clear hukq
    refine tkP 17 (.bool false) 72 rfl rfl hS11 (tkP 18 (.bool false) 73 rfl rfl hS11 (tkP 19 (.bool false) 74 rfl rfl hS11 ?_))
    go_frame
    refine tkP 20 (.int .i64 (i : Int)) 75 rfl rfl hS11 (tkP 21 (.bool false) 76 rfl rfl hS11 (tkP 22 (.bool false) 77 rfl rfl hS11 ?_))
    go_frame
    refine tkN 23 78 rfl rfl hS11 (tkN 24 79 rfl rfl hS11 (tkN 25 80 rfl rfl hS11 ?_))
    go_frame
    refine tkN 26 81 rfl rfl hS11 (tkN 27 82 rfl rfl hS11 (tkN 28 83 rfl rfl hS11 ?_))
    go_frame
    refine tkN 29 84 rfl rfl hS11 (tkN 30 85 rfl rfl hS11 (tkN 31 86 rfl rfl hS11 ?_))
    go_frame
    refine tkN 32 87 rfl rfl hS11 (tkP 33 (.bool false) 88 rfl rfl hS11 (tkP 34 (.bool false) 89 rfl rfl hS11 ?_))
    go_frame
    clear hS11
    refine wdn ?_
    go_wp2_with fail
    have HASC : Hid (0 < i → (kpAt s.ks (i - 1)).q < x.q) := fun h => absurd h (by omega)
    obtain ⟨wB, hwB⟩ := exq w11
    rw [← hwB] at hb11 B1_11 B2_11 ⊢
    clear hwB
    go_loopw [6] (fun i0 wr => ∃ j : Nat, j ≤ i ∧ i0 = .int .i64 (j : Int) ∧ Hid (Below w.heap.size w (wr) ∧ wr.heap[q1]? = some (.cells #[.slice o1 n1 c1, .slice o2 n2 c2, .slice (some ⟨g3, 0, none⟩) n3 c3, .slice o4 n4 c4, .int .i64 s.nx, .int .i64 s.sq] 38) ∧ wr.heap[q2]? = some (.cells #[.string x.p, .slice ku1 x.xs.length kc1, .slice ku2 x.ys.length kc2, .int .i64 x.st, .slice ku3 x.fs.length kc3, .string x.b, .int .i64 x.t, .int .i64 x.a, .int .i64 x.q] 63)) ∧ Hid (∀ m, m < j → (kpAt s.ks m).a ≠ x.a)) (fun i0 _ => i - (intOf i0).toNat)
    case atStart => exact ⟨0, Nat.zero_le _, rfl, ⟨hb11, B1_11.out, B2_11.out⟩, fun m hm => absurd hm (by omega)⟩
    case round =>
     obtain ⟨j, hj, rfl, HW, HJ⟩ := hrel
     by_cases hlj : (j : Int) < (i : Int)
     ·have hb12 := HW.out.1
      have B1_12 := hid HW.out.2.1
      have B2_12 := hid HW.out.2.2
      clear HW hb11
      exact absurd hlj (by omega)
     have hb12 := HW.out.1
     have B1_12 := hid HW.out.2.1
     have B2_12 := hid HW.out.2.2
     clear HW hb11
     have HTWS : Hid (∀ m, m < i → (kpAt s.ks m).a ≠ x.a) := fun m hm => HJ.out m (by omega)
     clear HJ
     have HN2 : Hid (∀ m, m < i + 1 → KpOk s.ks s.sq m) := fun m hm => by
      by_cases e : m = i
      ·subst e
       unfold KpOk
       rw [HEx.out]
       exact ⟨HYuo.out, HYuka.out, HYukq.out, HASC.out, HTWS.out⟩
      · exact HN.out m (by omega)
     go_wp2_with fail
     go_roundw
     case rel => exact ⟨i + 1, by omega, by go_num, ⟨hb12, B1_12.out⟩, HN2⟩
     case measure => simp [intOf]; omega
   obtain ⟨m, hm⟩ : ∃ m : Nat, (i : Int) - 1 = (m : Int) := ⟨i - 1, by omega⟩
   have hi0n : 0 < i := by omega
   have hmn : ¬ n3 ≤ m := by omega
   have hwm : IntKind.i64.wrap (m : Int) = (m : Int) := by rw [IntKind.wrap_i64]; omega
   obtain ⟨zX, hzX⟩ := exq (kvAt kv m)
   have HMz : Hid (zX ∈ kv) := by show _ ∈ _; rw [hzX]; exact kvAt_mem kv m (by rw [HLK.out]; omega)
   have HEz : Hid (kpAt s.ks m = zX.1) := by show _ = _; rw [hzX, ← HKS.out]; exact (kvAt_fst kv m (by rw [HLK.out]; omega)).symm
   have HTKz : Hid (kv.take (m + 1) = kv.take m ++ [zX]) := by show _ = _; rw [hzX]; exact kvAt_take kv m (by rw [HLK.out]; omega)
   have HKz : Hid (∀ W, Below w.heap.size w W → KpAt W g3 m zX) := fun W hb => by
    obtain ⟨g', p', hV, _, hc⟩ := (HKP.out W hb).look m (by rw [HLK.out]; omega)
    injection hV with hV1 _ _
    cases hV1
    rw [hzX]
    exact hc
   clear hzX
   obtain ⟨z, ktv1, ktv2, ktv3⟩ := zX
   obtain ⟨kt1, ktc1, hu⟩ := slice_of_owns ((HKP.out _ hb7).names HMz.out)
   have hu' : ktv1 = .slice kt1 z.xs.length ktc1 := hu
   subst hu'
   clear hu
   obtain ⟨kt2, ktc2, hu⟩ := slice_of_owns ((HKP.out _ hb7).vals HMz.out)
   have hu' : ktv2 = .slice kt2 z.ys.length ktc2 := hu
   subst hu'
   clear hu
   obtain ⟨kt3, ktc3, hu⟩ := slice_of_owns ((HKP.out _ hb7).flds HMz.out)
   have hu' : ktv3 = .slice kt3 z.fs.length ktc3 := hu
   subst hu'
   clear hu
   have HEL3 : Hid (∀ W, Below w.heap.size w W → (W.cell? ⟨g3, m * 9, none⟩ = some (.string z.p) ∧ W.cell? ⟨g3, m * 9 + 1, none⟩ = some (.slice kt1 z.xs.length ktc1) ∧ W.cell? ⟨g3, m * 9 + 2, none⟩ = some (.slice kt2 z.ys.length ktc2) ∧ W.cell? ⟨g3, m * 9 + 3, none⟩ = some (.int .i64 z.st) ∧ W.cell? ⟨g3, m * 9 + 4, none⟩ = some (.slice kt3 z.fs.length ktc3) ∧ W.cell? ⟨g3, m * 9 + 5, none⟩ = some (.string z.b) ∧ W.cell? ⟨g3, m * 9 + 6, none⟩ = some (.int .i64 z.t) ∧ W.cell? ⟨g3, m * 9 + 7, none⟩ = some (.int .i64 z.a) ∧ W.cell? ⟨g3, m * 9 + 8, none⟩ = some (.int .i64 z.q))) := fun W hb => by
    have c := HKz.out W hb
    exact ⟨c.c0, c.c1, c.c2, c.c3, c.c4, c.c5, c.c6, c.c7, c.c8⟩
   have HIM : Hid (i = m + 1) := (by show _ = _; omega)
   go_upto_region 12 with fail
   refine wp_region_held_drew (S := fun W => W.heap[q2]? = some (.cells #[.string x.p, .slice ku1 x.xs.length kc1, .slice ku2 x.ys.length kc2, .int .i64 x.st, .slice ku3 x.fs.length kc3, .string x.b, .int .i64 x.t, .int .i64 x.a, .int .i64 x.q] 63) ∧ W.heap[q1]? = some (.cells #[.slice o1 n1 c1, .slice o2 n2 c2, .slice (some ⟨g3, 0, none⟩) n3 c3, .slice o4 n4 c4, .int .i64 s.nx, .int .i64 s.sq] 38) ∧ (W.cell? ⟨g3, m * 9, none⟩ = some (.string z.p) ∧ W.cell? ⟨g3, m * 9 + 1, none⟩ = some (.slice kt1 z.xs.length ktc1) ∧ W.cell? ⟨g3, m * 9 + 2, none⟩ = some (.slice kt2 z.ys.length ktc2) ∧ W.cell? ⟨g3, m * 9 + 3, none⟩ = some (.int .i64 z.st) ∧ W.cell? ⟨g3, m * 9 + 4, none⟩ = some (.slice kt3 z.fs.length ktc3) ∧ W.cell? ⟨g3, m * 9 + 5, none⟩ = some (.string z.b) ∧ W.cell? ⟨g3, m * 9 + 6, none⟩ = some (.int .i64 z.t) ∧ W.cell? ⟨g3, m * 9 + 7, none⟩ = some (.int .i64 z.a) ∧ W.cell? ⟨g3, m * 9 + 8, none⟩ = some (.int .i64 z.q))) (by kernel_rfl) ⟨B2_7.out, B1_7.out, (by first | exact HEL3.out _ hb7 | exact HEL3.out _ hb7.drew)⟩ (fun _ => ?_)
   obtain ⟨w8, hX⟩ := exq w7.drew
   have bw := bdr hX
   rw [← hX]
   have hb8 := hbt hb7 bw
   have HM8 := hsz bw
   have B1_8 := hblk B1_7 bw
   have B2_8 := hblk B2_7 bw
   have hS8 := And.intro B2_8.out (And.intro B1_8.out (HEL3.out _ hb8))
   clear hb7 bw hX
   refine tkP 0 (.pointer (some ⟨q2, 0, none⟩)) 55 rfl rfl hS8 ?_
   go_frame
   refine tkL 1 (.agg #[.string x.p, .slice ku1 x.xs.length kc1, .slice ku2 x.ys.length kc2, .int .i64 x.st, .slice ku3 x.fs.length kc3, .string x.b, .int .i64 x.t]) 56 rfl rfl (Or.inl ⟨by rfl, by intro W hW; obtain ⟨hhv2, hhv1, hhE_3⟩ := hW; have y0 := (cell_of hhv2 0).trans rfl; have y1 := (cell_of hhv2 1).trans rfl; have y2 := (cell_of hhv2 2).trans rfl; have y3 := (cell_of hhv2 3).trans rfl; have y4 := (cell_of hhv2 4).trans rfl; have y5 := (cell_of hhv2 5).trans rfl; have y6 := (cell_of hhv2 6).trans rfl; go_simp⟩) hS8 ?_
   go_frame
   refine rd1 2 rfl (fun K hK => ?_)
   go_simp
   refine (specObjOk_k x _ _ _ _ ((HSH.out _ hb8).kept.read HMx.out) (HZ.out.kv HKS.out HMx.out)).mono ?_
   rintro e w9 ⟨uo, rfl, huo, bw⟩
   have hb9 := hbt hb8 bw
   have HM9 := hsz bw
   have B1_9 := hblk B1_8 bw
   have B2_9 := hblk B2_8 bw
   clear hb8 bw
   have hS9 := And.intro B2_9.out (And.intro B1_9.out (HEL3.out _ hb9))
   refine hK.out _ _ hS9 (fun _ => ?_)
   clear hK K hS8
   cases uo
   ·have HNuo : Hid (¬ (ObjK x)) := fun h => nomatch huo.2 h
    clear huo
    refine tkP 3 (.bool true) 58 rfl rfl hS9 (tkP 4 (.bool true) 59 rfl rfl hS9 (tkN 5 60 rfl rfl hS9 ?_))
    go_frame
    refine tkN 6 61 rfl rfl hS9 (tkN 7 62 rfl rfl hS9 (tkN 8 63 rfl rfl hS9 ?_))
    go_frame
    refine tkP 9 (.bool true) 64 rfl rfl hS9 (tkP 10 (.bool true) 65 rfl rfl hS9 (tkN 11 66 rfl rfl hS9 ?_))
    go_frame
    refine tkN 12 67 rfl rfl hS9 (tkN 13 68 rfl rfl hS9 (tkN 14 69 rfl rfl hS9 ?_))
    go_frame
    refine tkN 15 70 rfl rfl hS9 (tkN 16 71 rfl rfl hS9 (tkN 17 72 rfl rfl hS9 ?_))
    go_frame
    refine tkP 18 (.bool true) 73 rfl rfl hS9 (tkP 19 (.bool true) 74 rfl rfl hS9 (tkN 20 75 rfl rfl hS9 ?_))
    go_frame
    refine tkN 21 76 rfl rfl hS9 (tkN 22 77 rfl rfl hS9 (tkN 23 78 rfl rfl hS9 ?_))
    go_frame
    refine tkN 24 79 rfl rfl hS9 (tkN 25 80 rfl rfl hS9 (tkN 26 81 rfl rfl hS9 ?_))
    go_frame
    refine tkN 27 82 rfl rfl hS9 (tkN 28 83 rfl rfl hS9 (tkN 29 84 rfl rfl hS9 ?_))
    go_frame
    refine tkN 30 85 rfl rfl hS9 (tkN 31 86 rfl rfl hS9 (tkN 32 87 rfl rfl hS9 ?_))
    go_frame
    refine tkN 33 88 rfl rfl hS9 (tkP 34 (.bool true) 89 rfl rfl hS9 ?_)
    go_frame
    clear hS9
    refine wdn ?_
    go_wp2_with fail
    go_ret
    exact BoolIs.no (fun h => by have hk := h.2.2.2.2.2 i (by rw [← HKS.out, List.length_map, HLN.out.2.2.1]; omega); unfold KpOk at hk; rw [HEx.out] at hk; exact HNuo.out hk.1) hb9
   have HYuo : Hid (ObjK x) := huo.1 rfl
   clear huo
   refine tkP 3 (.bool false) 58 rfl rfl hS9 (tkP 4 (.bool false) 59 rfl rfl hS9 (tkP 5 (.pointer (some ⟨q2, 7, none⟩)) 60 rfl rfl hS9 ?_))
   go_frame
   refine tkL 6 (.int .i64 x.a) 61 rfl rfl (Or.inl ⟨by rfl, by intro W hW; obtain ⟨hhv2, hhv1, hhE_3⟩ := hW; have y7 := (cell_of hhv2 7).trans rfl; go_simp⟩) hS9 ?_
   go_frame
   refine rd1 7 rfl (fun K hK => ?_)
   go_simp
   refine (l1In_any x.a 5 19 _).mono ?_
   rintro e w10 ⟨rfl, hwe⟩
   have bw : Below w9.heap.size (w9) w10 := by rw [hwe]; exact Below.refl _ _
   clear hwe
   obtain ⟨uka, huka⟩ : ∃ u, u = decide ((5 : Int) ≤ x.a ∧ x.a ≤ 19) := ⟨_, rfl⟩
   rw [← huka]
   have hb10 := hbt hb9 bw
   have HM10 := hsz bw
   have B1_10 := hblk B1_9 bw
   have B2_10 := hblk B2_9 bw
   clear hb9 bw
   have hS10 := And.intro B2_10.out (And.intro B1_10.out (HEL3.out _ hb10))
   refine hK.out _ _ hS10 (fun _ => ?_)
   clear hK K hS9
   cases uka
   ·have HNuka : Hid (¬ (5 ≤ x.a ∧ x.a ≤ 19)) := (show ¬ (5 ≤ x.a ∧ x.a ≤ 19) from of_decide_eq_false huka.symm)
    clear huka
    refine tkP 8 (.bool true) 63 rfl rfl hS10 (tkP 9 (.bool true) 64 rfl rfl hS10 (tkP 10 (.bool true) 65 rfl rfl hS10 ?_))
    go_frame
    refine tkN 11 66 rfl rfl hS10 (tkN 12 67 rfl rfl hS10 (tkN 13 68 rfl rfl hS10 ?_))
    go_frame
    refine tkN 14 69 rfl rfl hS10 (tkN 15 70 rfl rfl hS10 (tkN 16 71 rfl rfl hS10 ?_))
    go_frame
    refine tkN 17 72 rfl rfl hS10 (tkP 18 (.bool true) 73 rfl rfl hS10 (tkP 19 (.bool true) 74 rfl rfl hS10 ?_))
    go_frame
    refine tkN 20 75 rfl rfl hS10 (tkN 21 76 rfl rfl hS10 (tkN 22 77 rfl rfl hS10 ?_))
    go_frame
    refine tkN 23 78 rfl rfl hS10 (tkN 24 79 rfl rfl hS10 (tkN 25 80 rfl rfl hS10 ?_))
    go_frame
    refine tkN 26 81 rfl rfl hS10 (tkN 27 82 rfl rfl hS10 (tkN 28 83 rfl rfl hS10 ?_))
    go_frame
    refine tkN 29 84 rfl rfl hS10 (tkN 30 85 rfl rfl hS10 (tkN 31 86 rfl rfl hS10 ?_))
    go_frame
    refine tkN 32 87 rfl rfl hS10 (tkN 33 88 rfl rfl hS10 (tkP 34 (.bool true) 89 rfl rfl hS10 ?_))
    go_frame
    clear hS10
    refine wdn ?_
    go_wp2_with fail
    go_ret
    exact BoolIs.no (fun h => by have hk := h.2.2.2.2.2 i (by rw [← HKS.out, List.length_map, HLN.out.2.2.1]; omega); unfold KpOk at hk; rw [HEx.out] at hk; exact HNuka.out hk.2.1) hb10
   have HYuka : Hid (5 ≤ x.a ∧ x.a ≤ 19) := (show (5 ≤ x.a ∧ x.a ≤ 19) from of_decide_eq_true huka.symm)
   clear huka
   refine tkP 8 (.bool false) 63 rfl rfl hS10 (tkP 9 (.bool false) 64 rfl rfl hS10 (tkP 10 (.bool false) 65 rfl rfl hS10 ?_))
   go_frame
   refine tkP 11 (.pointer (some ⟨q2, 8, none⟩)) 66 rfl rfl hS10 ?_
   go_frame
   refine tkL 12 (.int .i64 x.q) 67 rfl rfl (Or.inl ⟨by rfl, by intro W hW; obtain ⟨hhv2, hhv1, hhE_3⟩ := hW; have y8 := (cell_of hhv2 8).trans rfl; go_simp⟩) hS10 ?_
   go_frame
   refine tkP 13 (.pointer (some ⟨q1, 5, none⟩)) 68 rfl rfl hS10 ?_
   go_frame
   refine tkL 14 (.int .i64 s.sq) 69 rfl rfl (Or.inl ⟨by rfl, by intro W hW; obtain ⟨hhv2, hhv1, hhE_3⟩ := hW; have y5 := (cell_of hhv1 5).trans rfl; go_simp⟩) hS10 ?_
   go_frame
   refine tkP 15 (.int .i64 (s.sq - 1)) 70 rfl rfl hS10 ?_
   go_frame
   refine rd1 16 rfl (fun K hK => ?_)
   go_simp
   refine (l1In_any x.q 1 (s.sq - 1) _).mono ?_
   rintro e w11 ⟨rfl, hwe⟩
   have bw : Below w10.heap.size (w10) w11 := by rw [hwe]; exact Below.refl _ _
   clear hwe
   obtain ⟨ukq, hukq⟩ : ∃ u, u = decide ((1 : Int) ≤ x.q ∧ x.q ≤ (s.sq - 1)) := ⟨_, rfl⟩
   rw [← hukq]
   have hb11 := hbt hb10 bw
   have HM11 := hsz bw
   have B1_11 := hblk B1_10 bw
   have B2_11 := hblk B2_10 bw
   clear hb10 bw
   have hS11 := And.intro B2_11.out (And.intro B1_11.out (HEL3.out _ hb11))
   refine hK.out _ _ hS11 (fun _ => ?_)
   clear hK K hS10
   cases ukq
   ·have HNukq : Hid (¬ (1 ≤ x.q ∧ x.q ≤ (s.sq - 1))) := (show ¬ (1 ≤ x.q ∧ x.q ≤ (s.sq - 1)) from of_decide_eq_false hukq.symm)
    clear hukq
    refine tkP 17 (.bool true) 72 rfl rfl hS11 (tkP 18 (.bool true) 73 rfl rfl hS11 (tkP 19 (.bool true) 74 rfl rfl hS11 ?_))
    go_frame
    refine tkN 20 75 rfl rfl hS11 (tkN 21 76 rfl rfl hS11 (tkN 22 77 rfl rfl hS11 ?_))
    go_frame
    refine tkN 23 78 rfl rfl hS11 (tkN 24 79 rfl rfl hS11 (tkN 25 80 rfl rfl hS11 ?_))
    go_frame
    refine tkN 26 81 rfl rfl hS11 (tkN 27 82 rfl rfl hS11 (tkN 28 83 rfl rfl hS11 ?_))
    go_frame
    refine tkN 29 84 rfl rfl hS11 (tkN 30 85 rfl rfl hS11 (tkN 31 86 rfl rfl hS11 ?_))
    go_frame
    refine tkN 32 87 rfl rfl hS11 (tkN 33 88 rfl rfl hS11 (tkP 34 (.bool true) 89 rfl rfl hS11 ?_))
    go_frame
    clear hS11
    refine wdn ?_
    go_wp2_with fail
    go_ret
    exact BoolIs.no (fun h => by have hk := h.2.2.2.2.2 i (by rw [← HKS.out, List.length_map, HLN.out.2.2.1]; omega); unfold KpOk at hk; rw [HEx.out] at hk; exact HNukq.out hk.2.2.1) hb11
   have HYukq : Hid (1 ≤ x.q ∧ x.q ≤ (s.sq - 1)) := (show (1 ≤ x.q ∧ x.q ≤ (s.sq - 1)) from of_decide_eq_true hukq.symm)
   clear hukq
   refine tkP 17 (.bool false) 72 rfl rfl hS11 (tkP 18 (.bool false) 73 rfl rfl hS11 (tkP 19 (.bool false) 74 rfl rfl hS11 ?_))
   go_frame
   refine tkP 20 (.int .i64 (i : Int)) 75 rfl rfl hS11 (tkP 21 (.bool true) 76 rfl rfl hS11 (tkP 22 (.bool true) 77 rfl rfl hS11 ?_))
   go_frame
   refine tkP 23 (.pointer (some ⟨q1, 2, none⟩)) 78 rfl rfl hS11 ?_
   go_frame
   refine tkL 24 (.slice (some ⟨g3, 0, none⟩) n3 c3) 79 rfl rfl (Or.inl ⟨by rfl, by intro W hW; obtain ⟨hhv2, hhv1, hhE_3⟩ := hW; have y2 := (cell_of hhv1 2).trans rfl; go_simp⟩) hS11 ?_
   go_frame
   refine tkP 25 (.int .i64 (i : Int)) 80 rfl rfl hS11 (tkP 26 (.int .i64 (m : Int)) 81 rfl rfl hS11 (tkP 27 (.pointer (some ⟨g3, m * 9, none⟩)) 82 rfl rfl hS11 ?_))
   go_frame
   refine tkP 28 (.pointer (some ⟨g3, m * 9 + 8, none⟩)) 83 rfl rfl hS11 ?_
   go_frame
   refine tkL 29 (.int .i64 z.q) 84 rfl rfl (Or.inl ⟨by rfl, by intro W hW; obtain ⟨hhv2, hhv1, hhE_3⟩ := hW; have y8 := hhE_3.2.2.2.2.2.2.2.2; go_simp⟩) hS11 ?_
   go_frame
   refine tkP 30 (.pointer (some ⟨q2, 8, none⟩)) 85 rfl rfl hS11 ?_
   go_frame
   refine tkL 31 (.int .i64 x.q) 86 rfl rfl (Or.inl ⟨by rfl, by intro W hW; obtain ⟨hhv2, hhv1, hhE_3⟩ := hW; have y8 := (cell_of hhv2 8).trans rfl; go_simp⟩) hS11 ?_
   go_frame
   by_cases hc2 : x.q ≤ z.q
   ·have HAS : Hid (¬ z.q < x.q) := (by have := hc2; show ¬ _; omega)
    refine tkP 32 (.bool true) 87 rfl rfl hS11 (tkP 33 (.bool true) 88 rfl rfl hS11 (tkP 34 (.bool true) 89 rfl rfl hS11 ?_))
    go_frame
    clear hS11
    refine wdn ?_
    go_wp2_with fail
    go_ret
    exact BoolIs.no (fun h => by have hk := h.2.2.2.2.2 i (by rw [← HKS.out, List.length_map, HLN.out.2.2.1]; omega); unfold KpOk at hk; rw [HEx.out] at hk; have h2 := hk.2.2.2.1 (by omega); rw [HIM.out, Nat.add_sub_cancel, HEz.out] at h2; have h3 := HAS.out; omega) hb11
   have HAS : Hid (z.q < x.q) := (by have := hc2; show _ < _; omega)
   refine tkP 32 (.bool false) 87 rfl rfl hS11 (tkP 33 (.bool false) 88 rfl rfl hS11 (tkP 34 (.bool false) 89 rfl rfl hS11 ?_))
   go_frame
   clear hS11
   refine wdn ?_
   go_wp2_with fail
   have HASC : Hid (0 < i → (kpAt s.ks (i - 1)).q < x.q) := fun _ => by rw [HIM.out, Nat.add_sub_cancel, HEz.out]; exact HAS.out
   clear HAS
   obtain ⟨wB, hwB⟩ := exq w11
   rw [← hwB] at hb11 B1_11 B2_11 ⊢
   clear hwB
   go_loopw [6] (fun i0 wr => ∃ j : Nat, j ≤ i ∧ i0 = .int .i64 (j : Int) ∧ Hid (Below w.heap.size w (wr) ∧ wr.heap[q1]? = some (.cells #[.slice o1 n1 c1, .slice o2 n2 c2, .slice (some ⟨g3, 0, none⟩) n3 c3, .slice o4 n4 c4, .int .i64 s.nx, .int .i64 s.sq] 38) ∧ wr.heap[q2]? = some (.cells #[.string x.p, .slice ku1 x.xs.length kc1, .slice ku2 x.ys.length kc2, .int .i64 x.st, .slice ku3 x.fs.length kc3, .string x.b, .int .i64 x.t, .int .i64 x.a, .int .i64 x.q] 63)) ∧ Hid (∀ m, m < j → (kpAt s.ks m).a ≠ x.a)) (fun i0 _ => i - (intOf i0).toNat)
   case atStart => exact ⟨0, Nat.zero_le _, rfl, ⟨hb11, B1_11.out, B2_11.out⟩, fun m hm => absurd hm (by omega)⟩
   case round =>
    obtain ⟨j, hj, rfl, HW, HJ⟩ := hrel
    by_cases hlj : (j : Int) < (i : Int)
    rotate_left
    ·have hb12 := HW.out.1
     have B1_12 := hid HW.out.2.1
     have B2_12 := hid HW.out.2.2
     clear HW hb11
     have HTWS : Hid (∀ m, m < i → (kpAt s.ks m).a ≠ x.a) := fun m hm => HJ.out m (by omega)
     clear HJ
     have HN2 : Hid (∀ m, m < i + 1 → KpOk s.ks s.sq m) := fun m hm => by
      by_cases e : m = i
      ·subst e
       unfold KpOk
       rw [HEx.out]
       exact ⟨HYuo.out, HYuka.out, HYukq.out, HASC.out, HTWS.out⟩
      · exact HN.out m (by omega)
     go_wp2_with fail
     go_roundw
     case rel => exact ⟨i + 1, by omega, by go_num, ⟨hb12, B1_12.out⟩, HN2⟩
     case measure => simp [intOf]; omega
    have hb12 := HW.out.1
    have B1_12 := hid HW.out.2.1
    have B2_12 := hid HW.out.2.2
    clear HW hb11
    obtain ⟨z2X, hz2X⟩ := exq (kvAt kv j)
    have HMz2 : Hid (z2X ∈ kv) := by show _ ∈ _; rw [hz2X]; exact kvAt_mem kv j (by rw [HLK.out]; omega)
    have HEz2 : Hid (kpAt s.ks j = z2X.1) := by show _ = _; rw [hz2X, ← HKS.out]; exact (kvAt_fst kv j (by rw [HLK.out]; omega)).symm
    have HTKz2 : Hid (kv.take (j + 1) = kv.take j ++ [z2X]) := by show _ = _; rw [hz2X]; exact kvAt_take kv j (by rw [HLK.out]; omega)
    have HKz2 : Hid (∀ W, Below w.heap.size w W → KpAt W g3 j z2X) := fun W hb => by
     obtain ⟨g', p', hV, _, hc⟩ := (HKP.out W hb).look j (by rw [HLK.out]; omega)
     injection hV with hV1 _ _
     cases hV1
     rw [hz2X]
     exact hc
    clear hz2X
    obtain ⟨z2, kzv1, kzv2, kzv3⟩ := z2X
    obtain ⟨kz1, kzc1, hu⟩ := slice_of_owns ((HKP.out _ hb12).names HMz2.out)
    have hu' : kzv1 = .slice kz1 z2.xs.length kzc1 := hu
    subst hu'
    clear hu
    obtain ⟨kz2, kzc2, hu⟩ := slice_of_owns ((HKP.out _ hb12).vals HMz2.out)
    have hu' : kzv2 = .slice kz2 z2.ys.length kzc2 := hu
    subst hu'
    clear hu
    obtain ⟨kz3, kzc3, hu⟩ := slice_of_owns ((HKP.out _ hb12).flds HMz2.out)
    have hu' : kzv3 = .slice kz3 z2.fs.length kzc3 := hu
    subst hu'
    clear hu
    have hjn : ¬ n3 ≤ j := by omega
    have HEL3 : Hid (∀ W, Below w.heap.size w W → (W.cell? ⟨g3, j * 9, none⟩ = some (.string z2.p) ∧ W.cell? ⟨g3, j * 9 + 1, none⟩ = some (.slice kz1 z2.xs.length kzc1) ∧ W.cell? ⟨g3, j * 9 + 2, none⟩ = some (.slice kz2 z2.ys.length kzc2) ∧ W.cell? ⟨g3, j * 9 + 3, none⟩ = some (.int .i64 z2.st) ∧ W.cell? ⟨g3, j * 9 + 4, none⟩ = some (.slice kz3 z2.fs.length kzc3) ∧ W.cell? ⟨g3, j * 9 + 5, none⟩ = some (.string z2.b) ∧ W.cell? ⟨g3, j * 9 + 6, none⟩ = some (.int .i64 z2.t) ∧ W.cell? ⟨g3, j * 9 + 7, none⟩ = some (.int .i64 z2.a) ∧ W.cell? ⟨g3, j * 9 + 8, none⟩ = some (.int .i64 z2.q))) := fun W hb => by
     have c := HKz2.out W hb
     exact ⟨c.c0, c.c1, c.c2, c.c3, c.c4, c.c5, c.c6, c.c7, c.c8⟩
    go_upto_region 17 with fail
    refine wp_region_held_drew (S := fun W => W.heap[q1]? = some (.cells #[.slice o1 n1 c1, .slice o2 n2 c2, .slice (some ⟨g3, 0, none⟩) n3 c3, .slice o4 n4 c4, .int .i64 s.nx, .int .i64 s.sq] 38) ∧ (W.cell? ⟨g3, j * 9, none⟩ = some (.string z2.p) ∧ W.cell? ⟨g3, j * 9 + 1, none⟩ = some (.slice kz1 z2.xs.length kzc1) ∧ W.cell? ⟨g3, j * 9 + 2, none⟩ = some (.slice kz2 z2.ys.length kzc2) ∧ W.cell? ⟨g3, j * 9 + 3, none⟩ = some (.int .i64 z2.st) ∧ W.cell? ⟨g3, j * 9 + 4, none⟩ = some (.slice kz3 z2.fs.length kzc3) ∧ W.cell? ⟨g3, j * 9 + 5, none⟩ = some (.string z2.b) ∧ W.cell? ⟨g3, j * 9 + 6, none⟩ = some (.int .i64 z2.t) ∧ W.cell? ⟨g3, j * 9 + 7, none⟩ = some (.int .i64 z2.a) ∧ W.cell? ⟨g3, j * 9 + 8, none⟩ = some (.int .i64 z2.q)) ∧ W.heap[q2]? = some (.cells #[.string x.p, .slice ku1 x.xs.length kc1, .slice ku2 x.ys.length kc2, .int .i64 x.st, .slice ku3 x.fs.length kc3, .string x.b, .int .i64 x.t, .int .i64 x.a, .int .i64 x.q] 63)) (by kernel_rfl) ⟨B1_12.out, (by first | exact HEL3.out _ hb12 | exact HEL3.out _ hb12.drew), B2_12.out⟩ (fun _ => ?_)
    obtain ⟨w13, hX⟩ := exq wr.drew
    have bw := bdr hX
    rw [← hX]
    have hb13 := hbt hb12 bw
    have B1_13 := hblk B1_12 bw
    have B2_13 := hblk B2_12 bw
    have hS13 : w13.heap[q1]? = some (.cells #[.slice o1 n1 c1, .slice o2 n2 c2, .slice (some ⟨g3, 0, none⟩) n3 c3, .slice o4 n4 c4, .int .i64 s.nx, .int .i64 s.sq] 38) ∧ (w13.cell? ⟨g3, j * 9, none⟩ = some (.string z2.p) ∧ w13.cell? ⟨g3, j * 9 + 1, none⟩ = some (.slice kz1 z2.xs.length kzc1) ∧ w13.cell? ⟨g3, j * 9 + 2, none⟩ = some (.slice kz2 z2.ys.length kzc2) ∧ w13.cell? ⟨g3, j * 9 + 3, none⟩ = some (.int .i64 z2.st) ∧ w13.cell? ⟨g3, j * 9 + 4, none⟩ = some (.slice kz3 z2.fs.length kzc3) ∧ w13.cell? ⟨g3, j * 9 + 5, none⟩ = some (.string z2.b) ∧ w13.cell? ⟨g3, j * 9 + 6, none⟩ = some (.int .i64 z2.t) ∧ w13.cell? ⟨g3, j * 9 + 7, none⟩ = some (.int .i64 z2.a) ∧ w13.cell? ⟨g3, j * 9 + 8, none⟩ = some (.int .i64 z2.q)) ∧ w13.heap[q2]? = some (.cells #[.string x.p, .slice ku1 x.xs.length kc1, .slice ku2 x.ys.length kc2, .int .i64 x.st, .slice ku3 x.fs.length kc3, .string x.b, .int .i64 x.t, .int .i64 x.a, .int .i64 x.q] 63) := ⟨B1_13.out, (by first | exact HEL3.out _ hb13 | exact HEL3.out _ hb13.drew), B2_13.out⟩
    clear hb12 bw hX
    refine tkP 0 (.pointer (some ⟨q1, 2, none⟩)) 95 rfl rfl hS13 ?_
    go_frame
    refine tkL 1 (.slice (some ⟨g3, 0, none⟩) n3 c3) 96 rfl rfl (Or.inl ⟨by rfl, by intro W hW; obtain ⟨hhv1, hhE_3, hhv2⟩ := hW; have y2 := (cell_of hhv1 2).trans rfl; go_simp⟩) hS13 ?_
    go_frame
    refine tkP 2 (.int .i64 (j : Int)) 97 rfl rfl hS13 (tkP 3 (.pointer (some ⟨g3, j * 9, none⟩)) 98 rfl rfl hS13 (tkP 4 (.pointer (some ⟨g3, j * 9 + 7, none⟩)) 99 rfl rfl hS13 ?_))
    go_frame
    refine tkL 5 (.int .i64 z2.a) 100 rfl rfl (Or.inl ⟨by rfl, by intro W hW; obtain ⟨hhv1, hhE_3, hhv2⟩ := hW; have y7 := hhE_3.2.2.2.2.2.2.2.1; go_simp⟩) hS13 ?_
    go_frame
    refine tkP 6 (.pointer (some ⟨q2, 7, none⟩)) 101 rfl rfl hS13 ?_
    go_frame
    refine tkL 7 (.int .i64 x.a) 102 rfl rfl (Or.inl ⟨by rfl, by intro W hW; obtain ⟨hhv1, hhE_3, hhv2⟩ := hW; have y7 := (cell_of hhv2 7).trans rfl; go_simp⟩) hS13 ?_
    go_frame
    by_cases hc3 : z2.a = x.a
    ·have hc3b : ((z2.a : Int) == (x.a : Int)) = true := by simpa using hc3
     have hc3n : ((z2.a : Int) != (x.a : Int)) = false := by simpa using hc3
     have HTW := hid hc3
     have hc3H := hid hc3
     clear hc3
     refine tkP 8 (.bool true) 103 rfl rfl hS13 ?_
     go_frame
     clear hS13
     refine wdn ?_
     go_wp2_with fail
     go_ret
     exact BoolIs.no (fun h => by have hk := h.2.2.2.2.2 i (by rw [← HKS.out, List.length_map, HLN.out.2.2.1]; omega); unfold KpOk at hk; rw [HEx.out] at hk; exact hk.2.2.2.2 j (by omega) (by rw [HEz2.out]; exact HTW.out)) hb13
    have hc3b : ((z2.a : Int) == (x.a : Int)) = false := by simpa using hc3
    have hc3n : ((z2.a : Int) != (x.a : Int)) = true := by simpa using hc3
    have HTW := hid hc3
    have hc3H := hid hc3
    clear hc3
    refine tkP 8 (.bool false) 103 rfl rfl hS13 ?_
    go_frame
    clear hS13
    refine wdn ?_
    have HJ2 : Hid (∀ m, m < j + 1 → (kpAt s.ks m).a ≠ x.a) := fun m hm => by
     by_cases e : m = j
     ·subst e
      rw [HEz2.out]
      exact HTW.out
     · exact HJ.out m (by omega)
    go_wp2_with fail
    go_roundw
    case rel => exact ⟨j + 1, by omega, by go_num, ⟨hb13, B1_13.out, B2_13.out⟩, HJ2⟩
    case measure => simp [intOf]; omega
theorem numTextI_20 (n : Int) : (numTextI n).size ≤ 20 := by
 unfold numTextI
 split
 · decide
 · exact Nat.le_trans (numText_size _) (by decide)
theorem bangT_size (n : Nat) : (bangT n).size ≤ 30 := by
 unfold bangT
 rw [ByteArray.size_append]
 have := numTextI_20 (n : Int)
 have e : (⟨#[33]⟩ : Tx).size = 1 := rfl
 omega
theorem showK_size {k : KpD} (h : k.p.size ≤ 60) : (showK k).size ≤ 90 := by
 unfold showK
 rw [ByteArray.size_append, ByteArray.size_append]
 have := numTextI_20 k.t
 have e : (⟨#[64]⟩ : Tx).size = 1 := rfl
 omega
theorem showTo_size {ks : List KpD} (h : ∀ i, i < ks.length → (kpAt ks i).p.size ≤ 60) : ∀ n, n ≤ ks.length → (showTo ks n).size ≤ 100 * n
 | 0, _ => Nat.le_refl _
 | n + 1, hn => by
  rw [showTo]
  by_cases h0 : n = 0
  ·subst h0
   rw [if_pos rfl]
   have := showK_size (h 0 (by omega))
   omega
  ·rw [if_neg h0, ByteArray.size_append, ByteArray.size_append]
   have h1 := showTo_size h n (by omega)
   have h2 := showK_size (h n (by omega))
   have e : blankB.size = 1 := rfl
   omega
theorem showK_ne (k : KpD) : showK k ≠ ⟨#[]⟩ := by
 intro e
 have h := congrArg ByteArray.size e
 unfold showK at h
 rw [ByteArray.size_append, ByteArray.size_append] at h
 have e1 : (⟨#[64]⟩ : Tx).size = 1 := rfl
 have e2 : (⟨#[]⟩ : Tx).size = 0 := rfl
 omega
theorem showTo_ne (ks : List KpD) (n : Nat) : showTo ks (n + 1) ≠ ⟨#[]⟩ := by
 rw [showTo]
 by_cases h0 : n = 0
 · rw [if_pos h0]; exact showK_ne _
 rw [if_neg h0]
 intro e
 have h := congrArg ByteArray.size e
 rw [ByteArray.size_append, ByteArray.size_append] at h
 have e1 : blankB.size = 1 := rfl
 have e2 : (⟨#[]⟩ : Tx).size = 0 := rfl
 omega
theorem showTo_first {ks : List KpD} {k : KpD} {t o : ByteArray} (hk : kpAt ks 0 = k) (ht : numTextI k.t = t) (ho : o = showTo ks 0) : o ++ k.p ++ ⟨#[64]⟩ ++ t = showTo ks 1 := by
 rw [showTo, if_pos rfl, hk, ho, showTo, ← ht]
 unfold showK
 apply ByteArray.ext
 simp
theorem showTo_next {ks : List KpD} {k : KpD} {i : Nat} {t o : ByteArray} (hi : i ≠ 0) (hk : kpAt ks i = k) (ht : numTextI k.t = t) (ho : o = showTo ks i) : o ++ ⟨#[32]⟩ ++ k.p ++ ⟨#[64]⟩ ++ t = showTo ks (i + 1) := by
 rw [showTo, if_neg hi, hk, ho, ← ht]
 unfold showK blankB
 apply ByteArray.ext
 simp
theorem shelfT_no {s : ShD} (h : ¬ ShelfP s) : shelfT s = ⟨#[]⟩ := by unfold shelfT; rw [if_neg h]
theorem shelfT_yes {s : ShD} (h : ShelfP s) {o : ByteArray} (ho : o = if s.ks.length = 0 then (⟨#[45]⟩ : Tx) else showTo s.ks s.ks.length) : shelfT s = if s.bl.length = 0 then o else o ++ blankB ++ bangT s.bl.length := by
 unfold shelfT shelfB
 rw [if_pos h, ho]
theorem bang_join (o : Tx) (n : Nat) {t : ByteArray} (ht : numTextI (n : Int) = t) : o ++ ⟨#[32, 33]⟩ ++ t = o ++ blankB ++ bangT n := by
 unfold bangT blankB
 rw [ht, show (⟨#[32, 33]⟩ : Tx) = ⟨#[32]⟩ ++ ⟨#[33]⟩ from rfl]
 simp only [ByteArray.append_assoc]
def knownPs (ks : List KpD) : List (Option ByteArray) := if ks.length = 0 then [some ⟨#[45]⟩] else ks.map (fun k => some (showK k))
theorem knownPs_len (ks : List KpD) : 0 < (knownPs ks).length ∧ (knownPs ks).length ≤ ks.length + 1 := by
 unfold knownPs
 split
 · rename_i h; rw [List.length_singleton]; omega
 · rw [List.length_map]; omega
theorem knownPs_shown (ks : List KpD) : shownL (knownPs ks) ≠ [] ∧ joinS (shownL (knownPs ks)) = if ks.length = 0 then (⟨#[45]⟩ : Tx) else showTo ks ks.length := by
 unfold knownPs
 by_cases h : ks.length = 0
 ·rw [if_pos h, if_pos h]
  exact ⟨by simp [shownL], joinS_one _⟩
 rw [if_neg h, if_neg h]
 have e : shownL (ks.map (fun k => some (showK k))) = ks.map showK := by
  unfold shownL
  rw [List.filterMap_map]
  induction ks with
  | nil => rfl
  | cons a l ih => simp
 rw [e]
 refine ⟨fun e2 => h (by have := congrArg List.length e2; simpa using this), ?_⟩
 have h2 := joinS_show ks ks.length (by omega) (Nat.le_refl _)
 rw [List.take_length] at h2
 exact h2
theorem shown_snoc_yes (ps : List (Option ByteArray)) (x : Tx) : shownL (ps ++ [some x]) = shownL ps ++ [x] := by simp [shownL]
theorem shown_snoc_no (ps : List (Option ByteArray)) : shownL (ps ++ [none]) = shownL ps := by simp [shownL]
theorem knownPs_sizes {ks : List KpD} (h : ∀ i, i < ks.length → (kpAt ks i).p.size ≤ 60) : ∀ x ∈ shownL (knownPs ks), x.size ≤ 100 := by
 intro x hx
 unfold knownPs at hx
 by_cases h0 : ks.length = 0
 ·rw [if_pos h0] at hx
  simp [shownL] at hx
  subst hx
  decide
 rw [if_neg h0] at hx
 simp [shownL] at hx
 obtain ⟨k, hk, rfl⟩ := hx
 obtain ⟨i, hi, e⟩ := List.getElem_of_mem hk
 rw [kpAt_get] at e
 have := showK_size (k := k) (by rw [← e]; exact h i hi)
 omega
theorem specShelfText_any (v1 v2 V VB : Value) (kv : Ks) (s : ShD) (B : Nat) (w : World) (h : ShelfO w B v1 v2 V VB kv s) (hz : ShSmall s) :
  Calls Tryz.prog 6 #[.agg #[v1, v2, V, VB, .int .i64 s.nx, .int .i64 s.sq]] w fun e w' => TextIs (shelfT s) w e w' := by
 obtain ⟨o1, c1, e1⟩ := slice_of_owns h.disk.cells
 obtain ⟨o2, c2, e2⟩ := slice_of_owns h.disk.pend
 obtain ⟨o3, c3, e3⟩ := slice_of_owns h.kept.row
 obtain ⟨o4, c4, e4⟩ := slice_of_owns h.bans
 subst e1 e2 e3 e4
 obtain ⟨n1, hn1⟩ := exq (s.cs.length)
 obtain ⟨n2, hn2⟩ := exq (s.ws.length)
 obtain ⟨n3, hn3⟩ := exq kv.length
 obtain ⟨n4, hn4⟩ := exq (s.bl.length)
 rw [← hn1, ← hn2, ← hn3, ← hn4] at h ⊢
 have HLN : Hid (s.cs.length = n1 ∧ s.ws.length = n2 ∧ kv.length = n3 ∧ s.bl.length = n4) := ⟨hn1.symm, hn2.symm, hn3.symm, hn4.symm⟩
 have HKS : Hid (kv.map (·.1) = s.ks) := h.2
 have HZ := hid hz
 have bn1 : n1 ≤ 1048576 := by rw [hn1]; exact hz.c
 have bn2 : n2 ≤ 1048576 := by rw [hn2]; exact hz.w
 have bn3 : n3 ≤ 1048576 := by rw [hn3, ← List.length_map (f := (·.1)), h.2]; exact hz.k
 have bn4 : n4 ≤ 1048576 := by rw [hn4]; exact hz.b
 have HSH : Hid (∀ W, Below w.heap.size w W → ShelfO W B (.slice o1 n1 c1) (.slice o2 n2 c2) (.slice o3 n3 c3) (.slice o4 n4 c4) kv s) := fun W hb => h.below hb
 have HKP : Hid (∀ W, Below w.heap.size w W → KeptsO W B (.slice o3 n3 c3) kv) := fun W hb => (h.below hb).kept
 have HLK : Hid (kv.length = n3) := hn3.symm
 clear hn1 hn2 hn3 hn4 h hz
 have hb0 := Below.refl w.heap.size w
 go_enter Tryz.func6, Tryz.ntmps6
 go_upto_region 1 with fail
 obtain ⟨q1, hq1⟩ := exq (w.heap.size)
 obtain ⟨w1, hW1⟩ := exq (w.alloc (.cells #[.slice o1 n1 c1, .slice o2 n2 c2, .slice o3 n3 c3, .slice o4 n4 c4, .int .i64 s.nx, .int .i64 s.sq] 38))
 have hz1 := hq1.symm
 rw [← hW1]; try rw [← hq1]
 have hs1 := hsa hW1 hz1
 have bw := bal hW1
 have hb1 := hbt hb0 bw
 have B1_1 := hnew hW1 hz1
 clear hb0 bw hW1 hz1
 clear hs1 hq1
 have c1_0 := (k6c B1_1).1
 have c1_1 := (k6c B1_1).2.1
 have c1_2 := (k6c B1_1).2.2.1
 have c1_3 := (k6c B1_1).2.2.2.1
 have c1_4 := (k6c B1_1).2.2.2.2.1
 have c1_5 := (k6c B1_1).2.2.2.2.2
 go_wp2_with fail
 refine (specShelfOk_any _ _ _ _ kv s B _ (by have h := (HSH.out _ hb1); exact h) HZ.out).mono ?_
 rintro e w2 ⟨us, rfl, hus, bw⟩
 have hb2 := hbt hb1 bw
 have B1_2 := hblk B1_1 bw
 clear hb1 bw
 clear c1_0 c1_1 c1_2 c1_3 c1_4 c1_5
 cases us
 ·have HNus : Hid (¬ (ShelfP s)) := fun h => nomatch hus.2 h
  clear hus
  go_wp2_with fail
  go_ret
  exact TextIs.of (shelfT_no HNus.out).symm hb2
 have HYus : Hid (ShelfP s) := hus.1 rfl
 clear hus
 have HALL : Hid (∀ i, i < s.ks.length → (kpAt s.ks i).p.size ≤ 60 ∧ 0 ≤ (kpAt s.ks i).t ∧ (kpAt s.ks i).t ≤ 1000000) := fun i hi => by
  have h := (HYus.out.2.2.2.2.2 i hi).1
  exact ⟨h.2.1.2.2.1, h.2.2.1.1, h.2.2.1.2⟩
 have HZT : Hid (∀ j, j ≤ n3 → (showTo s.ks j).size ≤ 100 * j) := fun j hj => showTo_size (fun i hi => (HALL.out i hi).1) j (by rw [← HKS.out, List.length_map, HLK.out]; exact hj)
 go_wp2_with fail
 go_loopw [3, 4] (fun o i wr => ∃ (j : Nat) (ot : Tx), j ≤ n3 ∧ o = .string ot ∧ i = .int .i64 (j : Int) ∧ ot.size ≤ 100 * j ∧ Hid (Below w.heap.size w (wr) ∧ wr.heap[q1]? = some (.cells #[.slice o1 n1 c1, .slice o2 n2 c2, .slice o3 n3 c3, .slice o4 n4 c4, .int .i64 s.nx, .int .i64 s.sq] 38)) ∧ Hid (ot = showTo s.ks j)) (fun _ i _ => n3 - (intOf i).toNat)
 case atStart => exact ⟨0, ⟨#[]⟩, Nat.zero_le _, rfl, rfl, Nat.le_refl _, ⟨hb2, B1_2.out⟩, rfl⟩
 case round =>
  obtain ⟨i, ot, hj, rfl, rfl, zo, HW, HO⟩ := hrel
  by_cases hlt : (i : Int) < (n3 : Int)
  rotate_left
  ·have hb3 := HW.out.1
   have B1_3 := hid HW.out.2
   clear HW hb2
   obtain rfl : n3 = i := by omega
   have c1_2 := (k6c B1_3).2.2.1
   by_cases hc1 : ot = ⟨#[]⟩
   rotate_left
   ·have hc1b : (ot).toList.isEmpty = false := isEmpty_no (Nat.pos_of_ne_zero (fun e => hc1 (empty_text e)))
    have HEM := hid hc1
    have c1_3 := (k6c B1_3).2.2.2.1
    by_cases hc2 : 0 < (n4 : Int)
    rotate_left
    ·have HB4 : Hid (¬ (0 < n4)) := (by have := hc2; show ¬ (0 < n4); omega)
     go_wp2_with fail
     go_ret
     have e3 : s.ks.length = n3 := by rw [← HKS.out, List.length_map, HLK.out]
     have e4 := HLN.out.2.2.2
     have ei : n3 ≠ 0 := by
      intro e
      have h := HO.out
      rw [e] at h
      exact HEM.out h
     have hT := shelfT_yes HYus.out (o := ot) (by rw [e3]; rw [if_neg ei]; exact HO.out)
     rw [if_pos (by rw [e4]; have := HB4.out; omega)] at hT
     exact TextIs.of hT.symm hb3
    have HB4 : Hid ((0 < n4)) := (by have := hc2; show (0 < n4); omega)
    obtain ⟨bn, hbn⟩ : ∃ t, t = numTextI ((n4 : Nat) : Int) := ⟨_, rfl⟩
    have HBN : Hid (numTextI ((n4 : Nat) : Int) = bn) := hbn.symm
    have zbn : bn.size ≤ 20 := by rw [hbn]; exact numTextI_20 _
    clear hbn
    go_wp2_with fail
    refine (specNumText_int ((n4 : Nat) : Int) _ (by omega) (by omega)).mono ?_
    rintro e w4 ⟨rfl, bw⟩
    rw [HBN.out]
    have hb4 := hbt hb3 bw
    have HM4 := hsz bw
    have B1_4 := hblk B1_3 bw
    clear hb3 bw
    clear c1_2 c1_3
    go_wp2_with fail
    go_ret
    have e3 : s.ks.length = n3 := by rw [← HKS.out, List.length_map, HLK.out]
    have e4 := HLN.out.2.2.2
    have ei : n3 ≠ 0 := by
     intro e
     have h := HO.out
     rw [e] at h
     exact HEM.out h
    have hT := shelfT_yes HYus.out (o := ot) (by rw [e3]; rw [if_neg ei]; exact HO.out)
    rw [if_neg (by rw [e4]; have := HB4.out; omega), e4, ← bang_join _ _ HBN.out] at hT
    exact TextIs.of hT.symm hb4
   have hc1b : (ot).toList.isEmpty = true := isEmpty_yes (by rw [hc1]; rfl)
   have HEM := hid hc1
   have c1_3 := (k6c B1_3).2.2.2.1
   by_cases hc2 : 0 < (n4 : Int)
   rotate_left
   ·have HB4 : Hid (¬ (0 < n4)) := (by have := hc2; show ¬ (0 < n4); omega)
    go_wp2_with fail
    go_ret
    have e3 : s.ks.length = n3 := by rw [← HKS.out, List.length_map, HLK.out]
    have e4 := HLN.out.2.2.2
    have ei : n3 = 0 := by
     rcases Nat.eq_zero_or_pos n3 with e | e
     · exact e
     ·have h := HO.out.symm.trans HEM.out
      rw [show n3 = (n3 - 1) + 1 by omega] at h
      exact absurd h (showTo_ne _ _)
    have hT := shelfT_yes HYus.out (o := ⟨#[45]⟩) (by rw [e3]; rw [if_pos ei])
    rw [if_pos (by rw [e4]; have := HB4.out; omega)] at hT
    exact TextIs.of hT.symm hb3
   have HB4 : Hid ((0 < n4)) := (by have := hc2; show (0 < n4); omega)
   obtain ⟨bn, hbn⟩ : ∃ t, t = numTextI ((n4 : Nat) : Int) := ⟨_, rfl⟩
   have HBN : Hid (numTextI ((n4 : Nat) : Int) = bn) := hbn.symm
   have zbn : bn.size ≤ 20 := by rw [hbn]; exact numTextI_20 _
   clear hbn
   go_wp2_with fail
   refine (specNumText_int ((n4 : Nat) : Int) _ (by omega) (by omega)).mono ?_
   rintro e w4 ⟨rfl, bw⟩
   rw [HBN.out]
   have hb4 := hbt hb3 bw
   have HM4 := hsz bw
   have B1_4 := hblk B1_3 bw
   clear hb3 bw
   clear c1_2 c1_3
   go_wp2_with fail
   go_ret
   have e3 : s.ks.length = n3 := by rw [← HKS.out, List.length_map, HLK.out]
   have e4 := HLN.out.2.2.2
   have ei : n3 = 0 := by
    rcases Nat.eq_zero_or_pos n3 with e | e
    · exact e
    ·have h := HO.out.symm.trans HEM.out
     rw [show n3 = (n3 - 1) + 1 by omega] at h
     exact absurd h (showTo_ne _ _)
   have hT := shelfT_yes HYus.out (o := ⟨#[45]⟩) (by rw [e3]; rw [if_pos ei])
   rw [if_neg (by rw [e4]; have := HB4.out; omega), e4, ← bang_join _ _ HBN.out] at hT
   exact TextIs.of hT.symm hb4
  have hb3 := HW.out.1
  have B1_3 := hid HW.out.2
  clear HW hb2
  have hin : ¬ n3 ≤ i := by omega
  by_cases hi0 : (0 : Int) < (i : Int)
  rotate_left
  ·obtain ⟨g3, p3, hV, _, _⟩ := (HKP.out _ hb3).look i (by rw [HLK.out]; omega)
   rw [HLK.out] at hV
   injection hV with hV1 hV2 hV3
   subst hV1 hV3
   clear hV2
   obtain ⟨xX, hxX⟩ := exq (kvAt kv i)
   have HMx : Hid (xX ∈ kv) := by show _ ∈ _; rw [hxX]; exact kvAt_mem kv i (by rw [HLK.out]; omega)
   have HEx : Hid (kpAt s.ks i = xX.1) := by show _ = _; rw [hxX, ← HKS.out]; exact (kvAt_fst kv i (by rw [HLK.out]; omega)).symm
   have HTKx : Hid (kv.take (i + 1) = kv.take i ++ [xX]) := by show _ = _; rw [hxX]; exact kvAt_take kv i (by rw [HLK.out]; omega)
   have HKx : Hid (∀ W, Below w.heap.size w W → KpAt W g3 i xX) := fun W hb => by
    obtain ⟨g', p', hV, _, hc⟩ := (HKP.out W hb).look i (by rw [HLK.out]; omega)
    injection hV with hV1 _ _
    cases hV1
    rw [hxX]
    exact hc
   clear hxX
   obtain ⟨x, kuv1, kuv2, kuv3⟩ := xX
   obtain ⟨ku1, kc1, hu⟩ := slice_of_owns ((HKP.out _ hb3).names HMx.out)
   have hu' : kuv1 = .slice ku1 x.xs.length kc1 := hu
   subst hu'
   clear hu
   obtain ⟨ku2, kc2, hu⟩ := slice_of_owns ((HKP.out _ hb3).vals HMx.out)
   have hu' : kuv2 = .slice ku2 x.ys.length kc2 := hu
   subst hu'
   clear hu
   obtain ⟨ku3, kc3, hu⟩ := slice_of_owns ((HKP.out _ hb3).flds HMx.out)
   have hu' : kuv3 = .slice ku3 x.fs.length kc3 := hu
   subst hu'
   clear hu
   have HEL3 : Hid (∀ W, Below w.heap.size w W → (W.cell? ⟨g3, i * 9, none⟩ = some (.string x.p) ∧ W.cell? ⟨g3, i * 9 + 1, none⟩ = some (.slice ku1 x.xs.length kc1) ∧ W.cell? ⟨g3, i * 9 + 2, none⟩ = some (.slice ku2 x.ys.length kc2) ∧ W.cell? ⟨g3, i * 9 + 3, none⟩ = some (.int .i64 x.st) ∧ W.cell? ⟨g3, i * 9 + 4, none⟩ = some (.slice ku3 x.fs.length kc3) ∧ W.cell? ⟨g3, i * 9 + 5, none⟩ = some (.string x.b) ∧ W.cell? ⟨g3, i * 9 + 6, none⟩ = some (.int .i64 x.t) ∧ W.cell? ⟨g3, i * 9 + 7, none⟩ = some (.int .i64 x.a) ∧ W.cell? ⟨g3, i * 9 + 8, none⟩ = some (.int .i64 x.q))) := fun W hb => by
    have c := HKx.out W hb
    exact ⟨c.c0, c.c1, c.c2, c.c3, c.c4, c.c5, c.c6, c.c7, c.c8⟩
   have zp := (HALL.out i (by rw [← HKS.out, List.length_map, HLK.out]; omega)).1
   rw [HEx.out] at zp
   dsimp only at zp
   have c1_2 := (k6c B1_3).2.2.1
   go_upto_region 9 with fail
   clear c1_2
   refine wp_region_held_drew (S := fun W => W.heap[q1]? = some (.cells #[.slice o1 n1 c1, .slice o2 n2 c2, .slice (some ⟨g3, 0, none⟩) n3 c3, .slice o4 n4 c4, .int .i64 s.nx, .int .i64 s.sq] 38) ∧ (W.cell? ⟨g3, i * 9, none⟩ = some (.string x.p) ∧ W.cell? ⟨g3, i * 9 + 1, none⟩ = some (.slice ku1 x.xs.length kc1) ∧ W.cell? ⟨g3, i * 9 + 2, none⟩ = some (.slice ku2 x.ys.length kc2) ∧ W.cell? ⟨g3, i * 9 + 3, none⟩ = some (.int .i64 x.st) ∧ W.cell? ⟨g3, i * 9 + 4, none⟩ = some (.slice ku3 x.fs.length kc3) ∧ W.cell? ⟨g3, i * 9 + 5, none⟩ = some (.string x.b) ∧ W.cell? ⟨g3, i * 9 + 6, none⟩ = some (.int .i64 x.t) ∧ W.cell? ⟨g3, i * 9 + 7, none⟩ = some (.int .i64 x.a) ∧ W.cell? ⟨g3, i * 9 + 8, none⟩ = some (.int .i64 x.q))) (by kernel_rfl) ⟨B1_3.out, (by first | exact HEL3.out _ hb3 | exact HEL3.out _ hb3.drew)⟩ (fun _ => ?_)
   obtain ⟨w4, hX⟩ := exq wr.drew
   have bw := bdr hX
   rw [← hX]
   have hb4 := hbt hb3 bw
   have HM4 := hsz bw
   have B1_4 := hblk B1_3 bw
   have hS4 := And.intro B1_4.out (HEL3.out _ hb4)
   clear hb3 bw hX
   refine tkP 0 (.string ot) 19 rfl rfl hS4 (tkP 1 (.pointer (some ⟨q1, 2, none⟩)) 20 rfl rfl hS4 ?_)
   go_frame
   refine tkL 2 (.slice (some ⟨g3, 0, none⟩) n3 c3) 21 rfl rfl (Or.inl ⟨by rfl, by intro W hW; obtain ⟨hhv1, hhE_3⟩ := hW; have y2 := (cell_of hhv1 2).trans rfl; go_simp⟩) hS4 ?_
   go_frame
   refine tkP 3 (.int .i64 (i : Int)) 22 rfl rfl hS4 (tkP 4 (.pointer (some ⟨g3, i * 9, none⟩)) 23 rfl rfl hS4 (tkP 5 (.pointer (some ⟨g3, i * 9, none⟩)) 24 rfl rfl hS4 ?_))
   go_frame
   refine tkP 6 (.pointer (some ⟨g3, i * 9, none⟩)) 25 rfl rfl hS4 ?_
   go_frame
   refine tkL 7 (.string x.p) 26 rfl rfl (Or.inl ⟨by rfl, by intro W hW; obtain ⟨hhv1, hhE_3⟩ := hW; have y0 := hhE_3.1; go_simp⟩) hS4 ?_
   go_frame
   refine tkL 8 (.string (ot ++ x.p)) 27 rfl rfl (Or.inl ⟨by rfl, by intro W _; go_simp <;> omega⟩) hS4 ?_
   go_frame
   refine tkL 9 (.string ((ot ++ x.p) ++ ⟨#[64]⟩)) 28 rfl rfl (Or.inl ⟨by rfl, by intro W _; go_simp <;> omega⟩) hS4 ?_
   go_frame
   refine tkP 10 (.pointer (some ⟨q1, 2, none⟩)) 29 rfl rfl hS4 ?_
   go_frame
   refine tkL 11 (.slice (some ⟨g3, 0, none⟩) n3 c3) 30 rfl rfl (Or.inl ⟨by rfl, by intro W hW; obtain ⟨hhv1, hhE_3⟩ := hW; have y2 := (cell_of hhv1 2).trans rfl; go_simp⟩) hS4 ?_
   go_frame
   refine tkP 12 (.int .i64 (i : Int)) 31 rfl rfl hS4 (tkP 13 (.pointer (some ⟨g3, i * 9, none⟩)) 32 rfl rfl hS4 (tkP 14 (.pointer (some ⟨g3, i * 9, none⟩)) 33 rfl rfl hS4 ?_))
   go_frame
   refine tkP 15 (.pointer (some ⟨g3, i * 9 + 6, none⟩)) 34 rfl rfl hS4 ?_
   go_frame
   refine tkL 16 (.int .i64 x.t) 35 rfl rfl (Or.inl ⟨by rfl, by intro W hW; obtain ⟨hhv1, hhE_3⟩ := hW; have y6 := hhE_3.2.2.2.2.2.2.1; go_simp⟩) hS4 ?_
   go_frame
   refine rd1 17 rfl (fun K hK => ?_)
   go_simp
   have zt1 := (HALL.out i (by rw [← HKS.out, List.length_map, HLK.out]; omega)).2
   rw [HEx.out] at zt1
   dsimp only at zt1
   obtain ⟨tn, htn⟩ := exq (numTextI x.t)
   have HTN : Hid (numTextI x.t = tn) := htn.symm
   have ztn : tn.size ≤ 20 := by rw [htn]; exact numTextI_20 _
   clear htn
   refine (specNumText_int x.t _ (by omega) (by omega)).mono ?_
   rintro e w5 ⟨rfl, bw⟩
   rw [HTN.out]
   clear zt1
   have hb5 := hbt hb4 bw
   have HM5 := hsz bw
   have B1_5 := hblk B1_4 bw
   clear hb4 bw
   have hS5 := And.intro B1_5.out (HEL3.out _ hb5)
   refine hK.out _ _ hS5 (fun _ => ?_)
   clear hK K hS4
   refine tkL 18 (.string (((ot ++ x.p) ++ ⟨#[64]⟩) ++ tn)) 37 rfl rfl (Or.inl ⟨by rfl, by intro W _; go_simp <;> omega⟩) hS5 ?_
   go_frame
   refine tkP 19 (.string (((ot ++ x.p) ++ ⟨#[64]⟩) ++ tn)) 3 rfl rfl hS5 ?_
   go_frame
   clear hS5
   refine wdn ?_
   obtain ⟨o2, ho2⟩ := exq ((((ot ++ x.p) ++ ⟨#[64]⟩) ++ tn))
   have HO2 : Hid (o2 = showTo s.ks (i + 1)) := by
    show _ = _
    rw [ho2]
    have e : i = 0 := by omega
    subst e
    exact showTo_first HEx.out HTN.out HO.out
   have zo2 : o2.size ≤ 100 * (i + 1) := by rw [HO2.out]; exact HZT.out (i + 1) (by omega)
   try rw [← ho2]
   clear ho2
   go_wp2_with fail
   go_roundw
   case rel => exact ⟨i + 1, o2, by omega, rfl, by go_num, zo2, ⟨hb5, B1_5.out⟩, HO2⟩
   case measure => simp [intOf]; omega
  obtain ⟨g3, p3, hV, _, _⟩ := (HKP.out _ hb3).look i (by rw [HLK.out]; omega)
  rw [HLK.out] at hV
  injection hV with hV1 hV2 hV3
  subst hV1 hV3
  clear hV2
  obtain ⟨xX, hxX⟩ := exq (kvAt kv i)
  have HMx : Hid (xX ∈ kv) := by show _ ∈ _; rw [hxX]; exact kvAt_mem kv i (by rw [HLK.out]; omega)
  have HEx : Hid (kpAt s.ks i = xX.1) := by show _ = _; rw [hxX, ← HKS.out]; exact (kvAt_fst kv i (by rw [HLK.out]; omega)).symm
  have HTKx : Hid (kv.take (i + 1) = kv.take i ++ [xX]) := by show _ = _; rw [hxX]; exact kvAt_take kv i (by rw [HLK.out]; omega)
  have HKx : Hid (∀ W, Below w.heap.size w W → KpAt W g3 i xX) := fun W hb => by
   obtain ⟨g', p', hV, _, hc⟩ := (HKP.out W hb).look i (by rw [HLK.out]; omega)
   injection hV with hV1 _ _
   cases hV1
   rw [hxX]
   exact hc
  clear hxX
  obtain ⟨x, kuv1, kuv2, kuv3⟩ := xX
  obtain ⟨ku1, kc1, hu⟩ := slice_of_owns ((HKP.out _ hb3).names HMx.out)
  have hu' : kuv1 = .slice ku1 x.xs.length kc1 := hu
  subst hu'
  clear hu
  obtain ⟨ku2, kc2, hu⟩ := slice_of_owns ((HKP.out _ hb3).vals HMx.out)
  have hu' : kuv2 = .slice ku2 x.ys.length kc2 := hu
  subst hu'
  clear hu
  obtain ⟨ku3, kc3, hu⟩ := slice_of_owns ((HKP.out _ hb3).flds HMx.out)
  have hu' : kuv3 = .slice ku3 x.fs.length kc3 := hu
  subst hu'
  clear hu
  have HEL3 : Hid (∀ W, Below w.heap.size w W → (W.cell? ⟨g3, i * 9, none⟩ = some (.string x.p) ∧ W.cell? ⟨g3, i * 9 + 1, none⟩ = some (.slice ku1 x.xs.length kc1) ∧ W.cell? ⟨g3, i * 9 + 2, none⟩ = some (.slice ku2 x.ys.length kc2) ∧ W.cell? ⟨g3, i * 9 + 3, none⟩ = some (.int .i64 x.st) ∧ W.cell? ⟨g3, i * 9 + 4, none⟩ = some (.slice ku3 x.fs.length kc3) ∧ W.cell? ⟨g3, i * 9 + 5, none⟩ = some (.string x.b) ∧ W.cell? ⟨g3, i * 9 + 6, none⟩ = some (.int .i64 x.t) ∧ W.cell? ⟨g3, i * 9 + 7, none⟩ = some (.int .i64 x.a) ∧ W.cell? ⟨g3, i * 9 + 8, none⟩ = some (.int .i64 x.q))) := fun W hb => by
   have c := HKx.out W hb
   exact ⟨c.c0, c.c1, c.c2, c.c3, c.c4, c.c5, c.c6, c.c7, c.c8⟩
  have zp := (HALL.out i (by rw [← HKS.out, List.length_map, HLK.out]; omega)).1
  rw [HEx.out] at zp
  dsimp only at zp
  have c1_2 := (k6c B1_3).2.2.1
  go_upto_region 9 with fail
  clear c1_2
  refine wp_region_held_drew (S := fun W => W.heap[q1]? = some (.cells #[.slice o1 n1 c1, .slice o2 n2 c2, .slice (some ⟨g3, 0, none⟩) n3 c3, .slice o4 n4 c4, .int .i64 s.nx, .int .i64 s.sq] 38) ∧ (W.cell? ⟨g3, i * 9, none⟩ = some (.string x.p) ∧ W.cell? ⟨g3, i * 9 + 1, none⟩ = some (.slice ku1 x.xs.length kc1) ∧ W.cell? ⟨g3, i * 9 + 2, none⟩ = some (.slice ku2 x.ys.length kc2) ∧ W.cell? ⟨g3, i * 9 + 3, none⟩ = some (.int .i64 x.st) ∧ W.cell? ⟨g3, i * 9 + 4, none⟩ = some (.slice ku3 x.fs.length kc3) ∧ W.cell? ⟨g3, i * 9 + 5, none⟩ = some (.string x.b) ∧ W.cell? ⟨g3, i * 9 + 6, none⟩ = some (.int .i64 x.t) ∧ W.cell? ⟨g3, i * 9 + 7, none⟩ = some (.int .i64 x.a) ∧ W.cell? ⟨g3, i * 9 + 8, none⟩ = some (.int .i64 x.q))) (by kernel_rfl) ⟨B1_3.out, (by first | exact HEL3.out _ hb3 | exact HEL3.out _ hb3.drew)⟩ (fun _ => ?_)
  obtain ⟨w4, hX⟩ := exq wr.drew
  have bw := bdr hX
  rw [← hX]
  have hb4 := hbt hb3 bw
  have HM4 := hsz bw
  have B1_4 := hblk B1_3 bw
  have hS4 := And.intro B1_4.out (HEL3.out _ hb4)
  clear hb3 bw hX
  refine tkP 0 (.string (ot ++ ⟨#[32]⟩)) 19 rfl rfl hS4 (tkP 1 (.pointer (some ⟨q1, 2, none⟩)) 20 rfl rfl hS4 ?_)
  go_frame
  refine tkL 2 (.slice (some ⟨g3, 0, none⟩) n3 c3) 21 rfl rfl (Or.inl ⟨by rfl, by intro W hW; obtain ⟨hhv1, hhE_3⟩ := hW; have y2 := (cell_of hhv1 2).trans rfl; go_simp⟩) hS4 ?_
  go_frame
  refine tkP 3 (.int .i64 (i : Int)) 22 rfl rfl hS4 (tkP 4 (.pointer (some ⟨g3, i * 9, none⟩)) 23 rfl rfl hS4 (tkP 5 (.pointer (some ⟨g3, i * 9, none⟩)) 24 rfl rfl hS4 ?_))
  go_frame
  refine tkP 6 (.pointer (some ⟨g3, i * 9, none⟩)) 25 rfl rfl hS4 ?_
  go_frame
  refine tkL 7 (.string x.p) 26 rfl rfl (Or.inl ⟨by rfl, by intro W hW; obtain ⟨hhv1, hhE_3⟩ := hW; have y0 := hhE_3.1; go_simp⟩) hS4 ?_
  go_frame
  refine tkL 8 (.string ((ot ++ ⟨#[32]⟩) ++ x.p)) 27 rfl rfl (Or.inl ⟨by rfl, by intro W _; go_simp <;> omega⟩) hS4 ?_
  go_frame
  refine tkL 9 (.string (((ot ++ ⟨#[32]⟩) ++ x.p) ++ ⟨#[64]⟩)) 28 rfl rfl (Or.inl ⟨by rfl, by intro W _; go_simp <;> omega⟩) hS4 ?_
  go_frame
  refine tkP 10 (.pointer (some ⟨q1, 2, none⟩)) 29 rfl rfl hS4 ?_
  go_frame
  refine tkL 11 (.slice (some ⟨g3, 0, none⟩) n3 c3) 30 rfl rfl (Or.inl ⟨by rfl, by intro W hW; obtain ⟨hhv1, hhE_3⟩ := hW; have y2 := (cell_of hhv1 2).trans rfl; go_simp⟩) hS4 ?_
  go_frame
  refine tkP 12 (.int .i64 (i : Int)) 31 rfl rfl hS4 (tkP 13 (.pointer (some ⟨g3, i * 9, none⟩)) 32 rfl rfl hS4 (tkP 14 (.pointer (some ⟨g3, i * 9, none⟩)) 33 rfl rfl hS4 ?_))
  go_frame
  refine tkP 15 (.pointer (some ⟨g3, i * 9 + 6, none⟩)) 34 rfl rfl hS4 ?_
  go_frame
  refine tkL 16 (.int .i64 x.t) 35 rfl rfl (Or.inl ⟨by rfl, by intro W hW; obtain ⟨hhv1, hhE_3⟩ := hW; have y6 := hhE_3.2.2.2.2.2.2.1; go_simp⟩) hS4 ?_
  go_frame
  refine rd1 17 rfl (fun K hK => ?_)
  go_simp
  have zt1 := (HALL.out i (by rw [← HKS.out, List.length_map, HLK.out]; omega)).2
  rw [HEx.out] at zt1
  dsimp only at zt1
  obtain ⟨tn, htn⟩ := exq (numTextI x.t)
  have HTN : Hid (numTextI x.t = tn) := htn.symm
  have ztn : tn.size ≤ 20 := by rw [htn]; exact numTextI_20 _
  clear htn
  refine (specNumText_int x.t _ (by omega) (by omega)).mono ?_
  rintro e w5 ⟨rfl, bw⟩
  rw [HTN.out]
  clear zt1
  have hb5 := hbt hb4 bw
  have HM5 := hsz bw
  have B1_5 := hblk B1_4 bw
  clear hb4 bw
  have hS5 := And.intro B1_5.out (HEL3.out _ hb5)
  refine hK.out _ _ hS5 (fun _ => ?_)
  clear hK K hS4
  refine tkL 18 (.string ((((ot ++ ⟨#[32]⟩) ++ x.p) ++ ⟨#[64]⟩) ++ tn)) 37 rfl rfl (Or.inl ⟨by rfl, by intro W _; go_simp <;> omega⟩) hS5 ?_
  go_frame
  refine tkP 19 (.string ((((ot ++ ⟨#[32]⟩) ++ x.p) ++ ⟨#[64]⟩) ++ tn)) 3 rfl rfl hS5 ?_
  go_frame
  clear hS5
  refine wdn ?_
  obtain ⟨o2, ho2⟩ := exq (((((ot ++ ⟨#[32]⟩) ++ x.p) ++ ⟨#[64]⟩) ++ tn))
  have HO2 : Hid (o2 = showTo s.ks (i + 1)) := by
   show _ = _
   rw [ho2]
   exact showTo_next (by omega) HEx.out HTN.out HO.out
  have zo2 : o2.size ≤ 100 * (i + 1) := by rw [HO2.out]; exact HZT.out (i + 1) (by omega)
  try rw [← ho2]
  clear ho2
  go_wp2_with fail
  go_roundw
  case rel => exact ⟨i + 1, o2, by omega, rfl, by go_num, zo2, ⟨hb5, B1_5.out⟩, HO2⟩
  case measure => simp [intOf]; omega
def kpX (x : KpD × Value × Value × Value) : Value := .agg #[.string x.1.p, x.2.1, x.2.2.1, .int .i64 x.1.st, x.2.2.2, .string x.1.b, .int .i64 x.1.t, .int .i64 x.1.a, .int .i64 x.1.q]
def mpR (v : Value) : Option (DataW Value × List MemPlace) := some (.held v, [])
def ApartA (kv : Ks) : Prop := kv.Pairwise (fun x y => x.1.a ≠ y.1.a)
def MapIs (D : DataW Value) (kv : Ks) : Prop := (∀ a : Int, Maps.has D (.int .i64 a) = true ↔ ∃ x ∈ kv, x.1.a = a) ∧ ∀ x ∈ kv, ∀ z, D.atKey (.int .i64 x.1.a) z = .held (kpX x)
theorem lit_ne {a b : Int} (h : a ≠ b) : (Lit.int .i64 a) ≠ Lit.int .i64 b := fun e => h (by injection e)
theorem MapIs.nil : MapIs (.map []) [] := ⟨fun a => by simp [Maps.has], fun x hx => by simp at hx⟩
theorem has_put_int {D : DataW Value} (hD : Maps.IsMap D) (a b : Int) (d : DataW Value) : Maps.has (D.put (.int .i64 b) d) (.int .i64 a) = (decide (a = b) || Maps.has D (.int .i64 a)) := by
 by_cases h : a = b
 rotate_left
 ·rw [Maps.has_put_other (lit_ne h), decide_eq_false h]
  rfl
 subst h
 rw [Maps.has_put_same hD (show WideAt.IsKeyLit (.int .i64 _) from trivial)]
 simp
theorem MapIs.put {D : DataW Value} {kv : Ks} (h : MapIs D kv) (hD : Maps.IsMap D) (y : KpD × Value × Value × Value) (hy : ∀ x ∈ kv, x.1.a ≠ y.1.a) : MapIs (D.put (.int .i64 y.1.a) (.held (kpX y))) (kv ++ [y]) := by
 refine ⟨fun a => ?_, fun x hx z => ?_⟩
 ·rw [has_put_int hD, Bool.or_eq_true, decide_eq_true_iff, h.1 a]
  constructor
  ·rintro (rfl | ⟨x, hx, e⟩)
   · exact ⟨y, by simp, rfl⟩
   · exact ⟨x, by simp [hx], e⟩
  ·rintro ⟨x, hx, e⟩
   rcases List.mem_append.1 hx with hx | hx
   · exact .inr ⟨x, hx, e⟩
   ·rw [List.mem_singleton.1 hx] at e
    exact .inl e.symm
 ·rcases List.mem_append.1 hx with hx | hx
  ·rw [Maps.atKey_put_other (lit_ne (hy x hx))]
   exact h.2 x hx z
  ·rw [List.mem_singleton.1 hx]
   exact Maps.atKey_put_same hD (show WideAt.IsKeyLit (.int .i64 _) from trivial) _ _
structure MapN (D : DataW Value) (kv : Ks) : Prop where
 tidy : Maps.Tidy D
 has : ∀ a : Int, Maps.has D (.int .i64 a) = true ↔ ∃ x ∈ kv, x.1.a = a
 le : Maps.size D ≤ kv.length
 eq : Maps.size D = kv.length ↔ ApartA kv
 is : ApartA kv → MapIs D kv
theorem MapN.nil : MapN (.map []) [] := ⟨Maps.tidy_empty, MapIs.nil.1, Nat.le_refl _, ⟨fun _ => List.Pairwise.nil, fun _ => rfl⟩, fun _ => MapIs.nil⟩
theorem apart_snoc {kv : Ks} {y : KpD × Value × Value × Value} : ApartA (kv ++ [y]) ↔ ApartA kv ∧ ∀ x ∈ kv, x.1.a ≠ y.1.a := by
 unfold ApartA
 rw [List.pairwise_append]
 simp
theorem MapN.put {D : DataW Value} {kv : Ks} (h : MapN D kv) (y : KpD × Value × Value × Value) : MapN (D.put (.int .i64 y.1.a) (.held (kpX y))) (kv ++ [y]) := by
 have hD := h.tidy.isMap
 have hs := Maps.size_put (k := .int .i64 y.1.a) h.tidy (.held (kpX y))
 have hle := h.le
 refine ⟨h.tidy.put (show WideAt.IsKeyLit (.int .i64 _) from trivial) _, fun a => ?_, ?_, ?_, fun ha => ?_⟩
 ·rw [has_put_int hD, Bool.or_eq_true, decide_eq_true_iff, h.has a]
  constructor
  ·rintro (rfl | ⟨x, hx, e⟩)
   · exact ⟨y, by simp, rfl⟩
   · exact ⟨x, by simp [hx], e⟩
  ·rintro ⟨x, hx, e⟩
   rcases List.mem_append.1 hx with hx | hx
   · exact .inr ⟨x, hx, e⟩
   ·rw [List.mem_singleton.1 hx] at e
    exact .inl e.symm
 ·rw [hs, List.length_append, List.length_singleton]
  split <;> omega
 ·rw [hs, List.length_append, List.length_singleton, apart_snoc, ← h.eq]
  by_cases e : Maps.has D (.int .i64 y.1.a) = true
  rotate_left
  ·rw [if_neg e]
   constructor
   · intro h1; exact ⟨by omega, fun x hx ex => e ((h.has _).2 ⟨x, hx, ex⟩)⟩
   · rintro ⟨h1, _⟩; omega
  rw [if_pos e]
  obtain ⟨x, hx, ex⟩ := (h.has _).1 e
  constructor
  · intro h1; omega
  · rintro ⟨_, h2⟩; exact absurd ex (h2 x hx)
 ·obtain ⟨h1, h2⟩ := apart_snoc.1 ha
  exact (h.is h1).put hD y h2
theorem run_makeMap_hint {P : Program} {t k e : TypeId} (hu : P.underlying t = some (.map k e)) (n : Int) (w : World) : (Instr.makeMap t (some (.int .i64 n))).run P w = .ok (.map (some w.heap.size)) (w.alloc (.map #[] 0)) := by
 simp [Instr.makeMap, run_underlying hu, asInt, asIntOf, Result.andThen]
theorem map_below {P : Program} {k : TypeId} {R : Value → Option (DataW Value × List MemPlace)} {w w' : World} {b n : Nat} {D : DataW Value} (h : w.ownsMap P k R b n D) (hb : Below w.heap.size w w') : w'.ownsMap P k R b n D := by
 have hlt := h.lt
 obtain ⟨es, clock, h1, h2⟩ := h
 exact ⟨es, clock, (hb.block b hlt).trans h1, h2⟩
theorem map_ne {P : Program} {k : TypeId} {R : Value → Option (DataW Value × List MemPlace)} {w : World} {b n q : Nat} {D : DataW Value} {cs : Array Value} {T : TypeId} {fr : Nat × Nat} (h : w.ownsMap P k R b n D) (hq : w.heap[q]? = some (.cells cs T fr)) : b ≠ q := by
 obtain ⟨es, clock, h1, _⟩ := h
 intro e
 subst e
 rw [h1] at hq
 cases hq
theorem map_blk {P : Program} {k : TypeId} {R : Value → Option (DataW Value × List MemPlace)} {w w' : World} {b n q : Nat} {D : DataW Value} {cs : Array Value} {T : TypeId} {fr : Nat × Nat} (h : w.ownsMap P k R b n D) (hq : w.heap[q]? = some (.cells cs T fr)) (hg : w.grownBy w' (some b)) : w'.heap[q]? = some (.cells cs T fr) :=
 (hg.block q (blt hq) (fun e => map_ne h hq (Option.some.inj e).symm)).trans hq
theorem keyInt : Maps.Keyed Tryz.prog 3 := Maps.int_keyed Tryz.underlying3
theorem key_wf {a : Int} (h0 : 0 ≤ a) (h1 : a ≤ 1000) : keyOf Tryz.prog 3 (.int .i64 a) = some (.int .i64 a) := Maps.keyOf_int_mk Tryz.underlying3 (WalkArith.wf_i64 (by omega))
def KnownO (w : World) (b n : Nat) (D : DataW Value) : Prop := w.ownsMap Tryz.prog 3 mpR b n D
def KnownIs (kv : Ks) (w : World) (e : Ending) (w' : World) : Prop := ∃ (b n : Nat) (D : DataW Value), e = .returned (.map (some b)) ∧ n ≤ kv.length ∧ KnownO w' b n D ∧ MapN D kv ∧ w.heap.size ≤ b ∧ Below w.heap.size w w'
def cellsA (l : Ts) : Array Value := (l.map Value.string).toArray
def noneA : Ts := List.replicate 20 ⟨#[]⟩
def withP (l : Ts) (x : Int) (t : Tx) : Ts := if 0 ≤ x ∧ x < 20 then l.set x.toNat t else l
def ArrIs (l : Ts) (w : World) (e : Ending) (w' : World) : Prop := e = .returned (.agg (cellsA l)) ∧ Below w.heap.size w w'
theorem cellsA_size (l : Ts) : (cellsA l).size = l.length := by simp [cellsA]
theorem cellsA_at (l : Ts) (i : Nat) (h : i < l.length) : (cellsA l)[i]? = some (.string (textAt l i)) := by
 unfold cellsA
 rw [List.getElem?_toArray, List.getElem?_map, getElem_textAt l i h]
 rfl
theorem cellsA_set (l : Ts) (i : Nat) (t : Tx) : (cellsA l).setIfInBounds i (.string t) = cellsA (l.set i t) := by
 unfold cellsA
 rw [List.setIfInBounds_toArray, List.map_set]
theorem noneA_len : noneA.length = 20 := rfl
theorem noneA_cells : cellsA noneA = #[.string ⟨#[]⟩, .string ⟨#[]⟩, .string ⟨#[]⟩, .string ⟨#[]⟩, .string ⟨#[]⟩, .string ⟨#[]⟩, .string ⟨#[]⟩, .string ⟨#[]⟩, .string ⟨#[]⟩, .string ⟨#[]⟩, .string ⟨#[]⟩, .string ⟨#[]⟩, .string ⟨#[]⟩, .string ⟨#[]⟩, .string ⟨#[]⟩, .string ⟨#[]⟩, .string ⟨#[]⟩, .string ⟨#[]⟩, .string ⟨#[]⟩, .string ⟨#[]⟩] := rfl
theorem withP_len (l : Ts) (x : Int) (t : Tx) : (withP l x t).length = l.length := by
 unfold withP
 split
 · exact List.length_set
 · rfl
theorem infoA {l : Ts} (h : l.length = 20) : (Tryz.prog.info? 190).map (·.size) = some (cellsA l).size := by
 rw [cellsA_size, h]
 kernel_rfl
theorem cellsA_one (l : Ts) : (cellsA l).all (·.oneCell') = true := by
 unfold cellsA
 rw [List.all_toArray, List.all_eq_true]
 intro v hv
 obtain ⟨a, _, rfl⟩ := List.mem_map.1 hv
 rfl
theorem below_setRow {B : Nat} {a w : World} (h : Below B a w) (g : Nat) (cs : Array Value) (hg : B ≤ g) : Below B a (w.setRow g cs) :=
 h.trans ⟨rfl, rfl, rfl, by simp, fun k hk => setRow_other w g k cs (by omega)⟩
theorem new1 {w : World} {A B C : Obj} : (((w.alloc A).alloc B).alloc C).heap[w.heap.size]? = some A := blk_alloc (blk_alloc (heap_alloc_new w A) B) C
theorem new2 {w : World} {A B C : Obj} : (((w.alloc A).alloc B).alloc C).heap[w.heap.size + 1]? = some B := blk_alloc (heap_alloc2_new w A B) C
theorem new3 {w : World} {A B C : Obj} : (((w.alloc A).alloc B).alloc C).heap[w.heap.size + 1 + 1]? = some C := by
 have h := heap_alloc_new ((w.alloc A).alloc B) C
 have e : ((w.alloc A).alloc B).heap.size = w.heap.size + 1 + 1 := by simp
 rwa [e] at h
theorem new_below {w : World} {A B C : Obj} : Below w.heap.size w (((w.alloc A).alloc B).alloc C) :=
 (((Below.refl _ _).alloc (Nat.le_refl _) _).alloc (by simp) _).alloc (by simp; omega) _
theorem with_any (l : Ts) (hl : l.length = 20) (x : Int) (t : Tx) (w : World) :
  Calls Tryz.prog 121 #[.agg (cellsA l), .agg #[.int .i64 x, .string t]] w fun e w' => ArrIs (withP l x t) w e w' := by
 have HL := hid hl
 have HLW : Hid ((withP l x t).length = 20) := (withP_len l x t).trans hl
 clear hl
 go_enter Tryz.func121, Tryz.ntmps121
 go_upto_region 1 with fail
 obtain ⟨w3, hw3⟩ := exq (((w.alloc (.cells (cellsA l) 190)).alloc (.cells #[.int .i64 x, .string t] 148)).alloc (.cells #[.string ⟨#[]⟩, .string ⟨#[]⟩, .string ⟨#[]⟩, .string ⟨#[]⟩, .string ⟨#[]⟩, .string ⟨#[]⟩, .string ⟨#[]⟩, .string ⟨#[]⟩, .string ⟨#[]⟩, .string ⟨#[]⟩, .string ⟨#[]⟩, .string ⟨#[]⟩, .string ⟨#[]⟩, .string ⟨#[]⟩, .string ⟨#[]⟩, .string ⟨#[]⟩, .string ⟨#[]⟩, .string ⟨#[]⟩, .string ⟨#[]⟩, .string ⟨#[]⟩] 190))
 rw [← hw3]
 have HBW : Hid (Below w.heap.size w w3) := by rw [hw3]; exact new_below
 have hA : w3.heap[w.heap.size]? = some (.cells (cellsA l) 190) := by rw [hw3]; exact new1
 have hB : w3.heap[w.heap.size + 1]? = some (.cells #[.int .i64 x, .string t] 148) := by rw [hw3]; exact new2
 have hC : w3.heap[w.heap.size + 1 + 1]? = some (.cells (cellsA noneA) 190) := by rw [hw3]; exact new3
 obtain ⟨q, hq⟩ := exq (w.heap.size)
 have HQ : Hid (w.heap.size ≤ q) := by rw [hq]; exact Nat.le_refl _
 rw [← hq] at hA hB hC
 rw [← hq]
 have HA := hid hA
 have HC := hid hC
 have c0 := (cell_of hB 0)
 have c1 := (cell_of hB 1)
 simp only [List.getElem?_toArray, List.getElem?_cons_zero, List.getElem?_cons_succ] at c0 c1
 clear hw3 hA hB hC hq
 by_cases h0 : 0 ≤ x
 rotate_left
 ·have HE : Hid (withP l x t = l) := by unfold withP; rw [Hid, if_neg (fun h => h0 h.1)]
  go_upto_region 3 with fail
  clear c0 c1 h0
  rw [← HE.out] at HA
  go_wp2_with (first | refine wpList_load_row rfl 190 _ rfl q rfl 190 _ (0, 0) _ HA.out Tryz.underlying190 rfl (infoA HLW.out) ?_ | refine wpList_store_row rfl 190 _ _ rfl (q + 1 + 1) _ rfl rfl 190 _ HC.out (infoA HLW.out) (by rw [cellsA_size, cellsA_size, HLW.out, noneA_len]) (cellsA_one _) ?_)
  exact bodyPost_ret (v := .agg (cellsA (withP l x t))) (results_cell_row Tryz.results121 _ _ (q + 1 + 1) 190 _ (0, 0) _ rfl (setRow_heap _ _ _ _ _ _ HC.out) Tryz.underlying190 rfl (infoA HLW.out)) rfl ⟨rfl, below_setRow HBW.out _ _ (Nat.le_trans HQ.out (by omega))⟩
 by_cases h1 : x < 20
 rotate_left
 ·have HE : Hid (withP l x t = l) := by unfold withP; rw [Hid, if_neg (fun h => h1 h.2)]
  go_upto_region 3 with fail
  clear c0 c1 h0 h1
  rw [← HE.out] at HA
  go_wp2_with (first | refine wpList_load_row rfl 190 _ rfl q rfl 190 _ (0, 0) _ HA.out Tryz.underlying190 rfl (infoA HLW.out) ?_ | refine wpList_store_row rfl 190 _ _ rfl (q + 1 + 1) _ rfl rfl 190 _ HC.out (infoA HLW.out) (by rw [cellsA_size, cellsA_size, HLW.out, noneA_len]) (cellsA_one _) ?_)
  exact bodyPost_ret (v := .agg (cellsA (withP l x t))) (results_cell_row Tryz.results121 _ _ (q + 1 + 1) 190 _ (0, 0) _ rfl (setRow_heap _ _ _ _ _ _ HC.out) Tryz.underlying190 rfl (infoA HLW.out)) rfl ⟨rfl, below_setRow HBW.out _ _ (Nat.le_trans HQ.out (by omega))⟩
 have HE : Hid (withP l x t = l.set x.toNat t) := by unfold withP; rw [Hid, if_pos ⟨h0, h1⟩]
 have c2 : w3.cell? ⟨q, x.toNat, none⟩ = some (.string (textAt l x.toNat)) := (cell_of HA.out _).trans (cellsA_at l _ (by rw [HL.out]; omega))
 have c3 := frozen_of HA.out x.toNat
 go_upto_region 3 with fail
 obtain ⟨w4, hw4⟩ := exq (w3.setCell ⟨q, x.toNat, none⟩ (.string t))
 rw [← hw4]
 have HA4 : Hid (w4.heap[q]? = some (.cells (cellsA (withP l x t)) 190)) := by
  rw [Hid, hw4, HE.out, ← cellsA_set]
  exact heap_setCell_same w3 q _ _ 190 _ HA.out
 have HC4 : Hid (w4.heap[q + 1 + 1]? = some (.cells (cellsA noneA) 190)) := by
  rw [Hid, hw4, heap_setCell_other w3 _ _ _ (by simp; omega)]
  exact HC.out
 have HB4 : Hid (Below w.heap.size w w4) := by rw [hw4]; exact HBW.out.setCell HQ.out _
 clear hw4 HA HC HBW c0 c1 c2 c3 h0 h1
 go_wp2_with (first | refine wpList_load_row rfl 190 _ rfl q rfl 190 _ (0, 0) _ HA4.out Tryz.underlying190 rfl (infoA HLW.out) ?_ | refine wpList_store_row rfl 190 _ _ rfl (q + 1 + 1) _ rfl rfl 190 _ HC4.out (infoA HLW.out) (by rw [cellsA_size, cellsA_size, HLW.out, noneA_len]) (cellsA_one _) ?_)
 exact bodyPost_ret (v := .agg (cellsA (withP l x t))) (results_cell_row Tryz.results121 _ _ (q + 1 + 1) 190 _ (0, 0) _ rfl (setRow_heap _ _ _ _ _ _ HC4.out) Tryz.underlying190 rfl (infoA HLW.out)) rfl ⟨rfl, below_setRow HB4.out _ _ (Nat.le_trans HQ.out (by omega))⟩
def AllIn (ws : List (Int × ByteArray)) : Prop := ∀ x ∈ ws, 0 ≤ x.1 ∧ x.1 ≤ 19
theorem guardA : Tryz.prog.eqGuardType Tryz.prog.depth 190 = false := by kernel_rfl
theorem equalA (xs ys : Ts) (hx : xs.length = 20) (hy : ys.length = 20) (w : World) :
  (Op.equalIn 10000 190 (.agg (cellsA xs)) (.agg (cellsA ys))).run Tryz.prog w = .ok ((List.range' 0 20 1).all (fun i => (textAt xs i).toList == (textAt ys i).toList)) w := by
 rw [show (10000 : Nat) = 9999 + 1 from rfl, Op.equalIn]
 simp only [Sem.run_bind, run_underlying Tryz.underlying190, Result.andThen_ok, Tryz.sizeOf9, Std.Legacy.Range.forIn_eq_forIn_range', Std.Legacy.Range.size, Nat.sub_zero, Nat.add_sub_cancel, Nat.div_one]
 have hl : ∀ i ∈ List.range' 0 20 1, i < 20 := fun i hi => by simpa using (List.mem_range'_1.1 hi).2
 generalize List.range' 0 20 1 = l at hl ⊢
 induction l with
 | nil => simp
 | cons i l ih =>
  have hi : i < 20 := hl i (by simp)
  have px : ∀ zs : Ts, zs.length = 20 → (part 9 (cellsA zs) (i * 1)).run Tryz.prog w = .ok (.string (textAt zs i)) w := fun zs hz => by
   simp [part, Tryz.isAgg9, cellsA_at zs i (by omega)]
  have pe : (Op.equalIn 9999 9 (.string (textAt xs i)) (.string (textAt ys i))).run Tryz.prog w = .ok ((textAt xs i).toList == (textAt ys i).toList) w := run_equalIn_string w 9998 9 _ _ Tryz.underlying9
  simp only [List.forIn_cons, Sem.run_bind, px xs hx, px ys hy, pe, Result.andThen_ok, List.all_cons]
  cases hb : ((textAt xs i).toList == (textAt ys i).toList)
  · simp
  ·simp only [Bool.not_true, Bool.false_eq_true, if_false, Sem.run_pure, Result.andThen_ok, Bool.true_and]
   exact ih fun j hj => hl j (by simp [hj])
theorem neqA (xs ys : Ts) (hx : xs.length = 20) (hy : ys.length = 20) (w : World) :
  (binOp .neq 190 (.agg (cellsA xs)) (.agg (cellsA ys))).run Tryz.prog w = .ok (.bool (!((List.range' 0 20 1).all (fun i => (textAt xs i).toList == (textAt ys i).toList)))) w := by
 rw [run_neq_struct, equalA xs ys hx hy]
 rfl
theorem neq_in (x : Int) (h : 0 ≤ x ∧ x ≤ 19) (w : World) : (binOp .neq 190 (.agg (cellsA (withP noneA x ⟨#[120]⟩))) (.agg #[.string ⟨#[]⟩, .string ⟨#[]⟩, .string ⟨#[]⟩, .string ⟨#[]⟩, .string ⟨#[]⟩, .string ⟨#[]⟩, .string ⟨#[]⟩, .string ⟨#[]⟩, .string ⟨#[]⟩, .string ⟨#[]⟩, .string ⟨#[]⟩, .string ⟨#[]⟩, .string ⟨#[]⟩, .string ⟨#[]⟩, .string ⟨#[]⟩, .string ⟨#[]⟩, .string ⟨#[]⟩, .string ⟨#[]⟩, .string ⟨#[]⟩, .string ⟨#[]⟩])).run Tryz.prog w = .ok (.bool true) w := by
 have h1 := neqA (withP noneA x ⟨#[120]⟩) noneA (withP_len _ _ _) rfl w
 rw [noneA_cells] at h1
 rw [h1]
 have h2 : textAt (withP noneA x ⟨#[120]⟩) x.toNat = ⟨#[120]⟩ := by
  unfold withP
  rw [if_pos ⟨h.1, by omega⟩, textAt_set, if_pos ⟨rfl, by rw [noneA_len]; omega⟩]
 have h3 : textAt noneA x.toNat = ⟨#[]⟩ := by
  unfold textAt noneA
  rw [List.getD_eq_getElem?_getD, List.getElem?_replicate, if_pos (by omega)]
  rfl
 have h4 : ((List.range' 0 20 1).all (fun i => (textAt (withP noneA x ⟨#[120]⟩) i).toList == (textAt noneA i).toList)) = false := by
  rw [List.all_eq_false]
  refine ⟨x.toNat, List.mem_range'_1.2 ⟨by omega, by omega⟩, ?_⟩
  rw [h2, h3, ← beq_toListBytes]
  decide
 rw [h4]
 rfl
theorem neq_out (x : Int) (h : ¬ (0 ≤ x ∧ x ≤ 19)) (w : World) : (binOp .neq 190 (.agg (cellsA (withP noneA x ⟨#[120]⟩))) (.agg #[.string ⟨#[]⟩, .string ⟨#[]⟩, .string ⟨#[]⟩, .string ⟨#[]⟩, .string ⟨#[]⟩, .string ⟨#[]⟩, .string ⟨#[]⟩, .string ⟨#[]⟩, .string ⟨#[]⟩, .string ⟨#[]⟩, .string ⟨#[]⟩, .string ⟨#[]⟩, .string ⟨#[]⟩, .string ⟨#[]⟩, .string ⟨#[]⟩, .string ⟨#[]⟩, .string ⟨#[]⟩, .string ⟨#[]⟩, .string ⟨#[]⟩, .string ⟨#[]⟩])).run Tryz.prog w = .ok (.bool false) w := by
 have e : withP noneA x ⟨#[120]⟩ = noneA := by unfold withP; rw [if_neg (fun h2 => h ⟨h2.1, by omega⟩)]
 have h1 := neqA noneA noneA rfl rfl w
 rw [e]
 rw [noneA_cells] at h1 ⊢
 rw [h1]
 have h4 : ((List.range' 0 20 1).all (fun i => (textAt noneA i).toList == (textAt noneA i).toList)) = true := by
  rw [List.all_eq_true]
  exact fun i _ => by simp
 rw [h4]
 rfl
theorem isCell_any (x : Int) (w : World) :
  Calls Tryz.prog 81 #[.int .i64 x] w fun e w' => BoolIs (0 ≤ x ∧ x ≤ 19) w e w' := by
 have hgb := guardA
 by_cases h : 0 ≤ x ∧ x ≤ 19
 rotate_left
 ·have hqe := neq_out x h
  have HH := hid h
  clear h
  go_enter Tryz.func81, Tryz.ntmps81
  go_wp2_with fail
  refine (with_any noneA rfl x ⟨#[120]⟩ _).mono ?_
  rintro e w1 ⟨rfl, bw⟩
  have HBW : Hid (Below w.heap.size w w1) := bw
  clear bw
  go_wp2_with fail
  go_ret
  exact BoolIs.no HH.out HBW.out
 have hqe := neq_in x h
 have HH := hid h
 clear h
 go_enter Tryz.func81, Tryz.ntmps81
 go_wp2_with fail
 refine (with_any noneA rfl x ⟨#[120]⟩ _).mono ?_
 rintro e w1 ⟨rfl, bw⟩
 have HBW : Hid (Below w.heap.size w w1) := bw
 clear bw
 go_wp2_with fail
 go_ret
 exact ⟨true, rfl, ⟨fun _ => HH.out, fun _ => rfl⟩, HBW.out⟩
theorem allToCells_any (o : Oa) (n c : Nat) (ws : List (Int × ByteArray)) (w : World) (h : WriteA w o n ws) (hn : n ≤ 2000000) :
  Calls Tryz.prog 80 #[.slice o n c] w fun e w' => BoolIs (AllIn ws) w e w' := by
 have HW := hid h
 clear h
 go_enter Tryz.func80, Tryz.ntmps80
 go_wp2_with fail
 go_loopw [7] (fun i wr => ∃ j : Nat, j ≤ n ∧ i = .int .i64 (j : Int) ∧ Hid (Below w.heap.size w wr) ∧ Hid (∀ x ∈ ws.take j, 0 ≤ x.1 ∧ x.1 ≤ 19)) (fun i _ => n - (intOf i).toNat)
 case atStart => exact ⟨0, Nat.zero_le _, rfl, Below.refl _ _, fun x hx => by simp at hx⟩
 case round =>
  obtain ⟨j, hj, rfl, HB, HN⟩ := hrel
  by_cases hlt : (j : Int) < (n : Int)
  rotate_left
  ·have HAL : Hid (AllIn ws) := fun x hx => HN.out x (by rw [List.take_of_length_le (by rw [HW.out.1]; omega)]; exact hx)
   clear HN
   go_wp2_with fail
   go_ret
   exact ⟨true, rfl, ⟨fun _ => HAL.out, fun _ => rfl⟩, HB.out⟩
  have hjx : j < ws.length := by rw [HW.out.1]; omega
  obtain ⟨g, rfl, hg, r0, r1⟩ := (HW.out.below HB.out).2 j (by omega)
  obtain ⟨y, hy⟩ := exq (writeAt ws j)
  have HM : Hid (y ∈ ws) := by show _ ∈ _; rw [hy]; exact writeAt_mem ws j hjx
  have HTK : Hid (ws.take (j + 1) = ws.take j ++ [y]) := by show _ = _; rw [hy]; exact take_writeAt ws j hjx
  rw [← hy] at r0 r1
  obtain ⟨y0, y1⟩ := y
  simp only at r0 r1
  clear hy hjx
  go_wp2_with fail
  refine (isCell_any y0 _).mono ?_
  rintro e w4 ⟨b, rfl, hb, bw⟩
  have HBW : Hid (Below w.heap.size w w4) := (HB.out.alloc HB.out.size _).trans (bw.mono (Nat.le_trans HB.out.size (by simp)))
  clear bw r0 r1
  cases b with
  | true =>
   have HY : Hid (0 ≤ y0 ∧ y0 ≤ 19) := hb.1 rfl
   clear hb
   go_wp2_with fail
   go_roundw
   case rel =>
    refine ⟨j + 1, by omega, by go_num, HBW, fun x hx => ?_⟩
    rw [HTK.out] at hx
    rcases List.mem_append.1 hx with hx | hx
    · exact HN.out x hx
    · rw [List.mem_singleton.1 hx]; exact HY.out
   case measure => simp [intOf]; omega
  | false =>
   have HY : Hid (¬ (0 ≤ y0 ∧ y0 ≤ 19)) := fun h => nomatch hb.2 h
   clear hb
   go_wp2_with fail
   go_ret
   exact BoolIs.no (fun h => HY.out (h _ HM.out)) HBW.out
theorem isObjectCell_any (x : Int) (w : World) :
  Calls Tryz.prog 45 #[.int .i64 x] w fun e w' => BoolIs (5 ≤ x ∧ x ≤ 19) w e w' := by
 have hb0 := Below.refl w.heap.size w
 go_enter Tryz.func45, Tryz.ntmps45
 by_cases hc1 : 5 ≤ x
 rotate_left
 ·have H5 : Hid (¬ 5 ≤ x) := hc1
  go_wp2_with fail
  go_ret
  exact BoolIs.no (fun h => by have h5 := H5.out; omega) hb0
 have H5 : Hid (5 ≤ x) := hc1
 go_wp2_with fail
 refine (isCell_any x _).mono ?_
 rintro e w1 ⟨uc, rfl, huc, bw⟩
 have hb1 := hbt hb0 bw
 clear hb0 bw
 go_wp2_with fail
 go_ret
 cases uc with
 | true => exact BoolIs.yes ⟨H5.out, (huc.1 rfl).2⟩ hb1
 | false => exact BoolIs.no (fun h => nomatch huc.2 ⟨by omega, h.2⟩) hb1
theorem knownOf_any (V : Value) (kv : Ks) (B : Nat) (w : World) (h : KeptsO w B V kv) (hn : kv.length ≤ 1048576) (ha : ∀ x ∈ kv, 0 ≤ x.1.a ∧ x.1.a ≤ 1000) :
  Calls Tryz.prog 83 #[V] w fun e w' => KnownIs kv w e w' := by
 obtain ⟨o3, c3, e3⟩ := slice_of_owns h.row
 subst e3
 obtain ⟨n3, hn3⟩ := exq kv.length
 rw [← hn3] at h ⊢
 obtain ⟨ks, hks⟩ := exq (kv.map (·.1))
 have HKS : Hid (kv.map (·.1) = ks) := hks.symm
 have HLK : Hid (kv.length = n3) := hn3.symm
 have bn3 : n3 ≤ 1048576 := by rw [hn3]; exact hn
 have HKP : Hid (∀ W, Below w.heap.size w W → KeptsO W B (.slice o3 n3 c3) kv) := fun W hb => KeptsO.below h hb
 clear hn3 hks h hn
 have HAB := hid ha
 clear ha
 have hmm : ∀ W : World, (Instr.makeMap 142 (some (.int .i64 (n3 : Int)))).run Tryz.prog W = .ok (.map (some W.heap.size)) (W.alloc (.map #[] 0)) := fun W => run_makeMap_hint Tryz.underlying142 _ W
 have hb0 := Below.refl w.heap.size w
 go_enter Tryz.func83, Tryz.ntmps83
 go_upto_region 2 with fail
 obtain ⟨qm1, hqm1⟩ := exq (w.heap.size)
 obtain ⟨w1, hW1⟩ := exq (w.alloc (.map #[] 0))
 rw [← hW1]; try rw [← hqm1]
 have bw := bal hW1
 have hb1 := hbt hb0 bw
 have HGm1 : Hid (w.heap.size ≤ qm1) := by show _ ≤ _; rw [hqm1]; exact hb0.size
 have EMm1_1 : Hid (KnownO w1 qm1 0 (.map [])) := by unfold KnownO; show World.ownsMap _ _ _ _ _ _ _; rw [hW1, hqm1]; exact World.ownsMap_made _ _ _ _
 clear bw hW1 hqm1 hb0
 go_wp2_with fail
 go_loopw [11] (fun i wr => ∃ (j : Nat) (D : DataW Value), j ≤ n3 ∧ i = .int .i64 (j : Int) ∧ Hid (KnownO wr qm1 j D ∧ MapN D (kv.take j) ∧ Below w.heap.size w (wr))) (fun i _ => n3 - (intOf i).toNat)
 case atStart => exact ⟨0, .map [], Nat.zero_le _, rfl, EMm1_1.out, by rw [List.take_zero]; exact MapN.nil, hb1⟩
 case round =>
  obtain ⟨j, D, hj, rfl, HW⟩ := hrel
  by_cases hlt : (j : Int) < (n3 : Int)
  rotate_left
  ·have hb2 := HW.out.2.2
   have HMN := HW.out.2.1
   have HMNH : Hid (MapN D (kv.take j)) := HMN
   clear HMN
   have EMm1_2 : Hid (KnownO wr qm1 j D) := HW.out.1
   clear HW hb1
   go_wp2_with fail
   go_ret
   have HMN2 : MapN D kv := by
    have h := HMNH.out
    rw [List.take_of_length_le (by rw [HLK.out]; omega)] at h
    exact h
   exact ⟨qm1, j, D, rfl, by rw [HLK.out]; omega, EMm1_2.out, HMN2, HGm1.out, hb2⟩
  have hb2 := HW.out.2.2
  have HMN := HW.out.2.1
  have HMNH : Hid (MapN D (kv.take j)) := HMN
  clear HMN
  have EMm1_2 : Hid (KnownO wr qm1 j D) := HW.out.1
  clear HW hb1
  obtain ⟨g3, p3, hV, _, _⟩ := (HKP.out _ hb2).look j (by rw [HLK.out]; omega)
  rw [HLK.out] at hV
  injection hV with hV1 hV2 hV3
  subst hV1 hV3
  clear hV2
  obtain ⟨xX, hxX⟩ := exq (kvAt kv j)
  have HMx : Hid (xX ∈ kv) := by show _ ∈ _; rw [hxX]; exact kvAt_mem kv j (by rw [HLK.out]; omega)
  have HEx : Hid (kpAt ks j = xX.1) := by show _ = _; rw [hxX, ← HKS.out]; exact (kvAt_fst kv j (by rw [HLK.out]; omega)).symm
  have HTKx : Hid (kv.take (j + 1) = kv.take j ++ [xX]) := by show _ = _; rw [hxX]; exact kvAt_take kv j (by rw [HLK.out]; omega)
  have HKx : Hid (∀ W, Below w.heap.size w W → KpAt W g3 j xX) := fun W hb => by
   obtain ⟨g', p', hV, _, hc⟩ := (HKP.out W hb).look j (by rw [HLK.out]; omega)
   injection hV with hV1 _ _
   cases hV1
   rw [hxX]
   exact hc
  clear hxX
  obtain ⟨x, kuv1, kuv2, kuv3⟩ := xX
  obtain ⟨ku1, kc1, hu⟩ := slice_of_owns ((HKP.out _ hb2).names HMx.out)
  have hu' : kuv1 = .slice ku1 x.xs.length kc1 := hu
  subst hu'
  clear hu
  obtain ⟨ku2, kc2, hu⟩ := slice_of_owns ((HKP.out _ hb2).vals HMx.out)
  have hu' : kuv2 = .slice ku2 x.ys.length kc2 := hu
  subst hu'
  clear hu
  obtain ⟨ku3, kc3, hu⟩ := slice_of_owns ((HKP.out _ hb2).flds HMx.out)
  have hu' : kuv3 = .slice ku3 x.fs.length kc3 := hu
  subst hu'
  clear hu
  have r0x := (HKx.out _ hb2).c0
  have r1x := (HKx.out _ hb2).c1
  have r2x := (HKx.out _ hb2).c2
  have r3x := (HKx.out _ hb2).c3
  have r4x := (HKx.out _ hb2).c4
  have r5x := (HKx.out _ hb2).c5
  have r6x := (HKx.out _ hb2).c6
  have r7x := (HKx.out _ hb2).c7
  have r8x := (HKx.out _ hb2).c8
  dsimp only at r0x r1x r2x r3x r4x r5x r6x r7x r8x
  go_upto_region 5 with fail
  obtain ⟨q1, hq1⟩ := exq (wr.heap.size)
  obtain ⟨w3, hW3⟩ := exq (wr.alloc (.cells #[.string x.p, .slice ku1 x.xs.length kc1, .slice ku2 x.ys.length kc2, .int .i64 x.st, .slice ku3 x.fs.length kc3, .string x.b, .int .i64 x.t, .int .i64 x.a, .int .i64 x.q] 63))
  have hz3 := hq1.symm
  rw [← hW3]; try rw [← hq1]
  have hs3 := hsa hW3 hz3
  have bw := bal hW3
  have hb3 := hbt hb2 bw
  have EMm1_3 : Hid (KnownO w3 qm1 j (D)) := map_below EMm1_2.out bw
  have B1_3 := hnew hW3 hz3
  clear hb2 bw hW3 hz3
  clear hs3 hq1
  clear r0x r1x r2x r3x r4x r5x r6x r7x r8x
  have c1_0 := (k9c B1_3).1
  have c1_1 := (k9c B1_3).2.1
  have c1_2 := (k9c B1_3).2.2.1
  have c1_3 := (k9c B1_3).2.2.2.1
  have c1_4 := (k9c B1_3).2.2.2.2.1
  have c1_5 := (k9c B1_3).2.2.2.2.2.1
  have c1_6 := (k9c B1_3).2.2.2.2.2.2.1
  have c1_7 := (k9c B1_3).2.2.2.2.2.2.2.1
  have c1_8 := (k9c B1_3).2.2.2.2.2.2.2.2
  have hmp := EMm1_3.out
  unfold KnownO at hmp
  go_wp2_with (first | (at_mapUpdate; refine wpList_mapUpdate_own _ rfl _ _ _ 142 rfl 3 63 keyInt Tryz.underlying142 mpR qm1 (j) (D) rfl hmp (by unfold maxLen; omega) _ _ (.int .i64 x.a) rfl rfl (key_wf (HAB.out _ HMx.out).1 (HAB.out _ HMx.out).2) (.held (.agg #[.string x.p, .slice ku1 x.xs.length kc1, .slice ku2 x.ys.length kc2, .int .i64 x.st, .slice ku3 x.fs.length kc3, .string x.b, .int .i64 x.t, .int .i64 x.a, .int .i64 x.q])) [] rfl ?_) | go_in)
  intro w4 hown1 hgrow
  clear c1_0 c1_1 c1_2 c1_3 c1_4 c1_5 c1_6 c1_7 c1_8
  have hb4 : Below w.heap.size w (w4) := hb3.grown hgrow hb3.size (by intro g hg; cases hg; exact HGm1.out)
  have B1_4 : Hid (w4.heap[q1]? = some (.cells #[.string x.p, .slice ku1 x.xs.length kc1, .slice ku2 x.ys.length kc2, .int .i64 x.st, .slice ku3 x.fs.length kc3, .string x.b, .int .i64 x.t, .int .i64 x.a, .int .i64 x.q] 63)) := map_blk hmp B1_3.out hgrow
  have EMm1_4 : Hid (KnownO w4 qm1 (j + 1) (((D).put (.int .i64 x.a) (.held (.agg #[.string x.p, .slice ku1 x.xs.length kc1, .slice ku2 x.ys.length kc2, .int .i64 x.st, .slice ku3 x.fs.length kc3, .string x.b, .int .i64 x.t, .int .i64 x.a, .int .i64 x.q]))))) := hown1
  clear hown1 hgrow hmp hb3
  have HN2 : Hid (MapN (D.put (.int .i64 x.a) (.held (kpX (x, .slice ku1 x.xs.length kc1, .slice ku2 x.ys.length kc2, .slice ku3 x.fs.length kc3)))) (kv.take (j + 1))) := by
   show MapN _ _
   rw [HTKx.out]
   exact HMNH.out.put (x, .slice ku1 x.xs.length kc1, .slice ku2 x.ys.length kc2, .slice ku3 x.fs.length kc3)
  go_wp2_with fail
  go_roundw
  case rel => exact ⟨j + 1, _, by omega, by go_num, EMm1_4.out, HN2.out, hb4⟩
  case measure => simp [intOf]; omega
theorem timeOk_any (t : Int) (w : World) :
  Calls Tryz.prog 124 #[.int .i64 t] w fun e w' => e = .returned (.bool (decide ((0 : Int) ≤ t ∧ t ≤ 1000000))) ∧ w' = w := by
 obtain ⟨D, hD⟩ : ∃ D, D = decide ((0 : Int) ≤ t ∧ t ≤ 1000000) := ⟨_, rfl⟩
 rw [← hD]
 by_cases h1 : 0 ≤ t
 rotate_left
 ·have HD : Hid (D = false) := by show _ = _; rw [hD]; exact decide_eq_false (fun h => h1 h.1)
  clear hD
  go_enter Tryz.func124, Tryz.ntmps124
  go_wp2
  go_ret
  exact ⟨by rw [HD.out]; rfl, rfl⟩
 by_cases h2 : t ≤ 1000000
 ·have HD : Hid (D = true) := by show _ = _; rw [hD]; exact decide_eq_true ⟨h1, h2⟩
  clear hD
  go_enter Tryz.func124, Tryz.ntmps124
  go_wp2
  go_ret
  exact ⟨by rw [HD.out]; rfl, rfl⟩
 have HD : Hid (D = false) := by show _ = _; rw [hD]; exact decide_eq_false (fun h => h2 h.2)
 clear hD
 go_enter Tryz.func124, Tryz.ntmps124
 go_wp2
 go_ret
 exact ⟨by rw [HD.out]; rfl, rfl⟩
theorem valuesOk_any (oa : Oa) (m cm : Nat) (xs : Ts) (w : World) (hx : TextsA w oa m xs) (hm : m ≤ 2000000) (hsz : ∀ i, i < m → (textAt xs i).size ≤ maxLen) :
  Calls Tryz.prog 128 #[.slice oa m cm] w fun e w' => BoolIs (∀ y ∈ xs, ValOk y) w e w' := by
 have HV : Hid (∀ W, Below w.heap.size w W → TextsA W oa m xs) := fun W h => hx.below h
 have HL : Hid (xs.length = m) := hx.1
 have HS := hid hsz
 clear hx hsz
 go_enter Tryz.func128, Tryz.ntmps128
 go_wp2
 go_loopw [7] (fun i wr => ∃ j : Nat, j ≤ m ∧ i = .int .i64 (j : Int) ∧ Hid (Below w.heap.size w wr) ∧ Hid (∀ x ∈ xs.take j, ValOk x)) (fun i _ => m - (intOf i).toNat)
 case atStart => exact ⟨0, Nat.zero_le _, rfl, Below.refl _ _, fun x hx => by simp at hx⟩
 case round =>
  obtain ⟨j, hj, rfl, HW, HN⟩ := hrel
  by_cases hlt : (j : Int) < (m : Int)
  rotate_left
  ·have HA : Hid (∀ y ∈ xs, ValOk y) := by
    have h := HN.out
    rw [List.take_of_length_le (by rw [HL.out]; omega)] at h
    exact h
   clear HN
   go_wp2_with fail
   go_ret
   exact ⟨true, rfl, ⟨fun _ => HA.out, fun _ => rfl⟩, HW.out⟩
  have hjx : j < xs.length := by rw [HL.out]; omega
  obtain ⟨g, hog, hg, hc⟩ := (HV.out wr HW.out).2 j (by omega)
  subst hog
  have hs := HS.out j (by omega)
  obtain ⟨x, hxx⟩ := exq (textAt xs j)
  rw [← hxx] at hc hs
  have HM : Hid (x ∈ xs) := by show _ ∈ _; rw [hxx]; exact textAt_mem xs j hjx
  have HTK : Hid (xs.take (j + 1) = xs.take j ++ [x]) := by show _ = _; rw [take_textAt xs j hjx, hxx]
  clear hxx hjx
  go_wp2_with fail
  refine (implValueOk_any x _ hs).mono ?_
  rintro e w90 ⟨tx, rfl, htx, bw⟩
  have HW2 : Hid (Below w.heap.size w w90) := HW.out.trans (bw.mono HW.out.size)
  clear bw hc HW
  cases tx
  ·have HF : Hid (¬ ∀ y ∈ xs, ValOk y) := fun h => nomatch htx.2 (h x HM.out)
   clear htx HN
   go_wp2_with fail
   go_ret
   exact BoolIs.no HF.out HW2.out
  have HN2 : Hid (∀ y ∈ xs.take (j + 1), ValOk y) := by
   intro y hy
   rw [HTK.out] at hy
   rcases List.mem_append.1 hy with hy | hy
   · exact HN.out y hy
   · rw [List.mem_singleton.1 hy]; exact htx.1 rfl
  clear htx HN
  go_wp2_with fail
  go_roundw
  case rel => exact ⟨j + 1, by omega, by go_num, HW2, HN2⟩
  case measure => simp [intOf]; omega
theorem equalT_any (oa ob : Oa) (m cm k ck : Nat) (xs ys : Ts) (w : World) (hx : TextsA w oa m xs) (hm : m ≤ 2000000) (hy : TextsA w ob k ys) (hk : k ≤ 2000000) :
  Calls Tryz.prog 125 #[.slice oa m cm, .slice ob k ck] w fun e w' => e = .returned (.bool (decide (xs = ys))) ∧ Below w.heap.size w w' := by
 by_cases hmk : m = k
 rotate_left
 ·refine (Tryz.slices_Equal_string_lens oa ob m cm k ck w hmk).mono ?_
  rintro e w1 ⟨rfl, rfl⟩
  refine ⟨?_, Below.refl _ _⟩
  rw [decide_eq_false (fun h => hmk (by rw [← hx.1, ← hy.1, h]))]
 subst hmk
 by_cases h0 : m = 0
 ·subst h0
  refine (Tryz.slices_Equal_string_empty oa ob cm 0 ck w (by omega)).mono ?_
  rintro e w1 ⟨rfl, rfl⟩
  refine ⟨?_, Below.refl _ _⟩
  rw [List.length_eq_zero_iff.1 hx.1, List.length_eq_zero_iff.1 hy.1]
  simp
 obtain ⟨g, rfl, _, _⟩ := hx.2 0 (by omega)
 obtain ⟨q, rfl, _, _⟩ := hy.2 0 (by omega)
 refine (Tryz.slices_Equal_string g 0 m cm q 0 m ck xs ys w (by rw [hx.1]; exact Nat.le_refl _) (by rw [hy.1]; exact Nat.le_refl _) (by omega) (by omega) (fun j hj => ?_) (fun j hj => ?_)).mono ?_
 ·obtain ⟨g2, e2, _, h3⟩ := hx.2 j (by rw [← hx.1]; exact hj)
  cases e2
  rw [Nat.zero_add]
  exact h3
 ·obtain ⟨g2, e2, _, h3⟩ := hy.2 j (by rw [← hy.1]; exact hj)
  cases e2
  rw [Nat.zero_add]
  exact h3
 ·rintro e w1 ⟨rfl, n, rfl⟩
  refine ⟨?_, ⟨rfl, rfl, rfl, Nat.le_refl _, fun _ _ => rfl⟩⟩
  rw [List.take_of_length_le (by rw [hx.1]; exact Nat.le_refl _), List.take_of_length_le (by rw [hy.1]; exact Nat.le_refl _)]
attribute [local go_sem] Oper.semAt_some
theorem implVaryOf_any (v : Value) (n base : Nat) (fs : Fs) (w : World) (hv : FieldsV w base v n fs) (hn : n ≤ 1073741824) (hcp : CopyF fs) (hsz : (getV fs varyName).size ≤ 1048576) :
  Calls Tryz.prog 126 #[v] w fun e w' => RowIs w.heap.size (varyP fs) w e w' := by
 obtain ⟨s, hs⟩ := exq (getV fs varyName)
 have HS : Hid (getV fs varyName = s) := hs.symm
 have HE : Hid (varyP fs = (splitL s).map lowerOf) := by show _ = _; unfold varyP; rw [HS.out]
 rw [← hs] at hsz
 have hl1 := (splitL_le s).1
 clear hs
 go_enter Tryz.func126, Tryz.ntmps126
 go_wp2_with fail
 refine (implGet_any v n base fs varyName _ hv hn hcp).mono ?_
 rintro e w1 ⟨rfl, b1⟩
 rw [HS.out]
 clear hv
 go_wp2_with fail
 refine (implSplit_any s _ hsz).mono ?_
 rintro e w2 ⟨V, rfl, O, b2⟩
 obtain ⟨xs, hxs⟩ := exq (splitL s)
 rw [← hxs] at hl1 O HE
 obtain ⟨m, hm⟩ := exq xs.length
 rw [← hm] at hl1 O
 have HM : Hid (xs.length = m) := hm.symm
 have O := owns_base O b1.size
 have b2 : Below w.heap.size w w2 := b1.trans (b2.mono b1.size)
 clear hxs hm b1
 rcases row_form O with ⟨oa, ca, rfl, h0, h1⟩ | ⟨g, cap, rfl, hp, r1⟩
 ·subst h0 h1
  go_wp2_with fail
  refine wp_loop_rounds 1 ?_
  rw [rounds_succ]
  go_wp2_with fail
  go_ret
  exact RowIs.of (by rw [HE.out]; rfl) rfl O b2
 ·clear O
  have HB2 : Hid (Below w.heap.size w w2) := b2
  have HR1 : Hid (TextRow w.heap.size w2 g m cap (loTo xs 0)) := by show TextRow _ _ _ _ _ _; rw [loTo_zero]; exact r1
  clear b2 r1
  go_wp2_with fail
  go_loopw [17] (fun i wr => ∃ j : Nat, j ≤ m ∧ i = .int .i64 (j : Int) ∧ Hid (Below w.heap.size w wr) ∧ Hid (TextRow w.heap.size wr g m cap (loTo xs j))) (fun i _ => m - (intOf i).toNat)
  case atStart => exact ⟨0, Nat.zero_le _, rfl, HB2, HR1⟩
  case round =>
   obtain ⟨j, hj, rfl, HB, HR⟩ := hrel
   by_cases hlt : j < m
   rotate_left
   ·obtain rfl : j = m := by omega
    go_wp2_with fail
    go_ret
    exact RowIs.of (by rw [HE.out, loTo_all xs j (by rw [HM.out]; exact Nat.le_refl _)]) (by rw [loTo_all xs j (by rw [HM.out]; exact Nat.le_refl _), List.length_map, HM.out]) HR.out.owns HB.out
   have hlt2 : (j : Int) < (m : Int) := by omega
   obtain ⟨x, hx⟩ := exq (textAt xs j)
   have hc := HR.out.cell j hlt
   rw [loTo_at, ← hx] at hc
   have HST : Hid ((loTo xs j).set j (lowerOf x) = loTo xs (j + 1)) := by show _ = _; rw [hx]; exact loTo_step xs j (by rw [HM.out]; exact hlt)
   clear hx
   go_wp2_with fail
   refine (implLower_any x _).mono ?_
   rintro e w3 ⟨rfl, hb3⟩
   have hrow := HR.out.below hb3 HR.out.lt
   have hc3 := hrow.cell j hlt
   have hf3 := hrow.frozen j
   have HB3 : Hid (Below w.heap.size w (w3.setCell ⟨g, j, none⟩ (.string (lowerOf x)))) := (HB.out.trans (hb3.mono HB.out.size)).setCell HR.out.base _
   have HR3 : Hid (TextRow w.heap.size (w3.setCell ⟨g, j, none⟩ (.string (lowerOf x))) g m cap (loTo xs (j + 1))) := by
    show TextRow _ _ _ _ _ _
    rw [← HST.out]
    exact hrow.set j hlt _
   clear hb3 hrow HB HR HST hc
   go_wp2_with fail
   go_roundw
   case rel => exact ⟨j + 1, by omega, by go_num, HB3, HR3⟩
   case measure => simp [intOf]; omega
theorem namesOk_any (oa : Oa) (m cm : Nat) (xs : Ts) (w : World) (hx : TextsA w oa m xs) (hm : m ≤ 2000000) (hsz : ∀ i, i < m → (textAt xs i).size ≤ maxLen) :
  Calls Tryz.prog 127 #[.slice oa m cm] w fun e w' => BoolIs (NamesP xs) w e w' := by
 by_cases h4 : (4 : Int) < (m : Int)
 ·have HF : Hid (¬ NamesP xs) := fun h => by have := h.2; rw [hx.1] at this; omega
  clear hx hsz
  go_enter Tryz.func127, Tryz.ntmps127
  go_wp2_with fail
  go_ret
  exact BoolIs.no HF.out (Below.refl _ _)
 have HX : Hid (∀ W, Below w.heap.size w W → TextsA W oa m xs) := fun W h => hx.below h
 have HL : Hid (xs.length = m) := hx.1
 have HS := hid hsz
 clear hx hsz
 go_enter Tryz.func127, Tryz.ntmps127
 go_wp2_with fail
 go_loopw [10] (fun i wr => ∃ j : Nat, j ≤ m ∧ i = .int .i64 (j : Int) ∧ Below w.heap.size w wr ∧ Hid (∀ x ∈ xs.take j, TokOk x)) (fun i _ => m - (intOf i).toNat)
 case atStart => exact ⟨0, Nat.zero_le _, rfl, Below.refl _ _, fun x hx => by simp at hx⟩
 case round =>
  obtain ⟨j, hj, rfl, hbw, HN⟩ := hrel
  by_cases hlt : (j : Int) < (m : Int)
  rotate_left
  ·have HQ : Hid (NamesP xs) := ⟨by
    have h := HN.out
    rw [List.take_of_length_le (by rw [HL.out]; omega)] at h
    exact h, by rw [HL.out]; omega⟩
   clear HN
   go_wp2_with fail
   go_ret
   exact ⟨true, rfl, ⟨fun _ => HQ.out, fun _ => rfl⟩, hbw⟩
  have hjx : j < xs.length := by rw [HL.out]; omega
  obtain ⟨g, rfl, hg, hc⟩ := (HX.out wr hbw).2 j (by omega)
  have hs := HS.out j (by omega)
  obtain ⟨x, hxx⟩ := exq (textAt xs j)
  rw [← hxx] at hc hs
  have HM : Hid (x ∈ xs) := by show _ ∈ _; rw [hxx]; exact textAt_mem xs j hjx
  have HT : Hid (xs.take (j + 1) = xs.take j ++ [x]) := by show _ = _; rw [take_textAt xs j hjx, hxx]
  clear hxx hjx
  go_wp2_with fail
  refine (implTokenOk_any x _ hs).mono ?_
  rintro e w1 ⟨t, rfl, ht, b1⟩
  have hb1 : Below w.heap.size w w1 := hbw.trans (b1.mono hbw.size)
  clear b1 hbw hc
  cases t
  ·have HF : Hid (¬ NamesP xs) := fun h => nomatch ht.2 (h.1 x HM.out)
   clear ht HN
   go_wp2_with fail
   go_ret
   exact BoolIs.no HF.out hb1
  have HN2 : Hid (∀ y ∈ xs.take (j + 1), TokOk y) := by
   intro y hy
   rw [HT.out] at hy
   rcases List.mem_append.1 hy with hy | hy
   · exact HN.out y hy
   · rw [List.mem_singleton.1 hy]; exact ht.1 rfl
  clear ht HN
  go_wp2_with fail
  go_roundw
  case rel => exact ⟨j + 1, by omega, by go_num, hb1, HN2⟩
  case measure => simp [intOf]; omega
theorem fieldOk_any (v : Value) (n base : Nat) (fs : Fs) (k : Nat) (w : World) (hv : FieldsV w base v n fs) (hn : n ≤ 1073741824) (hk : k < n) (hs1 : (nameAt fs k).size ≤ maxLen) (hs2 : (valAt fs k).size ≤ maxLen) :
  Calls Tryz.prog 241 #[v, .int .i64 (k : Int)] w fun e w' => BoolIs (FldOk fs k) w e w' := by
 have HV : Hid (∀ W, Below w.heap.size w W → FieldsV W base v n fs) := fun W h => hv.below h
 obtain ⟨oa, cap, rfl, hrow⟩ := hv.slice
 obtain ⟨g, rfl, row⟩ := hrow k hk
 have hlt2 : (k : Int) < (n : Int) := by omega
 have hc1 := row.name k hk
 have hc2 := row.val k hk
 obtain ⟨nm, hnm⟩ := exq (nameAt fs k)
 obtain ⟨vl, hvl⟩ := exq (valAt fs k)
 have HO : Hid (FldOk fs k ↔ TokOk nm ∧ ValOk vl ∧ atF fs nm = k ∧ nm ≠ clen) := by rw [hnm, hvl]; exact Iff.rfl
 rw [← hnm] at hc1 hs1
 rw [← hvl] at hc2 hs2
 clear hv hrow row hnm hvl
 obtain ⟨r, hr⟩ := exq (w.heap.size)
 have h0 : (w.alloc (.cells #[.string nm, .string vl] 139)).heap.size = w.heap.size + 1 := by simp
 have HB0 : Hid (Below w.heap.size w (w.alloc (.cells #[.string nm, .string vl] 139)) ∧ w.heap.size ≤ (w.alloc (.cells #[.string nm, .string vl] 139)).heap.size) := ⟨(Below.refl _ w).alloc (Nat.le_refl _) _, by omega⟩
 have HR : Hid (∀ W, Below (w.alloc (.cells #[.string nm, .string vl] 139)).heap.size (w.alloc (.cells #[.string nm, .string vl] 139)) W → W.cell? ⟨r, 0, none⟩ = some (.string nm) ∧ W.cell? ⟨r, 1, none⟩ = some (.string vl)) := fun W h => by
  have hh : W.heap[r]? = some (.cells #[.string nm, .string vl] 139) := by rw [hr, h.block _ (by omega)]; exact heap_alloc_new w _
  exact ⟨by simp [World.cell?, hh], by simp [World.cell?, hh]⟩
 go_enter Tryz.func241, Tryz.ntmps241
 go_wp2_with fail
 refine (implTokenOk_any nm _ hs1).mono ?_
 rintro e w1 ⟨b1, rfl, kb1, bb1⟩
 rw [← hr]
 have hb1 : Below w.heap.size w w1 := HB0.out.1.trans (bb1.mono HB0.out.2)
 obtain ⟨d1, d2⟩ := HR.out w1 bb1
 clear h0
 cases b1
 ·have HF : Hid (¬ FldOk fs k) := fun h => by have := kb1.2 (HO.out.1 h).1; cases this
  clear kb1 hc1 hc2 bb1 hr
  go_wp2_with fail
  go_ret
  exact BoolIs.no HF.out hb1
 ·have HT : Hid (TokOk nm) := kb1.1 rfl
  clear kb1 hc1 hc2 hr
  go_wp2_with fail
  refine (implValueOk_any vl _ hs2).mono ?_
  rintro e w2 ⟨b2, rfl, kb2, bb2⟩
  have bb2' := bb1.trans (bb2.mono bb1.size)
  have hb2 : Below w.heap.size w w2 := HB0.out.1.trans (bb2'.mono HB0.out.2)
  obtain ⟨d3, d4⟩ := HR.out w2 bb2'
  cases b2
  ·have HF : Hid (¬ FldOk fs k) := fun h => by have := kb2.2 (HO.out.1 h).2.1; cases this
   clear kb2 bb1 bb2 bb2' hb1 d1 d2
   go_wp2_with fail
   go_ret
   exact BoolIs.no HF.out hb2
  ·have HT2 : Hid (ValOk vl) := kb2.1 rfl
   clear kb2 bb1 bb2 bb2' hb1 d1 d2
   by_cases hcl : nm = clen
   ·have ht := (text_beq _ _).2 hcl
    rw [clen_list] at ht
    have HF : Hid (¬ FldOk fs k) := fun h => (HO.out.1 h).2.2.2 hcl
    clear hcl
    go_wp2_with fail
    go_ret
    exact BoolIs.no HF.out hb2
   have ht := text_beq_no hcl
   rw [clen_list] at ht
   have HC := hid hcl
   clear hcl
   go_wp2_with fail
   refine (place_any _ n base fs nm _ (HV.out w2 hb2) hn).mono ?_
   rintro e w3 ⟨rfl, rfl⟩
   by_cases hat : atF fs nm = k
   ·have HY : Hid (FldOk fs k) := HO.out.2 ⟨HT.out, HT2.out, hat, HC.out⟩
    rw [hat]
    clear hat
    go_wp2
    go_ret
    exact BoolIs.yes HY.out hb2
   have HF : Hid (¬ FldOk fs k) := fun h => hat (HO.out.1 h).2.2.1
   have hne : ((atF fs nm : Int) == (k : Int)) = false := by rw [beq_eq_false_iff_ne]; omega
   clear hat
   go_wp2
   go_ret
   exact BoolIs.no HF.out hb2
theorem ok_any (v : Value) (n base : Nat) (fs : Fs) (w : World) (hv : FieldsV w base v n fs) (hn : n ≤ 1073741824) (hsz : ∀ i, i < n → (nameAt fs i).size ≤ maxLen ∧ (valAt fs i).size ≤ maxLen) :
  Calls Tryz.prog 229 #[v] w fun e w' => BoolIs (FldsOk fs) w e w' := by
 have hl := hv.len
 have HV : Hid (∀ W, Below w.heap.size w W → FieldsV W base v n fs) := fun W h => hv.below h
 have HS := hid hsz
 obtain ⟨oa, cap, rfl, hrow⟩ := hv.slice
 clear hv hrow hsz
 by_cases h8 : (8 : Int) < (n : Int)
 ·have HF : Hid (¬ FldsOk fs) := fun h => by have := h.1; omega
  go_enter Tryz.func229, Tryz.ntmps229
  go_wp2
  go_ret
  exact BoolIs.no HF.out (Below.refl _ _)
 go_enter Tryz.func229, Tryz.ntmps229
 go_wp2
 go_loopw [9] (fun i wr => ∃ k : Nat, k ≤ n ∧ i = .int .i64 (k : Int) ∧ Hid (∀ j, j < k → FldOk fs j) ∧ Below w.heap.size w wr) (fun i _ => n - (intOf i).toNat)
 case atStart => exact ⟨0, Nat.zero_le _, rfl, fun j h => absurd h (by omega), Below.refl _ _⟩
 case round =>
  obtain ⟨k, hk, rfl, hall, hbw⟩ := hrel
  by_cases hlt : k < n
  rotate_left
  ·have HF : Hid (FldsOk fs) := ⟨by omega, fun i hi => hall.out i (by omega)⟩
   go_wp2
   go_ret
   exact BoolIs.yes HF.out hbw
  have hlt2 : (k : Int) < (n : Int) := by omega
  obtain ⟨hs1, hs2⟩ := HS.out k hlt
  go_wp2_with fail
  refine (fieldOk_any _ n base fs k _ (HV.out wr hbw) hn hlt hs1 hs2).mono ?_
  rintro e w1 ⟨b1, rfl, kb1, bb1⟩
  have hb1 : Below w.heap.size w w1 := hbw.trans (bb1.mono hbw.size)
  cases b1
  ·have HF : Hid (¬ FldsOk fs) := fun h => by have := kb1.2 (h.2 k (by omega)); cases this
   clear kb1 bb1
   go_wp2
   go_ret
   exact BoolIs.no HF.out hb1
  ·have HY : Hid (FldOk fs k) := kb1.1 rfl
   clear kb1 bb1
   go_wp2
   go_roundw
   case rel =>
    refine ⟨k + 1, by omega, by go_num, ?_, hb1⟩
    intro j hj
    by_cases e : j = k
    · subst e; exact HY.out
    exact hall.out j (by omega)
   case measure => simp [intOf]; omega
theorem path_cls (n : Int) : PathB n ↔ (cls n ≠ 4 ∧ cls n ≠ 7) := by
 have := cls_spec n
 unfold PathB
 constructor
 · intro h; omega
 · intro h; omega
theorem path_small {n : Int} (h : PathB n) : n < 128 := by unfold PathB at h; omega
theorem isPathRune_any (r : Int) (w : World) :
  Calls Tryz.prog 170 #[.int .i32 r] w fun e w' => BoolIs (PathB r) w e w' := by
 have HP : Hid (PathB r ↔ (cls r ≠ 4 ∧ cls r ≠ 7)) := path_cls r
 go_enter Tryz.func170, Tryz.ntmps170
 go_wp2_with fail
 refine (classOf_any r _).mono ?_
 rintro e w1 ⟨rfl, hb⟩
 generalize cls r = c at HP ⊢
 by_cases h4 : c = 4
 ·have HN : Hid (¬ PathB r) := fun h => (HP.out.1 h).1 h4
  subst h4
  go_wp2_with fail
  go_ret
  exact BoolIs.no HN.out hb
 have h5 : (c != 4) = true := by rw [bne_iff_ne]; exact h4
 by_cases h7 : c = 7
 ·have HN : Hid (¬ PathB r) := fun h => (HP.out.1 h).2 h7
  subst h7
  go_wp2_with fail
  go_ret
  exact BoolIs.no HN.out hb
 have h8 : (c != 7) = true := by rw [bne_iff_ne]; exact h7
 have HY : Hid (PathB r) := HP.out.2 ⟨h4, h7⟩
 go_wp2_with fail
 go_ret
 exact BoolIs.yes HY.out hb
theorem allRunes_path (s : Tx) (w : World) :
  Calls Tryz.prog 169 #[.string s, .func (.func 170) #[] #[]] w fun e w' => BoolIs (AllB PathB s) w e w' := by
 go_enter Tryz.func169, Tryz.ntmps169
 go_wp2
 go_loopw [6] (fun _ wr => ∃ pos : Nat, wr.heap[w.heap.size]? = some (.stringIter s pos) ∧ Below w.heap.size w wr ∧ Hid (AllTo PathB s pos)) (fun _ wr => s.size - wr.iterPos w.heap.size)
 case atStart => exact ⟨0, World.iter_heap _ _ _, (Below.refl _ _).alloc (Nat.le_refl _) _, allTo_zero _ _⟩
 case round =>
  obtain ⟨pos, hh, hbw, hall⟩ := hrel
  by_cases hp : pos < s.size
  rotate_left
  ·have hnx := fun ty => run_next_end_at (P := Tryz.prog) wr w.heap.size s pos ty hh hp
   go_wp2
   go_ret
   exact BoolIs.yes (allTo_end hall.out hp) hbw
  have hnx := fun ty => run_next_any_at (P := Tryz.prog) wr w.heap.size s pos ty hh hp
  go_wp2_with (go_at_call 170; refine (isPathRune_any _ _).mono ?_; rintro e w1 ⟨b, rfl, hbt, hb1⟩)
  ·have hbf : b = false := by simpa using ‹(!b) = true›
   have hno : ¬ PathB ((Utf8.decode s pos).1 : Int) := fun h => by rw [hbt.2 h] at hbf; cases hbf
   go_ret
   exact BoolIs.no (rune_no (fun _ => path_small) s pos hp hno) (iter_step hh hbw hb1).2
  ·have hbf : b = true := by simpa using ‹(!b) = false›
   obtain ⟨hv, hone⟩ := rune_ok (fun _ => path_small) s pos hp (hbt.1 hbf)
   rw [hone] at hb1
   obtain ⟨h1, h2⟩ := iter_step hh hbw hb1
   exact ⟨⟨pos + 1, h1, h2, allTo_succ hall.out hp hv⟩, by rw [iterPos_of h1, iterPos_of hh]; omega⟩
theorem pathOk_any (s : Tx) (w : World) (hs : s.size ≤ maxLen) :
  Calls Tryz.prog 123 #[.string s] w fun e w' => BoolIs (PathOk s) w e w' := by
 unfold maxLen at hs
 by_cases h1 : (1 : Int) ≤ (s.size : Int)
 rotate_left
 ·have HN : Hid (¬ PathOk s) := fun h => by obtain ⟨_, h5, _⟩ := h; omega
  have hd : decide ((1 : Int) ≤ (s.size : Int)) = false := by simpa using h1
  go_enter Tryz.func123, Tryz.ntmps123
  go_wp2_with fail
  go_ret
  exact BoolIs.no HN.out (Below.refl _ _)
 have h0 : 0 < s.size := by omega
 by_cases h2 : (s.size : Int) ≤ 60
 rotate_left
 ·have HN : Hid (¬ PathOk s) := fun h => by obtain ⟨_, _, h5, _⟩ := h; omega
  have hd : decide ((s.size : Int) ≤ 60) = false := by simpa using h2
  go_enter Tryz.func123, Tryz.ntmps123
  go_wp2_with fail
  go_ret
  exact BoolIs.no HN.out (Below.refl _ _)
 by_cases h3 : ((s[0]'h0).toNat : Int) = 47
 rotate_left
 ·have h4 : (((s[0]'h0).toNat : Int) == 47) = false := by rw [beq_eq_false_iff_ne]; exact h3
  have HN : Hid (¬ PathOk s) := fun h => by obtain ⟨_, _, _, _, h5⟩ := h; omega
  clear h3
  go_enter Tryz.func123, Tryz.ntmps123
  go_wp2_with fail
  go_ret
  exact BoolIs.no HN.out (Below.refl _ _)
 have h4 : (((s[0]'h0).toNat : Int) == 47) = true := by rw [beq_iff_eq]; exact h3
 have H3 : Hid ((s[0]'h0).toNat = 47) := by show _ = _; omega
 clear h3
 go_enter Tryz.func123, Tryz.ntmps123
 go_wp2_with fail
 refine (allRunes_path s _).mono ?_
 rintro e w1 ⟨b, rfl, hbt, hb1⟩
 cases b
 ·have HN : Hid (¬ PathOk s) := fun h => by have := hbt.2 h.1; cases this
  clear hbt
  go_wp2_with fail
  go_ret
  exact BoolIs.no HN.out hb1
 ·have HY : Hid (PathOk s) := ⟨hbt.1 rfl, by omega, by omega, h0, H3.out⟩
  clear hbt
  go_wp2_with fail
  go_ret
  exact BoolIs.yes HY.out hb1
def RestP (fs : Fs) (b : Tx) : Prop := FldsOk fs ∧ b.size ≤ 120
theorem restOk_any (v : Value) (b : Tx) (n base : Nat) (fs : Fs) (w : World) (hv : FieldsV w base v n fs) (hn : n ≤ 1073741824) (hsz : WalkF n fs) (hb : b.size ≤ maxLen) :
  Calls Tryz.prog 204 #[.agg #[v, .string b]] w fun e w' => BoolIs (RestP fs b) w e w' := by
 obtain ⟨oa, cap, rfl, _⟩ := hv.slice
 obtain ⟨r, hr⟩ := exq (w.heap.size)
 have HR : Hid (∀ W, Below (w.alloc (.cells #[.slice oa n cap, .string b] 230)).heap.size (w.alloc (.cells #[.slice oa n cap, .string b] 230)) W → (W.cell? ⟨r, 0, none⟩ = some (.slice oa n cap) ∧ W.cell? ⟨r, 1, none⟩ = some (.string b)) ∧ FieldsV W base (.slice oa n cap) n fs ∧ Below w.heap.size w W) := fun W h => by
  have hh := kept_new h
  rw [← hr] at hh
  exact ⟨⟨by simp [World.cell?, hh], by simp [World.cell?, hh]⟩, hv.below (below_new h), below_new h⟩
 obtain ⟨_, hv0, _⟩ := HR.out _ (Below.refl _ _)
 unfold maxLen at hb
 go_enter Tryz.func204, Tryz.ntmps204
 go_wp2_with fail
 refine (ok_any _ n base fs _ hv0 hn hsz).mono ?_
 rintro e w1 ⟨b1, rfl, kb1, bb1⟩
 rw [← hr]
 obtain ⟨⟨c0, c1⟩, _, hbw1⟩ := HR.out w1 bb1
 clear hv hv0 hsz bb1 hr
 cases b1
 ·have HF : Hid (¬ RestP fs b) := fun h => by have := kb1.2 h.1; cases this
  clear kb1
  go_wp2_with fail
  go_ret
  exact BoolIs.no HF.out hbw1
 ·have HT : Hid (FldsOk fs) := kb1.1 rfl
  clear kb1
  by_cases h120 : (b.size : Int) ≤ 120
  ·have HY : Hid (RestP fs b) := ⟨HT.out, by omega⟩
   go_wp2_with fail
   go_ret
   exact BoolIs.yes HY.out hbw1
  have HF : Hid (¬ RestP fs b) := fun h => by have := h.2; omega
  have hd : decide ((b.size : Int) ≤ 120) = false := by simpa using h120
  go_wp2_with fail
  go_ret
  exact BoolIs.no HF.out hbw1
theorem respOk_any (st : Int) (v : Value) (b : Tx) (n base : Nat) (fs : Fs) (w : World) (hv : FieldsV w base v n fs) (hn : n ≤ 1073741824) (hsz : WalkF n fs) (hb : b.size ≤ maxLen) :
  Calls Tryz.prog 168 #[.agg #[v, .string b, .int .i64 st]] w fun e w' => BoolIs (RespP st fs b) w e w' := by
 obtain ⟨oa, cap, rfl, _⟩ := hv.slice
 obtain ⟨r, hr⟩ := exq (w.heap.size)
 have HR : Hid (∀ W, Below (w.alloc (.cells #[.slice oa n cap, .string b, .int .i64 st] 232)).heap.size (w.alloc (.cells #[.slice oa n cap, .string b, .int .i64 st] 232)) W → (W.cell? ⟨r, 0, none⟩ = some (.slice oa n cap) ∧ W.cell? ⟨r, 1, none⟩ = some (.string b) ∧ W.cell? ⟨r, 2, none⟩ = some (.int .i64 st)) ∧ FieldsV W base (.slice oa n cap) n fs ∧ Below w.heap.size w W) := fun W h => by
  have hh := kept_new h
  rw [← hr] at hh
  exact ⟨⟨by simp [World.cell?, hh], by simp [World.cell?, hh], by simp [World.cell?, hh]⟩, hv.below (below_new h), below_new h⟩
 obtain ⟨_, hv0, hbw0⟩ := HR.out _ (Below.refl _ _)
 have HV0 := hid hv0
 have HSZ := hid hsz
 have HBS := hid hb
 clear hv hv0 hsz hb
 by_cases h1 : 100 ≤ st
 rotate_left
 ·have HF : Hid (¬ RespP st fs b) := fun h => h1 h.1.1
  have hd : decide (100 ≤ st) = false := by simpa using h1
  go_enter Tryz.func168, Tryz.ntmps168
  go_wp2_with fail
  go_ret
  exact BoolIs.no HF.out hbw0
 by_cases h2 : st ≤ 599
 rotate_left
 ·have HF : Hid (¬ RespP st fs b) := fun h => h2 h.1.2
  have hd : decide (st ≤ 599) = false := by simpa using h2
  go_enter Tryz.func168, Tryz.ntmps168
  go_wp2_with fail
  go_ret
  exact BoolIs.no HF.out hbw0
 go_enter Tryz.func168, Tryz.ntmps168
 go_wp2_with fail
 refine (restOk_any _ b n base fs _ HV0.out hn HSZ.out HBS.out).mono ?_
 rintro e w3 ⟨b2, rfl, kb2, bb3⟩
 obtain ⟨_, _, hbw3⟩ := HR.out w3 bb3
 clear bb3 hbw0
 cases b2
 ·have HF : Hid (¬ RespP st fs b) := fun h => by have := kb2.2 h.2; cases this
  clear kb2
  go_wp2_with fail
  go_ret
  exact BoolIs.no HF.out hbw3
 ·have HY : Hid (RespP st fs b) := ⟨⟨h1, h2⟩, kb2.1 rfl⟩
  clear kb2
  go_wp2_with fail
  go_ret
  exact BoolIs.yes HY.out hbw3
theorem answerOf_any (m : Int) (oa : Oa) (n cap : Nat) (b : Tx) (w : World) :
  Calls Tryz.prog 167 #[.agg #[.int .i64 m, .slice oa n cap, .string b]] w fun e w' => e = .returned (.agg #[.slice oa n cap, .string b, .int .i64 m]) ∧ Below w.heap.size w w' := by
 go_enter Tryz.func167, Tryz.ntmps167
 go_wp2
 exact bodyPost_ret (v := .agg #[.slice oa n cap, .string b, .int .i64 m]) (by simp [results, Tryz.results167, go_sem]) rfl ⟨rfl, ((Below.refl _ _).alloc (Nat.le_refl _) _).alloc (by simp) _⟩
theorem implRespOk_any (m : Int) (v : Value) (b : Tx) (n base : Nat) (fs : Fs) (w : World) (hv : FieldsV w base v n fs) (hn : n ≤ 1073741824) (hsz : WalkF n fs) (hb : b.size ≤ maxLen) :
  Calls Tryz.prog 122 #[.agg #[.int .i64 m, v, .string b]] w fun e w' => BoolIs (RespP m fs b) w e w' := by
 obtain ⟨oa, cap, rfl, _⟩ := hv.slice
 have hb0 : Below w.heap.size w (w.alloc (.cells #[.int .i64 m, .slice oa n cap, .string b] 49)) := (Below.refl _ _).alloc (Nat.le_refl _) _
 go_enter Tryz.func122, Tryz.ntmps122
 go_wp2_with fail
 refine (answerOf_any m oa n cap b _).mono ?_
 rintro e w1 ⟨rfl, bb1⟩
 have hb1 : Below w.heap.size w w1 := hb0.trans (bb1.mono hb0.size)
 have hv1 := hv.below hb1
 clear bb1 hb0 hv
 go_wp2_with fail
 refine (respOk_any m _ b n base fs _ hv1 hn hsz hb).mono ?_
 rintro e w2 ⟨b1, rfl, kb, bb2⟩
 have hb2 : Below w.heap.size w w2 := hb1.trans (bb2.mono hb1.size)
 have HK : Hid (b1 = true ↔ RespP m fs b) := kb
 clear hv1 hsz hb bb2 hb1 kb
 go_wp2_with fail
 go_ret
 exact ⟨b1, rfl, HK.out, hb2⟩
theorem implObjOk_any (p : Tx) (o1 : Oa) (n1 c1 : Nat) (xs : Ts) (o2 : Oa) (n2 c2 : Nat) (ys : Ts) (st : Int) (v3 : Value) (n3 base : Nat) (fs : Fs) (b : Tx) (t : Int) (w : World) (h1 : TextsA w o1 n1 xs) (h2 : TextsA w o2 n2 ys) (h3 : FieldsV w base v3 n3 fs) (hn1 : n1 ≤ 2000000) (hn2 : n2 ≤ 2000000) (hn3 : n3 ≤ 2000000) (hs1 : ∀ i, i < n1 → (textAt xs i).size ≤ maxLen) (hs2 : ∀ i, i < n2 → (textAt ys i).size ≤ maxLen) (hs3 : WalkF n3 fs) (hc : CopyF fs) (hp : p.size ≤ maxLen) (hx : b.size ≤ maxLen) (hg : (getV fs varyName).size ≤ 1048576) :
  Calls Tryz.prog 82 #[.agg #[.string p, .slice o1 n1 c1, .slice o2 n2 c2, .int .i64 st, v3, .string b, .int .i64 t]] w fun e w' => BoolIs (ObjP p xs ys st fs b t) w e w' := by
 obtain ⟨o3, c3, rfl, _⟩ := h3.slice
 have HV1 : Hid (∀ W, Below w.heap.size w W → TextsA W o1 n1 xs) := fun W h => h1.below h
 have HV2 : Hid (∀ W, Below w.heap.size w W → TextsA W o2 n2 ys) := fun W h => h2.below h
 have HV3 : Hid (∀ W, Below w.heap.size w W → FieldsV W base (.slice o3 n3 c3) n3 fs) := fun W h => h3.below h
 have HL1 : Hid (xs.length = n1) := h1.1
 have HL2 : Hid (ys.length = n2) := h2.1
 have HS1 := hid hs1
 have HS2 := hid hs2
 have HS3 := hid hs3
 have HC : Hid (CopyF fs) := hc
 have HPM := hid hp
 have HX := hid hx
 have HG := hid hg
 obtain ⟨vl, hvl⟩ := exq (varyP fs)
 have HVL : Hid (varyP fs = vl) := hvl.symm
 have HVZ : Hid (vl.length ≤ 2000000) := by
  show _ ≤ _
  have hle := splitL_le (getV fs varyName)
  rw [hvl]
  unfold varyP
  rw [List.length_map]
  omega
 clear h1 h2 h3 hs1 hs2 hs3 hc hp hx hg hvl
 have hb0 := Below.refl w.heap.size w
 go_enter Tryz.func82, Tryz.ntmps82
 go_upto_region 1 with fail
 obtain ⟨q1, hq1⟩ := exq (w.heap.size)
 obtain ⟨w1, hW1⟩ := exq (w.alloc (.cells #[.string p, .slice o1 n1 c1, .slice o2 n2 c2, .int .i64 st, .slice o3 n3 c3, .string b, .int .i64 t] 51))
 have hz1 := hq1.symm
 rw [← hW1]; try rw [← hq1]
 have hs1 := hsa hW1 hz1
 have bw := bal hW1
 have hb1 := hbt hb0 bw
 have B1_1 := hnew hW1 hz1
 clear hb0 bw hW1 hz1
 clear hs1 hq1
 have c1_3 := (k7c B1_1).2.2.2.1
 have c1_4 := (k7c B1_1).2.2.2.2.1
 have c1_5 := (k7c B1_1).2.2.2.2.2.1
 go_wp2_with fail
 refine (implRespOk_any st _ b n3 base fs _ (HV3.out _ hb1) (by omega) HS3.out HX.out).mono ?_
 rintro e w2 ⟨u1, rfl, htu1, bw⟩
 have hb2 := hbt hb1 bw
 have B1_2 := hblk B1_1 bw
 clear hb1 bw
 clear c1_3 c1_4 c1_5
 cases u1
 ·have HF : Hid (¬ ObjP p xs ys st fs b t) := fun h => nomatch htu1.2 h.1
  clear htu1
  go_wp2_with fail
  go_ret
  exact BoolIs.no HF.out hb2
 have HR : Hid (RespP st fs b) := htu1.1 rfl
 clear htu1
 have c1_0 := (k7c B1_2).1
 go_wp2_with fail
 refine (pathOk_any p _ HPM.out).mono ?_
 rintro e w3 ⟨u2, rfl, htu2, bw⟩
 have hb3 := hbt hb2 bw
 have B1_3 := hblk B1_2 bw
 clear hb2 bw
 clear c1_0
 cases u2
 ·have HF : Hid (¬ ObjP p xs ys st fs b t) := fun h => nomatch htu2.2 h.2.1
  clear htu2
  go_wp2_with fail
  go_ret
  exact BoolIs.no HF.out hb3
 have HP : Hid (PathOk p) := htu2.1 rfl
 clear htu2
 have c1_6 := (k7c B1_3).2.2.2.2.2.2
 go_wp2_with fail
 refine (timeOk_any t _).mono ?_
 rintro e w4 ⟨rfl, hwe⟩
 have bw : Below w3.heap.size (w3) w4 := by rw [hwe]; exact Below.refl _ _
 clear hwe
 obtain ⟨u3, hu3⟩ : ∃ u3, u3 = decide ((0 : Int) ≤ t ∧ t ≤ 1000000) := ⟨_, rfl⟩
 rw [← hu3]
 have hb4 := hbt hb3 bw
 have B1_4 := hblk B1_3 bw
 clear hb3 bw
 clear c1_6
 cases u3
 ·have HF : Hid (¬ ObjP p xs ys st fs b t) := fun h => absurd h.2.2.1 (of_decide_eq_false hu3.symm)
  clear hu3
  go_wp2_with fail
  go_ret
  exact BoolIs.no HF.out hb4
 have HT : Hid (0 ≤ t ∧ t ≤ 1000000) := (show 0 ≤ t ∧ t ≤ 1000000 from of_decide_eq_true hu3.symm)
 clear hu3
 go_upto_region 3 with fail
 refine wp_region_held_drew (S := fun W => W.heap[q1]? = some (.cells #[.string p, .slice o1 n1 c1, .slice o2 n2 c2, .int .i64 st, .slice o3 n3 c3, .string b, .int .i64 t] 51)) (by kernel_rfl) B1_4.out (fun _ => ?_)
 obtain ⟨w5, hX⟩ := exq w4.drew
 have bw := bdr hX
 rw [← hX]
 have hb5 := hbt hb4 bw
 have B1_5 := hblk B1_4 bw
 have hS5 := B1_5.out
 clear hb4 bw hX
 refine tkP 0 (.pointer (some ⟨q1, 1, none⟩)) 20 rfl rfl hS5 ?_
 go_frame
 refine tkL 1 (.slice o1 n1 c1) 21 rfl rfl (Or.inl ⟨by rfl, by intro W hW; have hhv1 := hW; have y1 := (cell_of hhv1 1).trans rfl; go_simp⟩) hS5 ?_
 go_frame
 refine tkP 2 (.pointer (some ⟨q1, 3, none⟩)) 22 rfl rfl hS5 (tkP 3 (.pointer (some ⟨q1, 4, none⟩)) 23 rfl rfl hS5 ?_)
 go_frame
 refine tkL 4 (.slice o3 n3 c3) 24 rfl rfl (Or.inl ⟨by rfl, by intro W hW; have hhv1 := hW; have y4 := (cell_of hhv1 4).trans rfl; go_simp⟩) hS5 ?_
 go_frame
 refine rd1 5 rfl (fun K hK => ?_)
 go_simp
 refine (implVaryOf_any _ n3 base fs _ (HV3.out _ hb5) (by omega) HC.out HG.out).mono ?_
 rintro e w6 ⟨vv, rfl, ownY, bw⟩
 obtain ⟨oY, pY, rfl⟩ := slice_of_owns ownY
 rw [HVL.out] at ownY ⊢
 have hb6 := hbt hb5 bw
 have B1_6 := hblk B1_5 bw
 have HOY_6 := hwd ownY hb5.size
 clear ownY
 clear hb5 bw
 have hS6 := B1_6.out
 refine hK.out _ _ hS6 (fun _ => ?_)
 clear hK K hS5
 refine rd1 6 rfl (fun K hK => ?_)
 go_simp
 refine (equalT_any _ _ _ _ _ _ xs vl _ (HV1.out _ hb6) (by omega) (texts_view HOY_6.out) HVZ.out).mono ?_
 rintro e w7 ⟨rfl, bw⟩
 obtain ⟨u5, hu5⟩ := exq (decide (xs = vl))
 rw [← hu5]
 have hb7 := hbt hb6 bw
 have HOY_7 := hown HOY_6 bw
 have B1_7 := hblk B1_6 bw
 clear hb6 bw
 have hS7 := B1_7.out
 refine hK.out _ _ hS7 (fun _ => ?_)
 clear hK K hS6
 refine tkP 7 (.bool u5) 27 rfl rfl hS7 ?_
 go_frame
 cases u5
 ·have HF : Hid (¬ ObjP p xs ys st fs b t) := fun h => absurd (h.2.2.2.2.1.trans HVL.out) (of_decide_eq_false hu5.symm)
  clear hu5
  refine tkN 8 28 rfl rfl hS7 (tkN 9 29 rfl rfl hS7 (tkN 10 30 rfl rfl hS7 ?_))
  go_frame
  refine tkP 11 (.bool false) 31 rfl rfl hS7 (tkP 12 (.bool false) 3 rfl rfl hS7 ?_)
  go_frame
  clear hS7
  refine wdn ?_
  go_wp2_with fail
  go_ret
  exact BoolIs.no HF.out hb7
 have HE : Hid (xs = vl) := (show xs = vl from of_decide_eq_true hu5.symm)
 clear hu5
 refine tkP 8 (.pointer (some ⟨q1, 1, none⟩)) 28 rfl rfl hS7 ?_
 go_frame
 refine tkL 9 (.slice o1 n1 c1) 29 rfl rfl (Or.inl ⟨by rfl, by intro W hW; have hhv1 := hW; have y1 := (cell_of hhv1 1).trans rfl; go_simp⟩) hS7 ?_
 go_frame
 refine rd1 10 rfl (fun K hK => ?_)
 go_simp
 refine (namesOk_any _ _ _ xs _ (HV1.out _ hb7) (by omega) HS1.out).mono ?_
 rintro e w8 ⟨u4, rfl, htu4, bw⟩
 have hb8 := hbt hb7 bw
 have HOY_8 := hown HOY_7 bw
 have B1_8 := hblk B1_7 bw
 clear hb7 bw
 have hS8 := B1_8.out
 refine hK.out _ _ hS8 (fun _ => ?_)
 clear hK K hS7
 refine tkP 11 (.bool u4) 31 rfl rfl hS8 (tkP 12 (.bool u4) 3 rfl rfl hS8 ?_)
 go_frame
 clear hS8
 refine wdn ?_
 cases u4
 ·have HF : Hid (¬ ObjP p xs ys st fs b t) := fun h => nomatch htu4.2 h.2.2.2.1
  clear htu4
  go_wp2_with fail
  go_ret
  exact BoolIs.no HF.out hb8
 have HNM : Hid (NamesP xs) := htu4.1 rfl
 clear htu4
 by_cases hc1 : (n2 : Int) = (n1 : Int)
 rotate_left
 ·have hc1b : ((n2 : Int) == (n1 : Int)) = false := by simpa using hc1
  have hc1n : ((n2 : Int) != (n1 : Int)) = true := by simpa using hc1
  have HF : Hid (¬ ObjP p xs ys st fs b t) := fun h => by have h1 := h.2.2.2.2.2.1; have h2 := HL1.out; have h3 := HL2.out; omega
  have hc1H := hid hc1
  clear hc1
  have c1_1 := (k7c B1_8).2.1
  have c1_2 := (k7c B1_8).2.2.1
  go_wp2_with fail
  go_ret
  exact BoolIs.no HF.out hb8
 have hc1b : ((n2 : Int) == (n1 : Int)) = true := by simpa using hc1
 have hc1n : ((n2 : Int) != (n1 : Int)) = false := by simpa using hc1
 have HEQ := hid hc1
 have hc1H := hid hc1
 clear hc1
 have c1_1 := (k7c B1_8).2.1
 have c1_2 := (k7c B1_8).2.2.1
 go_wp2_with fail
 refine (valuesOk_any _ _ _ ys _ (HV2.out _ hb8) (by omega) HS2.out).mono ?_
 rintro e w9 ⟨u6, rfl, htu6, bw⟩
 have hb9 := hbt hb8 bw
 have HOY_9 := hown HOY_8 bw
 have B1_9 := hblk B1_8 bw
 clear hb8 bw
 clear c1_1 c1_2
 go_wp2_with fail
 go_ret
 exact ⟨u6, rfl, ⟨fun h => ⟨HR.out, HP.out, HT.out, HNM.out, HE.out.trans HVL.out.symm, by have h1 := HL1.out; have h2 := HL2.out; have h3 := HEQ.out; omega, htu6.1 h⟩, fun h => htu6.2 h.2.2.2.2.2.2⟩, hb9⟩
theorem ruleOf_1 (a b : Tx) (t : Int) (w : World) :
  Calls Tryz.prog 129 #[.agg #[.int .i64 1, .string a, .string b, .int .i64 t]] w fun e w' => e = .returned (.iface 237 (.agg #[.string a])) ∧ Below w.heap.size w w' := by
 have hb0 := Below.refl w.heap.size w
 go_enter Tryz.func129, Tryz.ntmps129
 go_upto_region 1 with fail
 obtain ⟨q1, hq1⟩ := exq (w.heap.size)
 obtain ⟨w1, hW1⟩ := exq (w.alloc (.cells #[.int .i64 1, .string a, .string b, .int .i64 t] 111))
 have hz1 := hq1.symm
 rw [← hW1]; try rw [← hq1]
 have hs1 := hsa hW1 hz1
 have bw := bal hW1
 have hb1 := hbt hb0 bw
 have B1_1 := hnew hW1 hz1
 clear hb0 bw hW1 hz1
 clear hs1 hq1
 have c1_0 := (k4c B1_1).1
 have c1_1 := (k4c B1_1).2.1
 go_wp2_with fail
 go_ret
 exact ⟨rfl, hb1⟩
theorem ruleOf_2 (a b : Tx) (t : Int) (w : World) :
  Calls Tryz.prog 129 #[.agg #[.int .i64 2, .string a, .string b, .int .i64 t]] w fun e w' => e = .returned (.iface 239 (.agg #[.string a])) ∧ Below w.heap.size w w' := by
 have hb0 := Below.refl w.heap.size w
 go_enter Tryz.func129, Tryz.ntmps129
 go_upto_region 1 with fail
 obtain ⟨q1, hq1⟩ := exq (w.heap.size)
 obtain ⟨w1, hW1⟩ := exq (w.alloc (.cells #[.int .i64 2, .string a, .string b, .int .i64 t] 111))
 have hz1 := hq1.symm
 rw [← hW1]; try rw [← hq1]
 have hs1 := hsa hW1 hz1
 have bw := bal hW1
 have hb1 := hbt hb0 bw
 have B1_1 := hnew hW1 hz1
 clear hb0 bw hW1 hz1
 clear hs1 hq1
 have c1_0 := (k4c B1_1).1
 have c1_1 := (k4c B1_1).2.1
 go_wp2_with fail
 go_ret
 exact ⟨rfl, hb1⟩
theorem ruleOf_3 (a b : Tx) (t : Int) (w : World) :
  Calls Tryz.prog 129 #[.agg #[.int .i64 3, .string a, .string b, .int .i64 t]] w fun e w' => e = .returned (.iface 241 (.agg #[.string a, .string b])) ∧ Below w.heap.size w w' := by
 have hb0 := Below.refl w.heap.size w
 go_enter Tryz.func129, Tryz.ntmps129
 go_upto_region 1 with fail
 obtain ⟨q1, hq1⟩ := exq (w.heap.size)
 obtain ⟨w1, hW1⟩ := exq (w.alloc (.cells #[.int .i64 3, .string a, .string b, .int .i64 t] 111))
 have hz1 := hq1.symm
 rw [← hW1]; try rw [← hq1]
 have hs1 := hsa hW1 hz1
 have bw := bal hW1
 have hb1 := hbt hb0 bw
 have B1_1 := hnew hW1 hz1
 clear hb0 bw hW1 hz1
 clear hs1 hq1
 have c1_0 := (k4c B1_1).1
 have c1_1 := (k4c B1_1).2.1
 have c1_2 := (k4c B1_1).2.2.1
 go_wp2_with fail
 go_ret
 exact ⟨rfl, hb1⟩
theorem ruleOf_no (k : Int) (a b : Tx) (t : Int) (w : World) (h1 : ¬ k = 1) (h2 : ¬ k = 2) (h3 : ¬ k = 3) :
  Calls Tryz.prog 129 #[.agg #[.int .i64 k, .string a, .string b, .int .i64 t]] w fun e w' => e = .returned .nilIface ∧ Below w.heap.size w w' := by
 have hk1 : ((k : Int) == (1 : Int)) = false := by simpa using h1
 have hk2 : ((k : Int) == (2 : Int)) = false := by simpa using h2
 have hk3 : ((k : Int) == (3 : Int)) = false := by simpa using h3
 clear h1 h2 h3
 have hb0 := Below.refl w.heap.size w
 go_enter Tryz.func129, Tryz.ntmps129
 go_upto_region 1 with fail
 obtain ⟨q1, hq1⟩ := exq (w.heap.size)
 obtain ⟨w1, hW1⟩ := exq (w.alloc (.cells #[.int .i64 k, .string a, .string b, .int .i64 t] 111))
 have hz1 := hq1.symm
 rw [← hW1]; try rw [← hq1]
 have hs1 := hsa hW1 hz1
 have bw := bal hW1
 have hb1 := hbt hb0 bw
 have B1_1 := hnew hW1 hz1
 clear hb0 bw hW1 hz1
 clear hs1 hq1
 have c1_0 := (k4c B1_1).1
 go_wp2_with fail
 go_ret
 exact ⟨rfl, hb1⟩
theorem banOf_1 (a : Tx) (t : Int) (w : World) :
  Calls Tryz.prog 130 #[.iface 237 (.agg #[.string a]), .int .i64 t] w fun e w' => e = .returned (.agg #[.int .i64 1, .string a, .string ⟨#[]⟩, .int .i64 t]) ∧ Below w.heap.size w w' := by
 have hta1 : ∀ W : World, (Instr.typeAssert (.iface 237 (.agg #[.string a])) 193 237 true).run Tryz.prog W = .ok (.tuple #[.agg #[.string a], .bool true]) W := fun _ => by kernel_rfl
 have hta2 : ∀ W : World, (Instr.typeAssert (.iface 237 (.agg #[.string a])) 193 239 true).run Tryz.prog W = .ok (.tuple #[.agg #[.string ⟨#[]⟩], .bool false]) W := fun _ => by kernel_rfl
 have hta3 : ∀ W : World, (Instr.typeAssert (.iface 237 (.agg #[.string a])) 193 241 true).run Tryz.prog W = .ok (.tuple #[.agg #[.string ⟨#[]⟩, .string ⟨#[]⟩], .bool false]) W := fun _ => by kernel_rfl
 have hb0 := Below.refl w.heap.size w
 go_enter Tryz.func130, Tryz.ntmps130
 go_upto_region 1 with fail
 obtain ⟨q1, hq1⟩ := exq (w.heap.size)
 obtain ⟨w1, hW1⟩ := exq (w.alloc (.cells #[.int .i64 0, .string ⟨#[]⟩, .string ⟨#[]⟩, .int .i64 0] 111))
 have hz1 := hq1.symm
 rw [← hW1]; try rw [← hq1]
 have hs1 := hsa hW1 hz1
 have bw := bal hW1
 have hb1 := hbt hb0 bw
 have B1_1 := hnew hW1 hz1
 have Gv1 := hge hz1 hb0
 clear hb0 bw hW1 hz1
 clear hs1 hq1
 go_upto_region 4 with fail
 obtain ⟨q2, hq2⟩ := exq (w1.heap.size)
 obtain ⟨w2, hW2⟩ := exq (w1.alloc (.cells #[.string a] 237))
 have hz2 := hq2.symm
 rw [← hW2]; try rw [← hq2]
 have hs2 := hsa hW2 hz2
 have bw := bal hW2
 have hb2 := hbt hb1 bw
 have B1_2 := hblk B1_1 bw
 have Nv1v2 := hnq B1_1 hz2
 have B2_2 := hnew hW2 hz2
 clear hb1 bw hW2 hz2
 clear hs2 hq2
 have c1_0 := (k4c B1_2).1
 have f1_0 := hfz B1_2 0
 have c1_1 := (k4c B1_2).2.1
 have f1_1 := hfz B1_2 1
 have c1_2 := (k4c B1_2).2.2.1
 have f1_2 := hfz B1_2 2
 have c1_3 := (k4c B1_2).2.2.2
 have f1_3 := hfz B1_2 3
 have c2_0 := k1c B2_2
 go_wp2_with fail
 obtain ⟨w3, hW3⟩ := exq (w2.setCell ⟨q1, 0, none⟩ (.int .i64 1))
 rw [← hW3]
 have hb3 := hbS hW3 hb2 Gv1
 have B2_3 := hset hW3 Nv1v2.out.symm B2_2
 have B1_3 := hput hW3 B1_2
 clear hb2 hW3
 obtain ⟨w4, hW4⟩ := exq (w3.setCell ⟨q1, 1, none⟩ (.string a))
 rw [← hW4]
 have hb4 := hbS hW4 hb3 Gv1
 have B2_4 := hset hW4 Nv1v2.out.symm B2_3
 have B1_4 := hput hW4 B1_3
 clear hb3 hW4
 obtain ⟨w5, hW5⟩ := exq (w4.setCell ⟨q1, 2, none⟩ (.string ⟨#[]⟩))
 rw [← hW5]
 have hb5 := hbS hW5 hb4 Gv1
 have B2_5 := hset hW5 Nv1v2.out.symm B2_4
 have B1_5 := hput hW5 B1_4
 clear hb4 hW5
 obtain ⟨w6, hW6⟩ := exq (w5.setCell ⟨q1, 3, none⟩ (.int .i64 t))
 rw [← hW6]
 have hb6 := hbS hW6 hb5 Gv1
 have B2_6 := hset hW6 Nv1v2.out.symm B2_5
 have B1_6 := hput hW6 B1_5
 clear hb5 hW6
 have kv1_0 := (k4c B1_6).1
 have kv1_1 := (k4c B1_6).2.1
 have kv1_2 := (k4c B1_6).2.2.1
 have kv1_3 := (k4c B1_6).2.2.2
 refine bodyPost_ret (v := .agg #[.int .i64 1, .string a, .string ⟨#[]⟩, .int .i64 t]) (by simp [results, Tryz.results130, go_sem, kv1_0, kv1_1, kv1_2, kv1_3]) rfl ?_
 exact ⟨rfl, hb6⟩
theorem banOf_2 (a : Tx) (t : Int) (w : World) :
  Calls Tryz.prog 130 #[.iface 239 (.agg #[.string a]), .int .i64 t] w fun e w' => e = .returned (.agg #[.int .i64 2, .string a, .string ⟨#[]⟩, .int .i64 t]) ∧ Below w.heap.size w w' := by
 have hta1 : ∀ W : World, (Instr.typeAssert (.iface 239 (.agg #[.string a])) 193 237 true).run Tryz.prog W = .ok (.tuple #[.agg #[.string ⟨#[]⟩], .bool false]) W := fun _ => by kernel_rfl
 have hta2 : ∀ W : World, (Instr.typeAssert (.iface 239 (.agg #[.string a])) 193 239 true).run Tryz.prog W = .ok (.tuple #[.agg #[.string a], .bool true]) W := fun _ => by kernel_rfl
 have hta3 : ∀ W : World, (Instr.typeAssert (.iface 239 (.agg #[.string a])) 193 241 true).run Tryz.prog W = .ok (.tuple #[.agg #[.string ⟨#[]⟩, .string ⟨#[]⟩], .bool false]) W := fun _ => by kernel_rfl
 have hb0 := Below.refl w.heap.size w
 go_enter Tryz.func130, Tryz.ntmps130
 go_upto_region 1 with fail
 obtain ⟨q1, hq1⟩ := exq (w.heap.size)
 obtain ⟨w1, hW1⟩ := exq (w.alloc (.cells #[.int .i64 0, .string ⟨#[]⟩, .string ⟨#[]⟩, .int .i64 0] 111))
 have hz1 := hq1.symm
 rw [← hW1]; try rw [← hq1]
 have hs1 := hsa hW1 hz1
 have bw := bal hW1
 have hb1 := hbt hb0 bw
 have B1_1 := hnew hW1 hz1
 have Gv1 := hge hz1 hb0
 clear hb0 bw hW1 hz1
 clear hs1 hq1
 go_upto_region 7 with fail
 obtain ⟨q2, hq2⟩ := exq (w1.heap.size)
 obtain ⟨w2, hW2⟩ := exq (w1.alloc (.cells #[.string a] 239))
 have hz2 := hq2.symm
 rw [← hW2]; try rw [← hq2]
 have hs2 := hsa hW2 hz2
 have bw := bal hW2
 have hb2 := hbt hb1 bw
 have B1_2 := hblk B1_1 bw
 have Nv1v2 := hnq B1_1 hz2
 have B2_2 := hnew hW2 hz2
 clear hb1 bw hW2 hz2
 clear hs2 hq2
 have c1_0 := (k4c B1_2).1
 have f1_0 := hfz B1_2 0
 have c1_1 := (k4c B1_2).2.1
 have f1_1 := hfz B1_2 1
 have c1_2 := (k4c B1_2).2.2.1
 have f1_2 := hfz B1_2 2
 have c1_3 := (k4c B1_2).2.2.2
 have f1_3 := hfz B1_2 3
 have c2_0 := k1c B2_2
 go_wp2_with fail
 obtain ⟨w3, hW3⟩ := exq (w2.setCell ⟨q1, 0, none⟩ (.int .i64 2))
 rw [← hW3]
 have hb3 := hbS hW3 hb2 Gv1
 have B2_3 := hset hW3 Nv1v2.out.symm B2_2
 have B1_3 := hput hW3 B1_2
 clear hb2 hW3
 obtain ⟨w4, hW4⟩ := exq (w3.setCell ⟨q1, 1, none⟩ (.string a))
 rw [← hW4]
 have hb4 := hbS hW4 hb3 Gv1
 have B2_4 := hset hW4 Nv1v2.out.symm B2_3
 have B1_4 := hput hW4 B1_3
 clear hb3 hW4
 obtain ⟨w5, hW5⟩ := exq (w4.setCell ⟨q1, 2, none⟩ (.string ⟨#[]⟩))
 rw [← hW5]
 have hb5 := hbS hW5 hb4 Gv1
 have B2_5 := hset hW5 Nv1v2.out.symm B2_4
 have B1_5 := hput hW5 B1_4
 clear hb4 hW5
 obtain ⟨w6, hW6⟩ := exq (w5.setCell ⟨q1, 3, none⟩ (.int .i64 t))
 rw [← hW6]
 have hb6 := hbS hW6 hb5 Gv1
 have B2_6 := hset hW6 Nv1v2.out.symm B2_5
 have B1_6 := hput hW6 B1_5
 clear hb5 hW6
 have kv1_0 := (k4c B1_6).1
 have kv1_1 := (k4c B1_6).2.1
 have kv1_2 := (k4c B1_6).2.2.1
 have kv1_3 := (k4c B1_6).2.2.2
 refine bodyPost_ret (v := .agg #[.int .i64 2, .string a, .string ⟨#[]⟩, .int .i64 t]) (by simp [results, Tryz.results130, go_sem, kv1_0, kv1_1, kv1_2, kv1_3]) rfl ?_
 exact ⟨rfl, hb6⟩
theorem banOf_3 (a b : Tx) (t : Int) (w : World) :
  Calls Tryz.prog 130 #[.iface 241 (.agg #[.string a, .string b]), .int .i64 t] w fun e w' => e = .returned (.agg #[.int .i64 3, .string a, .string b, .int .i64 t]) ∧ Below w.heap.size w w' := by
 have hta1 : ∀ W : World, (Instr.typeAssert (.iface 241 (.agg #[.string a, .string b])) 193 237 true).run Tryz.prog W = .ok (.tuple #[.agg #[.string ⟨#[]⟩], .bool false]) W := fun _ => by kernel_rfl
 have hta2 : ∀ W : World, (Instr.typeAssert (.iface 241 (.agg #[.string a, .string b])) 193 239 true).run Tryz.prog W = .ok (.tuple #[.agg #[.string ⟨#[]⟩], .bool false]) W := fun _ => by kernel_rfl
 have hta3 : ∀ W : World, (Instr.typeAssert (.iface 241 (.agg #[.string a, .string b])) 193 241 true).run Tryz.prog W = .ok (.tuple #[.agg #[.string a, .string b], .bool true]) W := fun _ => by kernel_rfl
 have hb0 := Below.refl w.heap.size w
 go_enter Tryz.func130, Tryz.ntmps130
 go_upto_region 1 with fail
 obtain ⟨q1, hq1⟩ := exq (w.heap.size)
 obtain ⟨w1, hW1⟩ := exq (w.alloc (.cells #[.int .i64 0, .string ⟨#[]⟩, .string ⟨#[]⟩, .int .i64 0] 111))
 have hz1 := hq1.symm
 rw [← hW1]; try rw [← hq1]
 have hs1 := hsa hW1 hz1
 have bw := bal hW1
 have hb1 := hbt hb0 bw
 have B1_1 := hnew hW1 hz1
 have Gv1 := hge hz1 hb0
 clear hb0 bw hW1 hz1
 clear hs1 hq1
 go_upto_region 10 with fail
 obtain ⟨q2, hq2⟩ := exq (w1.heap.size)
 obtain ⟨w2, hW2⟩ := exq (w1.alloc (.cells #[.string a, .string b] 241))
 have hz2 := hq2.symm
 rw [← hW2]; try rw [← hq2]
 have hs2 := hsa hW2 hz2
 have bw := bal hW2
 have hb2 := hbt hb1 bw
 have B1_2 := hblk B1_1 bw
 have Nv1v2 := hnq B1_1 hz2
 have B2_2 := hnew hW2 hz2
 clear hb1 bw hW2 hz2
 clear hs2 hq2
 have c1_0 := (k4c B1_2).1
 have f1_0 := hfz B1_2 0
 have c1_1 := (k4c B1_2).2.1
 have f1_1 := hfz B1_2 1
 have c1_2 := (k4c B1_2).2.2.1
 have f1_2 := hfz B1_2 2
 have c1_3 := (k4c B1_2).2.2.2
 have f1_3 := hfz B1_2 3
 have c2_0 := (k2c B2_2).1
 have c2_1 := (k2c B2_2).2
 go_wp2_with fail
 obtain ⟨w3, hW3⟩ := exq (w2.setCell ⟨q1, 0, none⟩ (.int .i64 3))
 rw [← hW3]
 have hb3 := hbS hW3 hb2 Gv1
 have B2_3 := hset hW3 Nv1v2.out.symm B2_2
 have B1_3 := hput hW3 B1_2
 clear hb2 hW3
 obtain ⟨w4, hW4⟩ := exq (w3.setCell ⟨q1, 1, none⟩ (.string a))
 rw [← hW4]
 have hb4 := hbS hW4 hb3 Gv1
 have B2_4 := hset hW4 Nv1v2.out.symm B2_3
 have B1_4 := hput hW4 B1_3
 clear hb3 hW4
 obtain ⟨w5, hW5⟩ := exq (w4.setCell ⟨q1, 2, none⟩ (.string b))
 rw [← hW5]
 have hb5 := hbS hW5 hb4 Gv1
 have B2_5 := hset hW5 Nv1v2.out.symm B2_4
 have B1_5 := hput hW5 B1_4
 clear hb4 hW5
 obtain ⟨w6, hW6⟩ := exq (w5.setCell ⟨q1, 3, none⟩ (.int .i64 t))
 rw [← hW6]
 have hb6 := hbS hW6 hb5 Gv1
 have B2_6 := hset hW6 Nv1v2.out.symm B2_5
 have B1_6 := hput hW6 B1_5
 clear hb5 hW6
 have kv1_0 := (k4c B1_6).1
 have kv1_1 := (k4c B1_6).2.1
 have kv1_2 := (k4c B1_6).2.2.1
 have kv1_3 := (k4c B1_6).2.2.2
 refine bodyPost_ret (v := .agg #[.int .i64 3, .string a, .string b, .int .i64 t]) (by simp [results, Tryz.results130, go_sem, kv1_0, kv1_1, kv1_2, kv1_3]) rfl ?_
 exact ⟨rfl, hb6⟩
theorem right_1 (a : Tx) (w : World) (ha : a.size ≤ maxLen) :
  Calls Tryz.prog 275 #[.agg #[.string a]] w fun e w' => BoolIs (PathOk a) w e w' := by
 have HAM := hid ha
 clear ha
 have hb0 := Below.refl w.heap.size w
 go_enter Tryz.func275, Tryz.ntmps275
 go_upto_region 1 with fail
 obtain ⟨q1, hq1⟩ := exq (w.heap.size)
 obtain ⟨w1, hW1⟩ := exq (w.alloc (.cells #[.string a] 237))
 have hz1 := hq1.symm
 rw [← hW1]; try rw [← hq1]
 have hs1 := hsa hW1 hz1
 have bw := bal hW1
 have hb1 := hbt hb0 bw
 have B1_1 := hnew hW1 hz1
 clear hb0 bw hW1 hz1
 clear hs1 hq1
 have c1_0 := k1c B1_1
 go_wp2_with fail
 refine (pathOk_any a _ HAM.out).mono ?_
 rintro e w2 ⟨u, rfl, htu, bw⟩
 have hb2 := hbt hb1 bw
 have B1_2 := hblk B1_1 bw
 clear hb1 bw
 clear c1_0
 go_wp2_with fail
 go_ret
 exact ⟨u, rfl, htu, hb2⟩
theorem right_2 (a : Tx) (w : World) (ha : a.size ≤ maxLen) :
  Calls Tryz.prog 277 #[.agg #[.string a]] w fun e w' => BoolIs (PathOk a) w e w' := by
 have HAM := hid ha
 clear ha
 have hb0 := Below.refl w.heap.size w
 go_enter Tryz.func277, Tryz.ntmps277
 go_upto_region 1 with fail
 obtain ⟨q1, hq1⟩ := exq (w.heap.size)
 obtain ⟨w1, hW1⟩ := exq (w.alloc (.cells #[.string a] 239))
 have hz1 := hq1.symm
 rw [← hW1]; try rw [← hq1]
 have hs1 := hsa hW1 hz1
 have bw := bal hW1
 have hb1 := hbt hb0 bw
 have B1_1 := hnew hW1 hz1
 clear hb0 bw hW1 hz1
 clear hs1 hq1
 have c1_0 := k1c B1_1
 go_wp2_with fail
 refine (pathOk_any a _ HAM.out).mono ?_
 rintro e w2 ⟨u, rfl, htu, bw⟩
 have hb2 := hbt hb1 bw
 have B1_2 := hblk B1_1 bw
 clear hb1 bw
 clear c1_0
 go_wp2_with fail
 go_ret
 exact ⟨u, rfl, htu, hb2⟩
theorem right_3 (a b : Tx) (w : World) (ha : a.size ≤ maxLen) (hb : b.size ≤ maxLen) :
  Calls Tryz.prog 279 #[.agg #[.string a, .string b]] w fun e w' => BoolIs (TokOk a ∧ ValOk b) w e w' := by
 have HAM := hid ha
 have HBM := hid hb
 clear ha hb
 have hb0 := Below.refl w.heap.size w
 go_enter Tryz.func279, Tryz.ntmps279
 go_upto_region 1 with fail
 obtain ⟨q1, hq1⟩ := exq (w.heap.size)
 obtain ⟨w1, hW1⟩ := exq (w.alloc (.cells #[.string a, .string b] 241))
 have hz1 := hq1.symm
 rw [← hW1]; try rw [← hq1]
 have hs1 := hsa hW1 hz1
 have bw := bal hW1
 have hb1 := hbt hb0 bw
 have B1_1 := hnew hW1 hz1
 clear hb0 bw hW1 hz1
 clear hs1 hq1
 have c1_0 := (k2c B1_1).1
 go_wp2_with fail
 refine (implTokenOk_any a _ HAM.out).mono ?_
 rintro e w2 ⟨u, rfl, htu, bw⟩
 have hb2 := hbt hb1 bw
 have B1_2 := hblk B1_1 bw
 clear hb1 bw
 clear c1_0
 cases u
 ·have HU : Hid (¬ TokOk a) := fun h => nomatch htu.2 h
  clear htu
  go_wp2_with fail
  go_ret
  exact ⟨false, rfl, ⟨fun h => (by cases h), fun h => absurd h.1 HU.out⟩, hb2⟩
 have HU : Hid (TokOk a) := htu.1 rfl
 clear htu
 have c1_1 := (k2c B1_2).2
 go_wp2_with fail
 refine (implValueOk_any b _ HBM.out).mono ?_
 rintro e w3 ⟨v, rfl, htv, bw⟩
 have hb3 := hbt hb2 bw
 have B1_3 := hblk B1_2 bw
 clear hb2 bw
 clear c1_1
 go_wp2_with fail
 go_ret
 exact ⟨v, rfl, ⟨fun h => ⟨HU.out, htv.1 h⟩, fun h => htv.2 h.2⟩, hb3⟩
end Go.Proofs.YtopeegjmpphjnaaGreatDoor
