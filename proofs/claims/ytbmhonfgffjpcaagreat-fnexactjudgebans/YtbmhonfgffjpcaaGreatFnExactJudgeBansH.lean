/- What the proof of FnExactJudgeBans leans on: contracts of the program's and the specification's functions, and plain facts (part 8 of 12). -/
import Derived.Test.YtbmhonfgffjpcaaGreatFnExactJudgeBansG
set_option maxHeartbeats 16000000
set_option maxRecDepth 100000
namespace Go.Proofs.YtbmhonfgffjpcaaGreat
open Go.RowKit
open Go.Lib hiding intOf
/-- A store that was measured. -/
structure ShSmall (s : ShD) : Prop where
 c : s.cs.length ≤ 1048576
 w : s.ws.length ≤ 1048576
 k : s.ks.length ≤ 1048576
 b : s.bl.length ≤ 1048576
 ct : ∀ i, i < s.cs.length → (textAt s.cs i).size ≤ 1048576
 wt : ∀ x ∈ s.ws, x.2.size ≤ 1048576
 ks : ∀ k ∈ s.ks, KpSmall k
 bt : ∀ x ∈ s.bl, x.2.1.size ≤ 1048576 ∧ x.2.2.1.size ≤ 1048576
theorem ShSmall.bm {s : ShD} (h : ShSmall s) : ∀ x ∈ s.bl, x.2.1.size ≤ maxLen ∧ x.2.2.1.size ≤ maxLen := fun x hx => ⟨Nat.le_trans (h.bt x hx).1 (by decide), Nat.le_trans (h.bt x hx).2 (by decide)⟩
theorem ShSmall.kv {s : ShD} (h : ShSmall s) {kv : List (KpD × Value × Value × Value)} (hk : kv.map (·.1) = s.ks) {x : KpD × Value × Value × Value} (hx : x ∈ kv) : KpSmall x.1 := h.ks x.1 (by rw [← hk]; exact List.mem_map.2 ⟨x, hx, rfl⟩)
theorem specShelfOk_any (v1 v2 V VB : Value) (kv : List (KpD × Value × Value × Value)) (s : ShD) (B : Nat) (w : World) (h : ShelfO w B v1 v2 V VB kv s) (hz : ShSmall s) :
  Calls Tryz.prog 79 #[.agg #[v1, v2, V, VB, .int .i64 s.nx, .int .i64 s.sq]] w fun e w' => BoolIs (ShelfP s) w e w' := by
 obtain ⟨o1, c1, e1⟩ := slice_of_owns h.disk.cells
 obtain ⟨o2, c2, e2⟩ := slice_of_owns h.disk.pend
 obtain ⟨o3, c3, e3⟩ := slice_of_owns h.kept.row
 obtain ⟨o4, c4, e4⟩ := slice_of_owns h.bans
 subst e1 e2 e3 e4
 obtain ⟨n1, hn1⟩ := exq (s.cs.length)
 obtain ⟨n2, hn2⟩ := exq (s.ws.length)
 obtain ⟨n3, hn3⟩ := exq kv.length
 obtain ⟨n4, hn4⟩ := exq (s.bl.length)
 rw [← hn1, ← hn2, ← hn3, ← hn4] at h ⊢
 have HLN : Hid (s.cs.length = n1 ∧ s.ws.length = n2 ∧ kv.length = n3 ∧ s.bl.length = n4) := ⟨hn1.symm, hn2.symm, hn3.symm, hn4.symm⟩
 have HKS : Hid (kv.map (·.1) = s.ks) := h.2
 have HZ : Hid (ShSmall s) := hz
 have bn1 : n1 ≤ 1048576 := by rw [hn1]; exact hz.c
 have bn2 : n2 ≤ 1048576 := by rw [hn2]; exact hz.w
 have bn3 : n3 ≤ 1048576 := by rw [hn3, ← List.length_map (f := (·.1)), h.2]; exact hz.k
 have bn4 : n4 ≤ 1048576 := by rw [hn4]; exact hz.b
 have HSH : Hid (∀ W, Below w.heap.size w W → ShelfO W B (.slice o1 n1 c1) (.slice o2 n2 c2) (.slice o3 n3 c3) (.slice o4 n4 c4) kv s) := fun W hb => h.below hb
 have HKP : Hid (∀ W, Below w.heap.size w W → KeptsO W B (.slice o3 n3 c3) kv) := fun W hb => (h.below hb).kept
 have HLK : Hid (kv.length = n3) := hn3.symm
 clear hn1 hn2 hn3 hn4 h hz
 have hb0 : Below w.heap.size w w := Below.refl _ _
 go_enter Tryz.func79, Tryz.ntmps79
 go_upto_region 1 with fail
 obtain ⟨qv1, hqv1⟩ := exq ((w).heap.size)
 obtain ⟨w1, hW1⟩ := exq ((w).alloc (.cells #[.slice o1 n1 c1, .slice o2 n2 c2, .slice o3 n3 c3, .slice o4 n4 c4, .int .i64 s.nx, .int .i64 s.sq] 53))
 have hz1 : (w).heap.size = qv1 := hqv1.symm
 first | rw [← hW1, ← hqv1] | rw [← hW1]
 have hs1 := hsa hW1 hz1
 have bw := bal hW1
 have hb1 := hbt hb0 bw
 have HBv1_1 := hnew hW1 hz1
 clear hb0 bw hW1 hz1
 clear hs1 hqv1
 have cv1_0 := (k6c HBv1_1).1
 have cv1_1 := (k6c HBv1_1).2.1
 go_wp2_with fail
 refine (specDiskOk_any _ _ n1 s.cs n2 s.ws B _ (by have hd := (HSH.out _ hb1).disk; rw [HLN.out.1, HLN.out.2.1] at hd; exact hd) (by omega) (by omega)).mono ?_
 rintro e w2 ⟨ud, rfl, hud, bw⟩
 have hb2 := hbt hb1 bw
 have HBv1_2 := hblk HBv1_1 bw
 clear hb1 HBv1_1 bw
 clear cv1_0 cv1_1
 cases ud with
 | false =>
  have HNud : Hid (¬ (DiskP s.cs s.ws)) := fun h => nomatch hud.2 h
  clear hud
  go_wp2_with fail
  go_ret
  exact BoolIs.no (fun h => HNud.out h.1) hb2
 | true =>
  have HYud : Hid (DiskP s.cs s.ws) := hud.1 rfl
  clear hud
  by_cases hc1 : 5 < (n4 : Int)
  ·
   have HB5 : Hid (¬ n4 ≤ 5) := (by have := hc1; show ¬ _; omega)
   have cv1_3 := (k6c HBv1_2).2.2.2.1
   go_wp2_with fail
   go_ret
   exact BoolIs.no (fun h => by have h1 := h.2.1; have h5 := HB5.out; rw [HLN.out.2.2.2] at h1; omega) hb2
  ·
   have HB5 : Hid (n4 ≤ 5) := (by have := hc1; show _ ≤ _; omega)
   have cv1_3 := (k6c HBv1_2).2.2.2.1
   have cv1_4 := (k6c HBv1_2).2.2.2.2.1
   go_wp2_with fail
   refine (l1In_any s.nx 5 19 _).mono ?_
   rintro e w3 ⟨rfl, hwe⟩
   have bw : Below (w2).heap.size (w2) w3 := by rw [hwe]; exact Below.refl _ _
   clear hwe
   obtain ⟨unx, hunx⟩ : ∃ u, u = decide ((5 : Int) ≤ s.nx ∧ s.nx ≤ 19) := ⟨_, rfl⟩
   rw [← hunx]
   have hb3 := hbt hb2 bw
   have HBv1_3 := hblk HBv1_2 bw
   clear hb2 HBv1_2 bw
   clear cv1_3 cv1_4
   cases unx with
   | false =>
    have HNunx : Hid (¬ (5 ≤ s.nx ∧ s.nx ≤ 19)) := (show ¬ (5 ≤ s.nx ∧ s.nx ≤ 19) from of_decide_eq_false hunx.symm)
    clear hunx
    go_wp2_with fail
    go_ret
    exact BoolIs.no (fun h => HNunx.out h.2.2.1) hb3
   | true =>
    have HYunx : Hid (5 ≤ s.nx ∧ s.nx ≤ 19) := (show (5 ≤ s.nx ∧ s.nx ≤ 19) from of_decide_eq_true hunx.symm)
    clear hunx
    have cv1_5 := (k6c HBv1_3).2.2.2.2.2
    go_wp2_with fail
    refine (l1In_any s.sq 1 100000 _).mono ?_
    rintro e w4 ⟨rfl, hwe⟩
    have bw : Below (w3).heap.size (w3) w4 := by rw [hwe]; exact Below.refl _ _
    clear hwe
    obtain ⟨usq, husq⟩ : ∃ u, u = decide ((1 : Int) ≤ s.sq ∧ s.sq ≤ 100000) := ⟨_, rfl⟩
    rw [← husq]
    have hb4 := hbt hb3 bw
    have HBv1_4 := hblk HBv1_3 bw
    clear hb3 HBv1_3 bw
    clear cv1_5
    cases usq with
    | false =>
     have HNusq : Hid (¬ (1 ≤ s.sq ∧ s.sq ≤ 100000)) := (show ¬ (1 ≤ s.sq ∧ s.sq ≤ 100000) from of_decide_eq_false husq.symm)
     clear husq
     go_wp2_with fail
     go_ret
     exact BoolIs.no (fun h => HNusq.out h.2.2.2.1) hb4
    | true =>
     have HYusq : Hid (1 ≤ s.sq ∧ s.sq ≤ 100000) := (show (1 ≤ s.sq ∧ s.sq ≤ 100000) from of_decide_eq_true husq.symm)
     clear husq
     have bq1 := HYusq.out.1
     have bq2 := HYusq.out.2
     have hwq : IntKind.i64.wrap (s.sq - 1) = s.sq - 1 := by rw [IntKind.wrap_i64]; omega
     go_wp2_with fail
     go_loopw [3] (fun i wr => ∃ j : Nat, j ≤ n4 ∧ i = .int .i64 (j : Int) ∧ Hid (Below w.heap.size w (wr) ∧ (wr).heap[qv1]? = some (.cells #[.slice o1 n1 c1, .slice o2 n2 c2, .slice o3 n3 c3, .slice o4 n4 c4, .int .i64 s.nx, .int .i64 s.sq] 53)) ∧ Hid (∀ x ∈ s.bl.take j, BanP x.1 x.2.1 x.2.2.1 x.2.2.2)) (fun i _ => n4 - (intOf i).toNat)
     case atStart => exact ⟨0, Nat.zero_le _, rfl, ⟨hb4, HBv1_4.out⟩, fun x hx => by simp at hx⟩
     case round =>
      obtain ⟨j, hj, rfl, HW, HN⟩ := hrel
      by_cases hlt : (j : Int) < (n4 : Int)
      ·
       have hb5 := HW.out.1
       have HBv1_5 : Hid ((wr).heap[qv1]? = some (.cells #[.slice o1 n1 c1, .slice o2 n2 c2, .slice o3 n3 c3, .slice o4 n4 c4, .int .i64 s.nx, .int .i64 s.sq] 53)) := HW.out.2
       clear HW hb4 HBv1_4
       have hbn := (HSH.out _ hb5).bans
       try rw [HLN.out.2.2.2] at hbn
       have hbv := ban_view hbn
       clear hbn
       obtain ⟨g4, hog, hgl, r1, r2, r3, r4⟩ := hbv.2 j (by first | omega | (rw [HLN.out.2.2.2]; omega))
       clear hbv
       subst hog
       obtain ⟨y, hy⟩ := exq (banAt s.bl j)
       rw [← hy] at r1 r2 r3 r4
       have HM : Hid (y ∈ s.bl) := by show _ ∈ _; rw [hy]; exact banAt_mem s.bl j (by rw [HLN.out.2.2.2]; omega)
       have HTK : Hid (s.bl.take (j + 1) = s.bl.take j ++ [y]) := by show _ = _; rw [hy]; exact take_banAt s.bl j (by rw [HLN.out.2.2.2]; omega)
       clear hy hgl
       obtain ⟨y0, y1, y2, y3⟩ := y
       dsimp only at r1 r2 r3 r4
       have cv1_3 := (k6c HBv1_5).2.2.2.1
       go_wp2_with fail
       refine (specBanOk_any y0 y1 y2 y3 _ (HZ.out.bm _ HM.out).1 (HZ.out.bm _ HM.out).2).mono ?_
       rintro e w6 ⟨ub, rfl, hub, bw⟩
       have hb6 := hbt hb5 bw
       have HBv1_6 := hblk HBv1_5 bw
       clear hb5 HBv1_5 bw
       clear r1 r2 r3 r4 cv1_3
       cases ub with
       | false =>
        have HNub : Hid (¬ (BanP y0 y1 y2 y3)) := fun h => nomatch hub.2 h
        clear hub
        go_wp2_with fail
        go_ret
        exact BoolIs.no (fun h => HNub.out (h.2.2.2.2.1 _ HM.out)) hb6
       | true =>
        have HYub : Hid (BanP y0 y1 y2 y3) := hub.1 rfl
        clear hub
        have HN2 : Hid (∀ x ∈ s.bl.take (j + 1), BanP x.1 x.2.1 x.2.2.1 x.2.2.2) := fun x hx => by
         rw [HTK.out] at hx
         rcases List.mem_append.1 hx with hx | hx
         · exact HN.out x hx
         · rw [List.mem_singleton.1 hx]; exact HYub.out
        go_wp2_with fail
        go_roundw
        case rel => exact ⟨j + 1, by omega, by go_num, ⟨hb6, HBv1_6.out⟩, HN2⟩
        case measure => simp [intOf]; omega
      ·
       have hb5 := HW.out.1
       have HBv1_5 : Hid ((wr).heap[qv1]? = some (.cells #[.slice o1 n1 c1, .slice o2 n2 c2, .slice o3 n3 c3, .slice o4 n4 c4, .int .i64 s.nx, .int .i64 s.sq] 53)) := HW.out.2
       clear HW hb4 HBv1_4
       have HAL : Hid (∀ x ∈ s.bl, BanP x.1 x.2.1 x.2.2.1 x.2.2.2) := fun x hx => HN.out x (by rw [List.take_of_length_le (by rw [HLN.out.2.2.2]; omega)]; exact hx)
       clear HN
       have cv1_3 := (k6c HBv1_5).2.2.2.1
       go_wp2_with fail
       clear cv1_3
       obtain ⟨wA, hwA⟩ := exq wr
       rw [← hwA] at hb5 HBv1_5 ⊢
       clear hwA
       go_loopw [4] (fun i wr => ∃ i' : Nat, i' ≤ n3 ∧ i = .int .i64 (i' : Int) ∧ Hid (Below w.heap.size w (wr) ∧ (wr).heap[qv1]? = some (.cells #[.slice o1 n1 c1, .slice o2 n2 c2, .slice o3 n3 c3, .slice o4 n4 c4, .int .i64 s.nx, .int .i64 s.sq] 53)) ∧ Hid (∀ m, m < i' → KpOk s.ks s.sq m)) (fun i _ => n3 - (intOf i).toNat)
       case atStart => exact ⟨0, Nat.zero_le _, rfl, ⟨hb5, HBv1_5.out⟩, fun m hm => absurd hm (by omega)⟩
       case round =>
        obtain ⟨i, hi, rfl, HW, HN⟩ := hrel
        by_cases hlt : (i : Int) < (n3 : Int)
        ·
         have hb6 := HW.out.1
         have HBv1_6 : Hid ((wr).heap[qv1]? = some (.cells #[.slice o1 n1 c1, .slice o2 n2 c2, .slice o3 n3 c3, .slice o4 n4 c4, .int .i64 s.nx, .int .i64 s.sq] 53)) := HW.out.2
         clear HW hb5 HBv1_5
         obtain ⟨g3, p3, hV, _, _⟩ := (HKP.out _ hb6).look i (by rw [HLK.out]; omega)
         rw [HLK.out] at hV
         injection hV with hV1 hV2 hV3
         subst hV1 hV3
         clear hV2
         obtain ⟨xX, hxX⟩ := exq (kvAt kv i)
         have HMx : Hid (xX ∈ kv) := by show _ ∈ _; rw [hxX]; exact kvAt_mem kv i (by rw [HLK.out]; omega)
         have HEx : Hid (kpAt s.ks i = xX.1) := by show _ = _; rw [hxX, ← HKS.out]; exact (kvAt_fst kv i (by rw [HLK.out]; omega)).symm
         have HTKx : Hid (kv.take (i + 1) = kv.take i ++ [xX]) := by show _ = _; rw [hxX]; exact kvAt_take kv i (by rw [HLK.out]; omega)
         have HKx : Hid (∀ W, Below w.heap.size w W → KpAt W g3 i xX) := fun W hb => by
          obtain ⟨g', p', hV, _, hc⟩ := (HKP.out W hb).look i (by rw [HLK.out]; omega)
          injection hV with hV1 _ _
          cases hV1
          rw [hxX]
          exact hc
         clear hxX
         obtain ⟨x, kuv1, kuv2, kuv3⟩ := xX
         obtain ⟨ku1, kuc1, hu⟩ := slice_of_owns ((HKP.out _ hb6).names HMx.out)
         have hu' : kuv1 = .slice ku1 x.xs.length kuc1 := hu
         subst hu'
         clear hu
         obtain ⟨ku2, kuc2, hu⟩ := slice_of_owns ((HKP.out _ hb6).vals HMx.out)
         have hu' : kuv2 = .slice ku2 x.ys.length kuc2 := hu
         subst hu'
         clear hu
         obtain ⟨ku3, kuc3, hu⟩ := slice_of_owns ((HKP.out _ hb6).flds HMx.out)
         have hu' : kuv3 = .slice ku3 x.fs.length kuc3 := hu
         subst hu'
         clear hu
         have r0x := (HKx.out _ hb6).c0
         have r1x := (HKx.out _ hb6).c1
         have r2x := (HKx.out _ hb6).c2
         have r3x := (HKx.out _ hb6).c3
         have r4x := (HKx.out _ hb6).c4
         have r5x := (HKx.out _ hb6).c5
         have r6x := (HKx.out _ hb6).c6
         have r7x := (HKx.out _ hb6).c7
         have r8x := (HKx.out _ hb6).c8
         dsimp only at r0x r1x r2x r3x r4x r5x r6x r7x r8x
         have cv1_2 := (k6c HBv1_6).2.2.1
         go_upto_region 12 with fail
         obtain ⟨qv2, hqv2⟩ := exq ((wr).heap.size)
         obtain ⟨w7, hW7⟩ := exq ((wr).alloc (.cells #[.string x.p, .slice ku1 x.xs.length kuc1, .slice ku2 x.ys.length kuc2, .int .i64 x.st, .slice ku3 x.fs.length kuc3, .string x.b, .int .i64 x.t, .int .i64 x.a, .int .i64 x.q] 103))
         have hz7 : (wr).heap.size = qv2 := hqv2.symm
         first | rw [← hW7, ← hqv2] | rw [← hW7]
         have hs7 := hsa hW7 hz7
         have bw := bal hW7
         have hb7 := hbt hb6 bw
         have HBv1_7 := hblk HBv1_6 bw
         have HBv2_7 := hnew hW7 hz7
         clear hb6 HBv1_6 bw hW7 hz7
         clear hs7 hqv2
         clear r0x r1x r2x r3x r4x r5x r6x r7x r8x cv1_2
         go_upto_region 12 with fail
         by_cases hi0 : (0 : Int) < (i : Int)
         ·
          obtain ⟨m, hm⟩ : ∃ m : Nat, (i : Int) - 1 = (m : Int) := ⟨i - 1, by omega⟩
          have hi0n : 0 < i := by omega
          have hmn : ¬ n3 ≤ m := by omega
          have hwm : IntKind.i64.wrap (m : Int) = (m : Int) := by rw [IntKind.wrap_i64]; omega
          obtain ⟨zX, hzX⟩ := exq (kvAt kv m)
          have HMz : Hid (zX ∈ kv) := by show _ ∈ _; rw [hzX]; exact kvAt_mem kv m (by rw [HLK.out]; omega)
          have HEz : Hid (kpAt s.ks m = zX.1) := by show _ = _; rw [hzX, ← HKS.out]; exact (kvAt_fst kv m (by rw [HLK.out]; omega)).symm
          have HTKz : Hid (kv.take (m + 1) = kv.take m ++ [zX]) := by show _ = _; rw [hzX]; exact kvAt_take kv m (by rw [HLK.out]; omega)
          have HKz : Hid (∀ W, Below w.heap.size w W → KpAt W g3 m zX) := fun W hb => by
           obtain ⟨g', p', hV, _, hc⟩ := (HKP.out W hb).look m (by rw [HLK.out]; omega)
           injection hV with hV1 _ _
           cases hV1
           rw [hzX]
           exact hc
          clear hzX
          obtain ⟨z, ktv1, ktv2, ktv3⟩ := zX
          obtain ⟨kt1, ktc1, hu⟩ := slice_of_owns ((HKP.out _ hb7).names HMz.out)
          have hu' : ktv1 = .slice kt1 z.xs.length ktc1 := hu
          subst hu'
          clear hu
          obtain ⟨kt2, ktc2, hu⟩ := slice_of_owns ((HKP.out _ hb7).vals HMz.out)
          have hu' : ktv2 = .slice kt2 z.ys.length ktc2 := hu
          subst hu'
          clear hu
          obtain ⟨kt3, ktc3, hu⟩ := slice_of_owns ((HKP.out _ hb7).flds HMz.out)
          have hu' : ktv3 = .slice kt3 z.fs.length ktc3 := hu
          subst hu'
          clear hu
          have HEL3 : Hid (∀ W, Below w.heap.size w W → (W.cell? ⟨g3, m * 9, none⟩ = some (.string z.p) ∧ W.cell? ⟨g3, m * 9 + 1, none⟩ = some (.slice kt1 z.xs.length ktc1) ∧ W.cell? ⟨g3, m * 9 + 2, none⟩ = some (.slice kt2 z.ys.length ktc2) ∧ W.cell? ⟨g3, m * 9 + 3, none⟩ = some (.int .i64 z.st) ∧ W.cell? ⟨g3, m * 9 + 4, none⟩ = some (.slice kt3 z.fs.length ktc3) ∧ W.cell? ⟨g3, m * 9 + 5, none⟩ = some (.string z.b) ∧ W.cell? ⟨g3, m * 9 + 6, none⟩ = some (.int .i64 z.t) ∧ W.cell? ⟨g3, m * 9 + 7, none⟩ = some (.int .i64 z.a) ∧ W.cell? ⟨g3, m * 9 + 8, none⟩ = some (.int .i64 z.q))) := fun W hb => by
           have c := HKz.out W hb
           exact ⟨c.c0, c.c1, c.c2, c.c3, c.c4, c.c5, c.c6, c.c7, c.c8⟩
          have HIM : Hid (i = m + 1) := (by show _ = _; omega)
          go_upto_region 12 with fail
          refine wp_region_held_drew (S := fun W => W.heap[qv2]? = some (.cells #[.string x.p, .slice ku1 x.xs.length kuc1, .slice ku2 x.ys.length kuc2, .int .i64 x.st, .slice ku3 x.fs.length kuc3, .string x.b, .int .i64 x.t, .int .i64 x.a, .int .i64 x.q] 103) ∧ W.heap[qv1]? = some (.cells #[.slice o1 n1 c1, .slice o2 n2 c2, .slice (some ⟨g3, 0, none⟩) n3 c3, .slice o4 n4 c4, .int .i64 s.nx, .int .i64 s.sq] 53) ∧ (W.cell? ⟨g3, m * 9, none⟩ = some (.string z.p) ∧ W.cell? ⟨g3, m * 9 + 1, none⟩ = some (.slice kt1 z.xs.length ktc1) ∧ W.cell? ⟨g3, m * 9 + 2, none⟩ = some (.slice kt2 z.ys.length ktc2) ∧ W.cell? ⟨g3, m * 9 + 3, none⟩ = some (.int .i64 z.st) ∧ W.cell? ⟨g3, m * 9 + 4, none⟩ = some (.slice kt3 z.fs.length ktc3) ∧ W.cell? ⟨g3, m * 9 + 5, none⟩ = some (.string z.b) ∧ W.cell? ⟨g3, m * 9 + 6, none⟩ = some (.int .i64 z.t) ∧ W.cell? ⟨g3, m * 9 + 7, none⟩ = some (.int .i64 z.a) ∧ W.cell? ⟨g3, m * 9 + 8, none⟩ = some (.int .i64 z.q))) (by kernel_rfl) ⟨HBv2_7.out, HBv1_7.out, (by first | exact HEL3.out _ hb7 | exact HEL3.out _ hb7.drew)⟩ (fun _ => ?_)
          obtain ⟨w8, hX⟩ := exq w7.drew
          have bw := bdr hX
          rw [← hX]
          have hb8 := hbt hb7 bw
          have HM8 := hsz bw
          have HBv1_8 := hblk HBv1_7 bw
          have HBv2_8 := hblk HBv2_7 bw
          have hS8 : w8.heap[qv2]? = some (.cells #[.string x.p, .slice ku1 x.xs.length kuc1, .slice ku2 x.ys.length kuc2, .int .i64 x.st, .slice ku3 x.fs.length kuc3, .string x.b, .int .i64 x.t, .int .i64 x.a, .int .i64 x.q] 103) ∧ w8.heap[qv1]? = some (.cells #[.slice o1 n1 c1, .slice o2 n2 c2, .slice (some ⟨g3, 0, none⟩) n3 c3, .slice o4 n4 c4, .int .i64 s.nx, .int .i64 s.sq] 53) ∧ (w8.cell? ⟨g3, m * 9, none⟩ = some (.string z.p) ∧ w8.cell? ⟨g3, m * 9 + 1, none⟩ = some (.slice kt1 z.xs.length ktc1) ∧ w8.cell? ⟨g3, m * 9 + 2, none⟩ = some (.slice kt2 z.ys.length ktc2) ∧ w8.cell? ⟨g3, m * 9 + 3, none⟩ = some (.int .i64 z.st) ∧ w8.cell? ⟨g3, m * 9 + 4, none⟩ = some (.slice kt3 z.fs.length ktc3) ∧ w8.cell? ⟨g3, m * 9 + 5, none⟩ = some (.string z.b) ∧ w8.cell? ⟨g3, m * 9 + 6, none⟩ = some (.int .i64 z.t) ∧ w8.cell? ⟨g3, m * 9 + 7, none⟩ = some (.int .i64 z.a) ∧ w8.cell? ⟨g3, m * 9 + 8, none⟩ = some (.int .i64 z.q)) := ⟨HBv2_8.out, HBv1_8.out, (by first | exact HEL3.out _ hb8 | exact HEL3.out _ hb8.drew)⟩
          clear hb7 HBv1_7 HBv2_7 bw hX
          refine tkP 0 (.pointer (some ⟨qv2, 0, none⟩)) 55 rfl rfl hS8 ?_
          go_frame
          refine tkL 1 (.agg #[.string x.p, .slice ku1 x.xs.length kuc1, .slice ku2 x.ys.length kuc2, .int .i64 x.st, .slice ku3 x.fs.length kuc3, .string x.b, .int .i64 x.t]) 56 rfl rfl (Or.inl ⟨by rfl, by intro W hW; obtain ⟨hhv2, hhv1, hhE_3⟩ := hW; have y0 := (cell_of hhv2 0).trans rfl; have y1 := (cell_of hhv2 1).trans rfl; have y2 := (cell_of hhv2 2).trans rfl; have y3 := (cell_of hhv2 3).trans rfl; have y4 := (cell_of hhv2 4).trans rfl; have y5 := (cell_of hhv2 5).trans rfl; have y6 := (cell_of hhv2 6).trans rfl; go_simp⟩) hS8 ?_
          go_frame
          refine rd1 2 rfl (fun K hK => ?_)
          go_simp
          refine (specObjOk_k x _ _ _ _ ((HSH.out _ hb8).kept.read HMx.out) (HZ.out.kv HKS.out HMx.out)).mono ?_
          rintro e w9 ⟨uo, rfl, huo, bw⟩
          have hb9 := hbt hb8 bw
          have HM9 := hsz bw
          have HBv1_9 := hblk HBv1_8 bw
          have HBv2_9 := hblk HBv2_8 bw
          clear hb8 HBv1_8 HBv2_8 bw
          have hS9 : w9.heap[qv2]? = some (.cells #[.string x.p, .slice ku1 x.xs.length kuc1, .slice ku2 x.ys.length kuc2, .int .i64 x.st, .slice ku3 x.fs.length kuc3, .string x.b, .int .i64 x.t, .int .i64 x.a, .int .i64 x.q] 103) ∧ w9.heap[qv1]? = some (.cells #[.slice o1 n1 c1, .slice o2 n2 c2, .slice (some ⟨g3, 0, none⟩) n3 c3, .slice o4 n4 c4, .int .i64 s.nx, .int .i64 s.sq] 53) ∧ (w9.cell? ⟨g3, m * 9, none⟩ = some (.string z.p) ∧ w9.cell? ⟨g3, m * 9 + 1, none⟩ = some (.slice kt1 z.xs.length ktc1) ∧ w9.cell? ⟨g3, m * 9 + 2, none⟩ = some (.slice kt2 z.ys.length ktc2) ∧ w9.cell? ⟨g3, m * 9 + 3, none⟩ = some (.int .i64 z.st) ∧ w9.cell? ⟨g3, m * 9 + 4, none⟩ = some (.slice kt3 z.fs.length ktc3) ∧ w9.cell? ⟨g3, m * 9 + 5, none⟩ = some (.string z.b) ∧ w9.cell? ⟨g3, m * 9 + 6, none⟩ = some (.int .i64 z.t) ∧ w9.cell? ⟨g3, m * 9 + 7, none⟩ = some (.int .i64 z.a) ∧ w9.cell? ⟨g3, m * 9 + 8, none⟩ = some (.int .i64 z.q)) := ⟨HBv2_9.out, HBv1_9.out, (by first | exact HEL3.out _ hb9 | exact HEL3.out _ hb9.drew)⟩
          refine hK.out _ _ hS9 (fun _ => ?_)
          clear hK K hS8
          cases uo with
          | false =>
           have HNuo : Hid (¬ (ObjK x)) := fun h => nomatch huo.2 h
           clear huo
           refine tkP 3 (.bool true) 58 rfl rfl hS9 ?_
           go_frame
           refine tkP 4 (.bool true) 59 rfl rfl hS9 ?_
           go_frame
           refine tkN 5 60 rfl rfl hS9 ?_
           go_frame
           refine tkN 6 61 rfl rfl hS9 ?_
           go_frame
           refine tkN 7 62 rfl rfl hS9 ?_
           go_frame
           refine tkN 8 63 rfl rfl hS9 ?_
           go_frame
           refine tkP 9 (.bool true) 64 rfl rfl hS9 ?_
           go_frame
           refine tkP 10 (.bool true) 65 rfl rfl hS9 ?_
           go_frame
           refine tkN 11 66 rfl rfl hS9 ?_
           go_frame
           refine tkN 12 67 rfl rfl hS9 ?_
           go_frame
           refine tkN 13 68 rfl rfl hS9 ?_
           go_frame
           refine tkN 14 69 rfl rfl hS9 ?_
           go_frame
           refine tkN 15 70 rfl rfl hS9 ?_
           go_frame
           refine tkN 16 71 rfl rfl hS9 ?_
           go_frame
           refine tkN 17 72 rfl rfl hS9 ?_
           go_frame
           refine tkP 18 (.bool true) 73 rfl rfl hS9 ?_
           go_frame
           refine tkP 19 (.bool true) 74 rfl rfl hS9 ?_
           go_frame
           refine tkN 20 75 rfl rfl hS9 ?_
           go_frame
           refine tkN 21 76 rfl rfl hS9 ?_
           go_frame
           refine tkN 22 77 rfl rfl hS9 ?_
           go_frame
           refine tkN 23 78 rfl rfl hS9 ?_
           go_frame
           refine tkN 24 79 rfl rfl hS9 ?_
           go_frame
           refine tkN 25 80 rfl rfl hS9 ?_
           go_frame
           refine tkN 26 81 rfl rfl hS9 ?_
           go_frame
           refine tkN 27 82 rfl rfl hS9 ?_
           go_frame
           refine tkN 28 83 rfl rfl hS9 ?_
           go_frame
           refine tkN 29 84 rfl rfl hS9 ?_
           go_frame
           refine tkN 30 85 rfl rfl hS9 ?_
           go_frame
           refine tkN 31 86 rfl rfl hS9 ?_
           go_frame
           refine tkN 32 87 rfl rfl hS9 ?_
           go_frame
           refine tkN 33 88 rfl rfl hS9 ?_
           go_frame
           refine tkP 34 (.bool true) 89 rfl rfl hS9 ?_
           go_frame
           clear hS9
           refine wpAnyH_done (by kernel_rfl) ?_ _
           go_wp2_with fail
           go_ret
           exact BoolIs.no (fun h => by have hk := h.2.2.2.2.2 i (by rw [← HKS.out, List.length_map, HLN.out.2.2.1]; omega); unfold KpOk at hk; rw [HEx.out] at hk; exact HNuo.out hk.1) hb9
          | true =>
           have HYuo : Hid (ObjK x) := huo.1 rfl
           clear huo
           refine tkP 3 (.bool false) 58 rfl rfl hS9 ?_
           go_frame
           refine tkP 4 (.bool false) 59 rfl rfl hS9 ?_
           go_frame
           refine tkP 5 (.pointer (some ⟨qv2, 7, none⟩)) 60 rfl rfl hS9 ?_
           go_frame
           refine tkL 6 (.int .i64 x.a) 61 rfl rfl (Or.inl ⟨by rfl, by intro W hW; obtain ⟨hhv2, hhv1, hhE_3⟩ := hW; have y7 := (cell_of hhv2 7).trans rfl; go_simp⟩) hS9 ?_
           go_frame
           refine rd1 7 rfl (fun K hK => ?_)
           go_simp
           refine (l1In_any x.a 5 19 _).mono ?_
           rintro e w10 ⟨rfl, hwe⟩
           have bw : Below (w9).heap.size (w9) w10 := by rw [hwe]; exact Below.refl _ _
           clear hwe
           obtain ⟨uka, huka⟩ : ∃ u, u = decide ((5 : Int) ≤ x.a ∧ x.a ≤ 19) := ⟨_, rfl⟩
           rw [← huka]
           have hb10 := hbt hb9 bw
           have HM10 := hsz bw
           have HBv1_10 := hblk HBv1_9 bw
           have HBv2_10 := hblk HBv2_9 bw
           clear hb9 HBv1_9 HBv2_9 bw
           have hS10 : w10.heap[qv2]? = some (.cells #[.string x.p, .slice ku1 x.xs.length kuc1, .slice ku2 x.ys.length kuc2, .int .i64 x.st, .slice ku3 x.fs.length kuc3, .string x.b, .int .i64 x.t, .int .i64 x.a, .int .i64 x.q] 103) ∧ w10.heap[qv1]? = some (.cells #[.slice o1 n1 c1, .slice o2 n2 c2, .slice (some ⟨g3, 0, none⟩) n3 c3, .slice o4 n4 c4, .int .i64 s.nx, .int .i64 s.sq] 53) ∧ (w10.cell? ⟨g3, m * 9, none⟩ = some (.string z.p) ∧ w10.cell? ⟨g3, m * 9 + 1, none⟩ = some (.slice kt1 z.xs.length ktc1) ∧ w10.cell? ⟨g3, m * 9 + 2, none⟩ = some (.slice kt2 z.ys.length ktc2) ∧ w10.cell? ⟨g3, m * 9 + 3, none⟩ = some (.int .i64 z.st) ∧ w10.cell? ⟨g3, m * 9 + 4, none⟩ = some (.slice kt3 z.fs.length ktc3) ∧ w10.cell? ⟨g3, m * 9 + 5, none⟩ = some (.string z.b) ∧ w10.cell? ⟨g3, m * 9 + 6, none⟩ = some (.int .i64 z.t) ∧ w10.cell? ⟨g3, m * 9 + 7, none⟩ = some (.int .i64 z.a) ∧ w10.cell? ⟨g3, m * 9 + 8, none⟩ = some (.int .i64 z.q)) := ⟨HBv2_10.out, HBv1_10.out, (by first | exact HEL3.out _ hb10 | exact HEL3.out _ hb10.drew)⟩
           refine hK.out _ _ hS10 (fun _ => ?_)
           clear hK K hS9
           cases uka with
           | false =>
            have HNuka : Hid (¬ (5 ≤ x.a ∧ x.a ≤ 19)) := (show ¬ (5 ≤ x.a ∧ x.a ≤ 19) from of_decide_eq_false huka.symm)
            clear huka
            refine tkP 8 (.bool true) 63 rfl rfl hS10 ?_
            go_frame
            refine tkP 9 (.bool true) 64 rfl rfl hS10 ?_
            go_frame
            refine tkP 10 (.bool true) 65 rfl rfl hS10 ?_
            go_frame
            refine tkN 11 66 rfl rfl hS10 ?_
            go_frame
            refine tkN 12 67 rfl rfl hS10 ?_
            go_frame
            refine tkN 13 68 rfl rfl hS10 ?_
            go_frame
            refine tkN 14 69 rfl rfl hS10 ?_
            go_frame
            refine tkN 15 70 rfl rfl hS10 ?_
            go_frame
            refine tkN 16 71 rfl rfl hS10 ?_
            go_frame
            refine tkN 17 72 rfl rfl hS10 ?_
            go_frame
            refine tkP 18 (.bool true) 73 rfl rfl hS10 ?_
            go_frame
            refine tkP 19 (.bool true) 74 rfl rfl hS10 ?_
            go_frame
            refine tkN 20 75 rfl rfl hS10 ?_
            go_frame
            refine tkN 21 76 rfl rfl hS10 ?_
            go_frame
            refine tkN 22 77 rfl rfl hS10 ?_
            go_frame
            refine tkN 23 78 rfl rfl hS10 ?_
            go_frame
            refine tkN 24 79 rfl rfl hS10 ?_
            go_frame
            refine tkN 25 80 rfl rfl hS10 ?_
            go_frame
            refine tkN 26 81 rfl rfl hS10 ?_
            go_frame
            refine tkN 27 82 rfl rfl hS10 ?_
            go_frame
            refine tkN 28 83 rfl rfl hS10 ?_
            go_frame
            refine tkN 29 84 rfl rfl hS10 ?_
            go_frame
            refine tkN 30 85 rfl rfl hS10 ?_
            go_frame
            refine tkN 31 86 rfl rfl hS10 ?_
            go_frame
            refine tkN 32 87 rfl rfl hS10 ?_
            go_frame
            refine tkN 33 88 rfl rfl hS10 ?_
            go_frame
            refine tkP 34 (.bool true) 89 rfl rfl hS10 ?_
            go_frame
            clear hS10
            refine wpAnyH_done (by kernel_rfl) ?_ _
            go_wp2_with fail
            go_ret
            exact BoolIs.no (fun h => by have hk := h.2.2.2.2.2 i (by rw [← HKS.out, List.length_map, HLN.out.2.2.1]; omega); unfold KpOk at hk; rw [HEx.out] at hk; exact HNuka.out hk.2.1) hb10
           | true =>
            have HYuka : Hid (5 ≤ x.a ∧ x.a ≤ 19) := (show (5 ≤ x.a ∧ x.a ≤ 19) from of_decide_eq_true huka.symm)
            clear huka
            refine tkP 8 (.bool false) 63 rfl rfl hS10 ?_
            go_frame
            refine tkP 9 (.bool false) 64 rfl rfl hS10 ?_
            go_frame
            refine tkP 10 (.bool false) 65 rfl rfl hS10 ?_
            go_frame
            refine tkP 11 (.pointer (some ⟨qv2, 8, none⟩)) 66 rfl rfl hS10 ?_
            go_frame
            refine tkL 12 (.int .i64 x.q) 67 rfl rfl (Or.inl ⟨by rfl, by intro W hW; obtain ⟨hhv2, hhv1, hhE_3⟩ := hW; have y8 := (cell_of hhv2 8).trans rfl; go_simp⟩) hS10 ?_
            go_frame
            refine tkP 13 (.pointer (some ⟨qv1, 5, none⟩)) 68 rfl rfl hS10 ?_
            go_frame
            refine tkL 14 (.int .i64 s.sq) 69 rfl rfl (Or.inl ⟨by rfl, by intro W hW; obtain ⟨hhv2, hhv1, hhE_3⟩ := hW; have y5 := (cell_of hhv1 5).trans rfl; go_simp⟩) hS10 ?_
            go_frame
            refine tkP 15 (.int .i64 (s.sq - 1)) 70 rfl rfl hS10 ?_
            go_frame
            refine rd1 16 rfl (fun K hK => ?_)
            go_simp
            refine (l1In_any x.q 1 (s.sq - 1) _).mono ?_
            rintro e w11 ⟨rfl, hwe⟩
            have bw : Below (w10).heap.size (w10) w11 := by rw [hwe]; exact Below.refl _ _
            clear hwe
            obtain ⟨ukq, hukq⟩ : ∃ u, u = decide ((1 : Int) ≤ x.q ∧ x.q ≤ (s.sq - 1)) := ⟨_, rfl⟩
            rw [← hukq]
            have hb11 := hbt hb10 bw
            have HM11 := hsz bw
            have HBv1_11 := hblk HBv1_10 bw
            have HBv2_11 := hblk HBv2_10 bw
            clear hb10 HBv1_10 HBv2_10 bw
            have hS11 : w11.heap[qv2]? = some (.cells #[.string x.p, .slice ku1 x.xs.length kuc1, .slice ku2 x.ys.length kuc2, .int .i64 x.st, .slice ku3 x.fs.length kuc3, .string x.b, .int .i64 x.t, .int .i64 x.a, .int .i64 x.q] 103) ∧ w11.heap[qv1]? = some (.cells #[.slice o1 n1 c1, .slice o2 n2 c2, .slice (some ⟨g3, 0, none⟩) n3 c3, .slice o4 n4 c4, .int .i64 s.nx, .int .i64 s.sq] 53) ∧ (w11.cell? ⟨g3, m * 9, none⟩ = some (.string z.p) ∧ w11.cell? ⟨g3, m * 9 + 1, none⟩ = some (.slice kt1 z.xs.length ktc1) ∧ w11.cell? ⟨g3, m * 9 + 2, none⟩ = some (.slice kt2 z.ys.length ktc2) ∧ w11.cell? ⟨g3, m * 9 + 3, none⟩ = some (.int .i64 z.st) ∧ w11.cell? ⟨g3, m * 9 + 4, none⟩ = some (.slice kt3 z.fs.length ktc3) ∧ w11.cell? ⟨g3, m * 9 + 5, none⟩ = some (.string z.b) ∧ w11.cell? ⟨g3, m * 9 + 6, none⟩ = some (.int .i64 z.t) ∧ w11.cell? ⟨g3, m * 9 + 7, none⟩ = some (.int .i64 z.a) ∧ w11.cell? ⟨g3, m * 9 + 8, none⟩ = some (.int .i64 z.q)) := ⟨HBv2_11.out, HBv1_11.out, (by first | exact HEL3.out _ hb11 | exact HEL3.out _ hb11.drew)⟩
            refine hK.out _ _ hS11 (fun _ => ?_)
            clear hK K hS10
            cases ukq with
            | false =>
             have HNukq : Hid (¬ (1 ≤ x.q ∧ x.q ≤ (s.sq - 1))) := (show ¬ (1 ≤ x.q ∧ x.q ≤ (s.sq - 1)) from of_decide_eq_false hukq.symm)
             clear hukq
             refine tkP 17 (.bool true) 72 rfl rfl hS11 ?_
             go_frame
             refine tkP 18 (.bool true) 73 rfl rfl hS11 ?_
             go_frame
             refine tkP 19 (.bool true) 74 rfl rfl hS11 ?_
             go_frame
             refine tkN 20 75 rfl rfl hS11 ?_
             go_frame
             refine tkN 21 76 rfl rfl hS11 ?_
             go_frame
             refine tkN 22 77 rfl rfl hS11 ?_
             go_frame
             refine tkN 23 78 rfl rfl hS11 ?_
             go_frame
             refine tkN 24 79 rfl rfl hS11 ?_
             go_frame
             refine tkN 25 80 rfl rfl hS11 ?_
             go_frame
             refine tkN 26 81 rfl rfl hS11 ?_
             go_frame
             refine tkN 27 82 rfl rfl hS11 ?_
             go_frame
             refine tkN 28 83 rfl rfl hS11 ?_
             go_frame
             refine tkN 29 84 rfl rfl hS11 ?_
             go_frame
             refine tkN 30 85 rfl rfl hS11 ?_
             go_frame
             refine tkN 31 86 rfl rfl hS11 ?_
             go_frame
             refine tkN 32 87 rfl rfl hS11 ?_
             go_frame
             refine tkN 33 88 rfl rfl hS11 ?_
             go_frame
             refine tkP 34 (.bool true) 89 rfl rfl hS11 ?_
             go_frame
             clear hS11
             refine wpAnyH_done (by kernel_rfl) ?_ _
             go_wp2_with fail
             go_ret
             exact BoolIs.no (fun h => by have hk := h.2.2.2.2.2 i (by rw [← HKS.out, List.length_map, HLN.out.2.2.1]; omega); unfold KpOk at hk; rw [HEx.out] at hk; exact HNukq.out hk.2.2.1) hb11
            | true =>
             have HYukq : Hid (1 ≤ x.q ∧ x.q ≤ (s.sq - 1)) := (show (1 ≤ x.q ∧ x.q ≤ (s.sq - 1)) from of_decide_eq_true hukq.symm)
             clear hukq
             refine tkP 17 (.bool false) 72 rfl rfl hS11 ?_
             go_frame
             refine tkP 18 (.bool false) 73 rfl rfl hS11 ?_
             go_frame
             refine tkP 19 (.bool false) 74 rfl rfl hS11 ?_
             go_frame
             refine tkP 20 (.int .i64 (i : Int)) 75 rfl rfl hS11 ?_
             go_frame
             refine tkP 21 (.bool true) 76 rfl rfl hS11 ?_
             go_frame
             refine tkP 22 (.bool true) 77 rfl rfl hS11 ?_
             go_frame
             refine tkP 23 (.pointer (some ⟨qv1, 2, none⟩)) 78 rfl rfl hS11 ?_
             go_frame
             refine tkL 24 (.slice (some ⟨g3, 0, none⟩) n3 c3) 79 rfl rfl (Or.inl ⟨by rfl, by intro W hW; obtain ⟨hhv2, hhv1, hhE_3⟩ := hW; have y2 := (cell_of hhv1 2).trans rfl; go_simp⟩) hS11 ?_
             go_frame
             refine tkP 25 (.int .i64 (i : Int)) 80 rfl rfl hS11 ?_
             go_frame
             refine tkP 26 (.int .i64 (m : Int)) 81 rfl rfl hS11 ?_
             go_frame
             refine tkP 27 (.pointer (some ⟨g3, m * 9, none⟩)) 82 rfl rfl hS11 ?_
             go_frame
             refine tkP 28 (.pointer (some ⟨g3, m * 9 + 8, none⟩)) 83 rfl rfl hS11 ?_
             go_frame
             refine tkL 29 (.int .i64 z.q) 84 rfl rfl (Or.inl ⟨by rfl, by intro W hW; obtain ⟨hhv2, hhv1, hhE_3⟩ := hW; have y8 := hhE_3.2.2.2.2.2.2.2.2; go_simp⟩) hS11 ?_
             go_frame
             refine tkP 30 (.pointer (some ⟨qv2, 8, none⟩)) 85 rfl rfl hS11 ?_
             go_frame
             refine tkL 31 (.int .i64 x.q) 86 rfl rfl (Or.inl ⟨by rfl, by intro W hW; obtain ⟨hhv2, hhv1, hhE_3⟩ := hW; have y8 := (cell_of hhv2 8).trans rfl; go_simp⟩) hS11 ?_
             go_frame
             by_cases hc2 : x.q ≤ z.q
             ·
              have HAS : Hid (¬ z.q < x.q) := (by have := hc2; show ¬ _; omega)
              refine tkP 32 (.bool true) 87 rfl rfl hS11 ?_
              go_frame
              refine tkP 33 (.bool true) 88 rfl rfl hS11 ?_
              go_frame
              refine tkP 34 (.bool true) 89 rfl rfl hS11 ?_
              go_frame
              clear hS11
              refine wpAnyH_done (by kernel_rfl) ?_ _
              go_wp2_with fail
              go_ret
              exact BoolIs.no (fun h => by have hk := h.2.2.2.2.2 i (by rw [← HKS.out, List.length_map, HLN.out.2.2.1]; omega); unfold KpOk at hk; rw [HEx.out] at hk; have h2 := hk.2.2.2.1 (by omega); rw [HIM.out, Nat.add_sub_cancel, HEz.out] at h2; have h3 := HAS.out; omega) hb11
             ·
              have HAS : Hid (z.q < x.q) := (by have := hc2; show _ < _; omega)
              refine tkP 32 (.bool false) 87 rfl rfl hS11 ?_
              go_frame
              refine tkP 33 (.bool false) 88 rfl rfl hS11 ?_
              go_frame
              refine tkP 34 (.bool false) 89 rfl rfl hS11 ?_
              go_frame
              clear hS11
              refine wpAnyH_done (by kernel_rfl) ?_ _
              go_wp2_with fail
              have HASC : Hid (0 < i → (kpAt s.ks (i - 1)).q < x.q) := fun _ => by rw [HIM.out, Nat.add_sub_cancel, HEz.out]; exact HAS.out
              clear HAS
              obtain ⟨wB, hwB⟩ := exq w11
              rw [← hwB] at hb11 HBv1_11 HBv2_11 ⊢
              clear hwB
              go_loopw [6] (fun i0 wr => ∃ j : Nat, j ≤ i ∧ i0 = .int .i64 (j : Int) ∧ Hid (Below w.heap.size w (wr) ∧ (wr).heap[qv1]? = some (.cells #[.slice o1 n1 c1, .slice o2 n2 c2, .slice (some ⟨g3, 0, none⟩) n3 c3, .slice o4 n4 c4, .int .i64 s.nx, .int .i64 s.sq] 53) ∧ (wr).heap[qv2]? = some (.cells #[.string x.p, .slice ku1 x.xs.length kuc1, .slice ku2 x.ys.length kuc2, .int .i64 x.st, .slice ku3 x.fs.length kuc3, .string x.b, .int .i64 x.t, .int .i64 x.a, .int .i64 x.q] 103)) ∧ Hid (∀ m, m < j → (kpAt s.ks m).a ≠ x.a)) (fun i0 _ => i - (intOf i0).toNat)
              case atStart => exact ⟨0, Nat.zero_le _, rfl, ⟨hb11, HBv1_11.out, HBv2_11.out⟩, fun m hm => absurd hm (by omega)⟩
              case round =>
               obtain ⟨j, hj, rfl, HW, HJ⟩ := hrel
               by_cases hlj : (j : Int) < (i : Int)
               ·
                have hb12 := HW.out.1
                have HBv1_12 : Hid ((wr).heap[qv1]? = some (.cells #[.slice o1 n1 c1, .slice o2 n2 c2, .slice (some ⟨g3, 0, none⟩) n3 c3, .slice o4 n4 c4, .int .i64 s.nx, .int .i64 s.sq] 53)) := HW.out.2.1
                have HBv2_12 : Hid ((wr).heap[qv2]? = some (.cells #[.string x.p, .slice ku1 x.xs.length kuc1, .slice ku2 x.ys.length kuc2, .int .i64 x.st, .slice ku3 x.fs.length kuc3, .string x.b, .int .i64 x.t, .int .i64 x.a, .int .i64 x.q] 103)) := HW.out.2.2
                clear HW hb11 HBv1_11 HBv2_11
                obtain ⟨z2X, hz2X⟩ := exq (kvAt kv j)
                have HMz2 : Hid (z2X ∈ kv) := by show _ ∈ _; rw [hz2X]; exact kvAt_mem kv j (by rw [HLK.out]; omega)
                have HEz2 : Hid (kpAt s.ks j = z2X.1) := by show _ = _; rw [hz2X, ← HKS.out]; exact (kvAt_fst kv j (by rw [HLK.out]; omega)).symm
                have HTKz2 : Hid (kv.take (j + 1) = kv.take j ++ [z2X]) := by show _ = _; rw [hz2X]; exact kvAt_take kv j (by rw [HLK.out]; omega)
                have HKz2 : Hid (∀ W, Below w.heap.size w W → KpAt W g3 j z2X) := fun W hb => by
                 obtain ⟨g', p', hV, _, hc⟩ := (HKP.out W hb).look j (by rw [HLK.out]; omega)
                 injection hV with hV1 _ _
                 cases hV1
                 rw [hz2X]
                 exact hc
                clear hz2X
                obtain ⟨z2, kzv1, kzv2, kzv3⟩ := z2X
                obtain ⟨kz1, kzc1, hu⟩ := slice_of_owns ((HKP.out _ hb12).names HMz2.out)
                have hu' : kzv1 = .slice kz1 z2.xs.length kzc1 := hu
                subst hu'
                clear hu
                obtain ⟨kz2, kzc2, hu⟩ := slice_of_owns ((HKP.out _ hb12).vals HMz2.out)
                have hu' : kzv2 = .slice kz2 z2.ys.length kzc2 := hu
                subst hu'
                clear hu
                obtain ⟨kz3, kzc3, hu⟩ := slice_of_owns ((HKP.out _ hb12).flds HMz2.out)
                have hu' : kzv3 = .slice kz3 z2.fs.length kzc3 := hu
                subst hu'
                clear hu
                have hjn : ¬ n3 ≤ j := by omega
                have HEL3 : Hid (∀ W, Below w.heap.size w W → (W.cell? ⟨g3, j * 9, none⟩ = some (.string z2.p) ∧ W.cell? ⟨g3, j * 9 + 1, none⟩ = some (.slice kz1 z2.xs.length kzc1) ∧ W.cell? ⟨g3, j * 9 + 2, none⟩ = some (.slice kz2 z2.ys.length kzc2) ∧ W.cell? ⟨g3, j * 9 + 3, none⟩ = some (.int .i64 z2.st) ∧ W.cell? ⟨g3, j * 9 + 4, none⟩ = some (.slice kz3 z2.fs.length kzc3) ∧ W.cell? ⟨g3, j * 9 + 5, none⟩ = some (.string z2.b) ∧ W.cell? ⟨g3, j * 9 + 6, none⟩ = some (.int .i64 z2.t) ∧ W.cell? ⟨g3, j * 9 + 7, none⟩ = some (.int .i64 z2.a) ∧ W.cell? ⟨g3, j * 9 + 8, none⟩ = some (.int .i64 z2.q))) := fun W hb => by
                 have c := HKz2.out W hb
                 exact ⟨c.c0, c.c1, c.c2, c.c3, c.c4, c.c5, c.c6, c.c7, c.c8⟩
                go_upto_region 17 with fail
                refine wp_region_held_drew (S := fun W => W.heap[qv1]? = some (.cells #[.slice o1 n1 c1, .slice o2 n2 c2, .slice (some ⟨g3, 0, none⟩) n3 c3, .slice o4 n4 c4, .int .i64 s.nx, .int .i64 s.sq] 53) ∧ (W.cell? ⟨g3, j * 9, none⟩ = some (.string z2.p) ∧ W.cell? ⟨g3, j * 9 + 1, none⟩ = some (.slice kz1 z2.xs.length kzc1) ∧ W.cell? ⟨g3, j * 9 + 2, none⟩ = some (.slice kz2 z2.ys.length kzc2) ∧ W.cell? ⟨g3, j * 9 + 3, none⟩ = some (.int .i64 z2.st) ∧ W.cell? ⟨g3, j * 9 + 4, none⟩ = some (.slice kz3 z2.fs.length kzc3) ∧ W.cell? ⟨g3, j * 9 + 5, none⟩ = some (.string z2.b) ∧ W.cell? ⟨g3, j * 9 + 6, none⟩ = some (.int .i64 z2.t) ∧ W.cell? ⟨g3, j * 9 + 7, none⟩ = some (.int .i64 z2.a) ∧ W.cell? ⟨g3, j * 9 + 8, none⟩ = some (.int .i64 z2.q)) ∧ W.heap[qv2]? = some (.cells #[.string x.p, .slice ku1 x.xs.length kuc1, .slice ku2 x.ys.length kuc2, .int .i64 x.st, .slice ku3 x.fs.length kuc3, .string x.b, .int .i64 x.t, .int .i64 x.a, .int .i64 x.q] 103)) (by kernel_rfl) ⟨HBv1_12.out, (by first | exact HEL3.out _ hb12 | exact HEL3.out _ hb12.drew), HBv2_12.out⟩ (fun _ => ?_)
                obtain ⟨w13, hX⟩ := exq wr.drew
                have bw := bdr hX
                rw [← hX]
                have hb13 := hbt hb12 bw
                have HBv1_13 := hblk HBv1_12 bw
                have HBv2_13 := hblk HBv2_12 bw
                have hS13 : w13.heap[qv1]? = some (.cells #[.slice o1 n1 c1, .slice o2 n2 c2, .slice (some ⟨g3, 0, none⟩) n3 c3, .slice o4 n4 c4, .int .i64 s.nx, .int .i64 s.sq] 53) ∧ (w13.cell? ⟨g3, j * 9, none⟩ = some (.string z2.p) ∧ w13.cell? ⟨g3, j * 9 + 1, none⟩ = some (.slice kz1 z2.xs.length kzc1) ∧ w13.cell? ⟨g3, j * 9 + 2, none⟩ = some (.slice kz2 z2.ys.length kzc2) ∧ w13.cell? ⟨g3, j * 9 + 3, none⟩ = some (.int .i64 z2.st) ∧ w13.cell? ⟨g3, j * 9 + 4, none⟩ = some (.slice kz3 z2.fs.length kzc3) ∧ w13.cell? ⟨g3, j * 9 + 5, none⟩ = some (.string z2.b) ∧ w13.cell? ⟨g3, j * 9 + 6, none⟩ = some (.int .i64 z2.t) ∧ w13.cell? ⟨g3, j * 9 + 7, none⟩ = some (.int .i64 z2.a) ∧ w13.cell? ⟨g3, j * 9 + 8, none⟩ = some (.int .i64 z2.q)) ∧ w13.heap[qv2]? = some (.cells #[.string x.p, .slice ku1 x.xs.length kuc1, .slice ku2 x.ys.length kuc2, .int .i64 x.st, .slice ku3 x.fs.length kuc3, .string x.b, .int .i64 x.t, .int .i64 x.a, .int .i64 x.q] 103) := ⟨HBv1_13.out, (by first | exact HEL3.out _ hb13 | exact HEL3.out _ hb13.drew), HBv2_13.out⟩
                clear hb12 HBv1_12 HBv2_12 bw hX
                refine tkP 0 (.pointer (some ⟨qv1, 2, none⟩)) 95 rfl rfl hS13 ?_
                go_frame
                refine tkL 1 (.slice (some ⟨g3, 0, none⟩) n3 c3) 96 rfl rfl (Or.inl ⟨by rfl, by intro W hW; obtain ⟨hhv1, hhE_3, hhv2⟩ := hW; have y2 := (cell_of hhv1 2).trans rfl; go_simp⟩) hS13 ?_
                go_frame
                refine tkP 2 (.int .i64 (j : Int)) 97 rfl rfl hS13 ?_
                go_frame
                refine tkP 3 (.pointer (some ⟨g3, j * 9, none⟩)) 98 rfl rfl hS13 ?_
                go_frame
                refine tkP 4 (.pointer (some ⟨g3, j * 9 + 7, none⟩)) 99 rfl rfl hS13 ?_
                go_frame
                refine tkL 5 (.int .i64 z2.a) 100 rfl rfl (Or.inl ⟨by rfl, by intro W hW; obtain ⟨hhv1, hhE_3, hhv2⟩ := hW; have y7 := hhE_3.2.2.2.2.2.2.2.1; go_simp⟩) hS13 ?_
                go_frame
                refine tkP 6 (.pointer (some ⟨qv2, 7, none⟩)) 101 rfl rfl hS13 ?_
                go_frame
                refine tkL 7 (.int .i64 x.a) 102 rfl rfl (Or.inl ⟨by rfl, by intro W hW; obtain ⟨hhv1, hhE_3, hhv2⟩ := hW; have y7 := (cell_of hhv2 7).trans rfl; go_simp⟩) hS13 ?_
                go_frame
                by_cases hc3 : z2.a = x.a
                ·
                 have hc3b : ((z2.a : Int) == (x.a : Int)) = true := by simpa using hc3
                 have hc3n : ((z2.a : Int) != (x.a : Int)) = false := by simpa using hc3
                 have HTW : Hid ((z2.a = x.a)) := hc3
                 have hc3H : Hid (z2.a = x.a) := hc3
                 clear hc3
                 refine tkP 8 (.bool true) 103 rfl rfl hS13 ?_
                 go_frame
                 clear hS13
                 refine wpAnyH_done (by kernel_rfl) ?_ _
                 go_wp2_with fail
                 go_ret
                 exact BoolIs.no (fun h => by have hk := h.2.2.2.2.2 i (by rw [← HKS.out, List.length_map, HLN.out.2.2.1]; omega); unfold KpOk at hk; rw [HEx.out] at hk; exact hk.2.2.2.2 j (by omega) (by rw [HEz2.out]; exact HTW.out)) hb13
                ·
                 have hc3b : ((z2.a : Int) == (x.a : Int)) = false := by simpa using hc3
                 have hc3n : ((z2.a : Int) != (x.a : Int)) = true := by simpa using hc3
                 have HTW : Hid (¬ (z2.a = x.a)) := hc3
                 have hc3H : Hid (¬ (z2.a = x.a)) := hc3
                 clear hc3
                 refine tkP 8 (.bool false) 103 rfl rfl hS13 ?_
                 go_frame
                 clear hS13
                 refine wpAnyH_done (by kernel_rfl) ?_ _
                 have HJ2 : Hid (∀ m, m < j + 1 → (kpAt s.ks m).a ≠ x.a) := fun m hm => by
                  by_cases e : m = j
                  ·
                   subst e
                   rw [HEz2.out]
                   exact HTW.out
                  · exact HJ.out m (by omega)
                 go_wp2_with fail
                 go_roundw
                 case rel => exact ⟨j + 1, by omega, by go_num, ⟨hb13, HBv1_13.out, HBv2_13.out⟩, HJ2⟩
                 case measure => simp [intOf]; omega
               ·
                have hb12 := HW.out.1
                have HBv1_12 : Hid ((wr).heap[qv1]? = some (.cells #[.slice o1 n1 c1, .slice o2 n2 c2, .slice (some ⟨g3, 0, none⟩) n3 c3, .slice o4 n4 c4, .int .i64 s.nx, .int .i64 s.sq] 53)) := HW.out.2.1
                have HBv2_12 : Hid ((wr).heap[qv2]? = some (.cells #[.string x.p, .slice ku1 x.xs.length kuc1, .slice ku2 x.ys.length kuc2, .int .i64 x.st, .slice ku3 x.fs.length kuc3, .string x.b, .int .i64 x.t, .int .i64 x.a, .int .i64 x.q] 103)) := HW.out.2.2
                clear HW hb11 HBv1_11 HBv2_11
                have HTWS : Hid (∀ m, m < i → (kpAt s.ks m).a ≠ x.a) := fun m hm => HJ.out m (by omega)
                clear HJ
                have HN2 : Hid (∀ m, m < i + 1 → KpOk s.ks s.sq m) := fun m hm => by
                 by_cases e : m = i
                 ·
                  subst e
                  unfold KpOk
                  rw [HEx.out]
                  exact ⟨HYuo.out, HYuka.out, HYukq.out, HASC.out, HTWS.out⟩
                 · exact HN.out m (by omega)
                go_wp2_with fail
                go_roundw
                case rel => exact ⟨i + 1, by omega, by go_num, ⟨hb12, HBv1_12.out⟩, HN2⟩
                case measure => simp [intOf]; omega
         ·
          have hi0z : i = 0 := by omega
          go_upto_region 12 with fail
          refine wp_region_held_drew (S := fun W => W.heap[qv2]? = some (.cells #[.string x.p, .slice ku1 x.xs.length kuc1, .slice ku2 x.ys.length kuc2, .int .i64 x.st, .slice ku3 x.fs.length kuc3, .string x.b, .int .i64 x.t, .int .i64 x.a, .int .i64 x.q] 103) ∧ W.heap[qv1]? = some (.cells #[.slice o1 n1 c1, .slice o2 n2 c2, .slice (some ⟨g3, 0, none⟩) n3 c3, .slice o4 n4 c4, .int .i64 s.nx, .int .i64 s.sq] 53)) (by kernel_rfl) ⟨HBv2_7.out, HBv1_7.out⟩ (fun _ => ?_)
          obtain ⟨w8, hX⟩ := exq w7.drew
          have bw := bdr hX
          rw [← hX]
          have hb8 := hbt hb7 bw
          have HM8 := hsz bw
          have HBv1_8 := hblk HBv1_7 bw
          have HBv2_8 := hblk HBv2_7 bw
          have hS8 := And.intro HBv2_8.out HBv1_8.out
          clear hb7 HBv1_7 HBv2_7 bw hX
          refine tkP 0 (.pointer (some ⟨qv2, 0, none⟩)) 55 rfl rfl hS8 ?_
          go_frame
          refine tkL 1 (.agg #[.string x.p, .slice ku1 x.xs.length kuc1, .slice ku2 x.ys.length kuc2, .int .i64 x.st, .slice ku3 x.fs.length kuc3, .string x.b, .int .i64 x.t]) 56 rfl rfl (Or.inl ⟨by rfl, by intro W hW; obtain ⟨hhv2, hhv1⟩ := hW; have y0 := (cell_of hhv2 0).trans rfl; have y1 := (cell_of hhv2 1).trans rfl; have y2 := (cell_of hhv2 2).trans rfl; have y3 := (cell_of hhv2 3).trans rfl; have y4 := (cell_of hhv2 4).trans rfl; have y5 := (cell_of hhv2 5).trans rfl; have y6 := (cell_of hhv2 6).trans rfl; go_simp⟩) hS8 ?_
          go_frame
          refine rd1 2 rfl (fun K hK => ?_)
          go_simp
          refine (specObjOk_k x _ _ _ _ ((HSH.out _ hb8).kept.read HMx.out) (HZ.out.kv HKS.out HMx.out)).mono ?_
          rintro e w9 ⟨uo, rfl, huo, bw⟩
          have hb9 := hbt hb8 bw
          have HM9 := hsz bw
          have HBv1_9 := hblk HBv1_8 bw
          have HBv2_9 := hblk HBv2_8 bw
          clear hb8 HBv1_8 HBv2_8 bw
          have hS9 := And.intro HBv2_9.out HBv1_9.out
          refine hK.out _ _ hS9 (fun _ => ?_)
          clear hK K hS8
          cases uo with
          | false =>
           have HNuo : Hid (¬ (ObjK x)) := fun h => nomatch huo.2 h
           clear huo
           refine tkP 3 (.bool true) 58 rfl rfl hS9 ?_
           go_frame
           refine tkP 4 (.bool true) 59 rfl rfl hS9 ?_
           go_frame
           refine tkN 5 60 rfl rfl hS9 ?_
           go_frame
           refine tkN 6 61 rfl rfl hS9 ?_
           go_frame
           refine tkN 7 62 rfl rfl hS9 ?_
           go_frame
           refine tkN 8 63 rfl rfl hS9 ?_
           go_frame
           refine tkP 9 (.bool true) 64 rfl rfl hS9 ?_
           go_frame
           refine tkP 10 (.bool true) 65 rfl rfl hS9 ?_
           go_frame
           refine tkN 11 66 rfl rfl hS9 ?_
           go_frame
           refine tkN 12 67 rfl rfl hS9 ?_
           go_frame
           refine tkN 13 68 rfl rfl hS9 ?_
           go_frame
           refine tkN 14 69 rfl rfl hS9 ?_
           go_frame
           refine tkN 15 70 rfl rfl hS9 ?_
           go_frame
           refine tkN 16 71 rfl rfl hS9 ?_
           go_frame
           refine tkN 17 72 rfl rfl hS9 ?_
           go_frame
           refine tkP 18 (.bool true) 73 rfl rfl hS9 ?_
           go_frame
           refine tkP 19 (.bool true) 74 rfl rfl hS9 ?_
           go_frame
           refine tkN 20 75 rfl rfl hS9 ?_
           go_frame
           refine tkN 21 76 rfl rfl hS9 ?_
           go_frame
           refine tkN 22 77 rfl rfl hS9 ?_
           go_frame
           refine tkN 23 78 rfl rfl hS9 ?_
           go_frame
           refine tkN 24 79 rfl rfl hS9 ?_
           go_frame
           refine tkN 25 80 rfl rfl hS9 ?_
           go_frame
           refine tkN 26 81 rfl rfl hS9 ?_
           go_frame
           refine tkN 27 82 rfl rfl hS9 ?_
           go_frame
           refine tkN 28 83 rfl rfl hS9 ?_
           go_frame
           refine tkN 29 84 rfl rfl hS9 ?_
           go_frame
           refine tkN 30 85 rfl rfl hS9 ?_
           go_frame
           refine tkN 31 86 rfl rfl hS9 ?_
           go_frame
           refine tkN 32 87 rfl rfl hS9 ?_
           go_frame
           refine tkN 33 88 rfl rfl hS9 ?_
           go_frame
           refine tkP 34 (.bool true) 89 rfl rfl hS9 ?_
           go_frame
           clear hS9
           refine wpAnyH_done (by kernel_rfl) ?_ _
           go_wp2_with fail
           go_ret
           exact BoolIs.no (fun h => by have hk := h.2.2.2.2.2 i (by rw [← HKS.out, List.length_map, HLN.out.2.2.1]; omega); unfold KpOk at hk; rw [HEx.out] at hk; exact HNuo.out hk.1) hb9
          | true =>
           have HYuo : Hid (ObjK x) := huo.1 rfl
           clear huo
           refine tkP 3 (.bool false) 58 rfl rfl hS9 ?_
           go_frame
           refine tkP 4 (.bool false) 59 rfl rfl hS9 ?_
           go_frame
           refine tkP 5 (.pointer (some ⟨qv2, 7, none⟩)) 60 rfl rfl hS9 ?_
           go_frame
           refine tkL 6 (.int .i64 x.a) 61 rfl rfl (Or.inl ⟨by rfl, by intro W hW; obtain ⟨hhv2, hhv1⟩ := hW; have y7 := (cell_of hhv2 7).trans rfl; go_simp⟩) hS9 ?_
           go_frame
           refine rd1 7 rfl (fun K hK => ?_)
           go_simp
           refine (l1In_any x.a 5 19 _).mono ?_
           rintro e w10 ⟨rfl, hwe⟩
           have bw : Below (w9).heap.size (w9) w10 := by rw [hwe]; exact Below.refl _ _
           clear hwe
           obtain ⟨uka, huka⟩ : ∃ u, u = decide ((5 : Int) ≤ x.a ∧ x.a ≤ 19) := ⟨_, rfl⟩
           rw [← huka]
           have hb10 := hbt hb9 bw
           have HM10 := hsz bw
           have HBv1_10 := hblk HBv1_9 bw
           have HBv2_10 := hblk HBv2_9 bw
           clear hb9 HBv1_9 HBv2_9 bw
           have hS10 := And.intro HBv2_10.out HBv1_10.out
           refine hK.out _ _ hS10 (fun _ => ?_)
           clear hK K hS9
           cases uka with
           | false =>
            have HNuka : Hid (¬ (5 ≤ x.a ∧ x.a ≤ 19)) := (show ¬ (5 ≤ x.a ∧ x.a ≤ 19) from of_decide_eq_false huka.symm)
            clear huka
            refine tkP 8 (.bool true) 63 rfl rfl hS10 ?_
            go_frame
            refine tkP 9 (.bool true) 64 rfl rfl hS10 ?_
            go_frame
            refine tkP 10 (.bool true) 65 rfl rfl hS10 ?_
            go_frame
            refine tkN 11 66 rfl rfl hS10 ?_
            go_frame
            refine tkN 12 67 rfl rfl hS10 ?_
            go_frame
            refine tkN 13 68 rfl rfl hS10 ?_
            go_frame
            refine tkN 14 69 rfl rfl hS10 ?_
            go_frame
            refine tkN 15 70 rfl rfl hS10 ?_
            go_frame
            refine tkN 16 71 rfl rfl hS10 ?_
            go_frame
            refine tkN 17 72 rfl rfl hS10 ?_
            go_frame
            refine tkP 18 (.bool true) 73 rfl rfl hS10 ?_
            go_frame
            refine tkP 19 (.bool true) 74 rfl rfl hS10 ?_
            go_frame
            refine tkN 20 75 rfl rfl hS10 ?_
            go_frame
            refine tkN 21 76 rfl rfl hS10 ?_
            go_frame
            refine tkN 22 77 rfl rfl hS10 ?_
            go_frame
            refine tkN 23 78 rfl rfl hS10 ?_
            go_frame
            refine tkN 24 79 rfl rfl hS10 ?_
            go_frame
            refine tkN 25 80 rfl rfl hS10 ?_
            go_frame
            refine tkN 26 81 rfl rfl hS10 ?_
            go_frame
            refine tkN 27 82 rfl rfl hS10 ?_
            go_frame
            refine tkN 28 83 rfl rfl hS10 ?_
            go_frame
            refine tkN 29 84 rfl rfl hS10 ?_
            go_frame
            refine tkN 30 85 rfl rfl hS10 ?_
            go_frame
            refine tkN 31 86 rfl rfl hS10 ?_
            go_frame
            refine tkN 32 87 rfl rfl hS10 ?_
            go_frame
            refine tkN 33 88 rfl rfl hS10 ?_
            go_frame
            refine tkP 34 (.bool true) 89 rfl rfl hS10 ?_
            go_frame
            clear hS10
            refine wpAnyH_done (by kernel_rfl) ?_ _
            go_wp2_with fail
            go_ret
            exact BoolIs.no (fun h => by have hk := h.2.2.2.2.2 i (by rw [← HKS.out, List.length_map, HLN.out.2.2.1]; omega); unfold KpOk at hk; rw [HEx.out] at hk; exact HNuka.out hk.2.1) hb10
           | true =>
            have HYuka : Hid (5 ≤ x.a ∧ x.a ≤ 19) := (show (5 ≤ x.a ∧ x.a ≤ 19) from of_decide_eq_true huka.symm)
            clear huka
            refine tkP 8 (.bool false) 63 rfl rfl hS10 ?_
            go_frame
            refine tkP 9 (.bool false) 64 rfl rfl hS10 ?_
            go_frame
            refine tkP 10 (.bool false) 65 rfl rfl hS10 ?_
            go_frame
            refine tkP 11 (.pointer (some ⟨qv2, 8, none⟩)) 66 rfl rfl hS10 ?_
            go_frame
            refine tkL 12 (.int .i64 x.q) 67 rfl rfl (Or.inl ⟨by rfl, by intro W hW; obtain ⟨hhv2, hhv1⟩ := hW; have y8 := (cell_of hhv2 8).trans rfl; go_simp⟩) hS10 ?_
            go_frame
            refine tkP 13 (.pointer (some ⟨qv1, 5, none⟩)) 68 rfl rfl hS10 ?_
            go_frame
            refine tkL 14 (.int .i64 s.sq) 69 rfl rfl (Or.inl ⟨by rfl, by intro W hW; obtain ⟨hhv2, hhv1⟩ := hW; have y5 := (cell_of hhv1 5).trans rfl; go_simp⟩) hS10 ?_
            go_frame
            refine tkP 15 (.int .i64 (s.sq - 1)) 70 rfl rfl hS10 ?_
            go_frame
            refine rd1 16 rfl (fun K hK => ?_)
            go_simp
            refine (l1In_any x.q 1 (s.sq - 1) _).mono ?_
            rintro e w11 ⟨rfl, hwe⟩
            have bw : Below (w10).heap.size (w10) w11 := by rw [hwe]; exact Below.refl _ _
            clear hwe
            obtain ⟨ukq, hukq⟩ : ∃ u, u = decide ((1 : Int) ≤ x.q ∧ x.q ≤ (s.sq - 1)) := ⟨_, rfl⟩
            rw [← hukq]
            have hb11 := hbt hb10 bw
            have HM11 := hsz bw
            have HBv1_11 := hblk HBv1_10 bw
            have HBv2_11 := hblk HBv2_10 bw
            clear hb10 HBv1_10 HBv2_10 bw
            have hS11 := And.intro HBv2_11.out HBv1_11.out
            refine hK.out _ _ hS11 (fun _ => ?_)
            clear hK K hS10
            cases ukq with
            | false =>
             have HNukq : Hid (¬ (1 ≤ x.q ∧ x.q ≤ (s.sq - 1))) := (show ¬ (1 ≤ x.q ∧ x.q ≤ (s.sq - 1)) from of_decide_eq_false hukq.symm)
             clear hukq
             refine tkP 17 (.bool true) 72 rfl rfl hS11 ?_
             go_frame
             refine tkP 18 (.bool true) 73 rfl rfl hS11 ?_
             go_frame
             refine tkP 19 (.bool true) 74 rfl rfl hS11 ?_
             go_frame
             refine tkN 20 75 rfl rfl hS11 ?_
             go_frame
             refine tkN 21 76 rfl rfl hS11 ?_
             go_frame
             refine tkN 22 77 rfl rfl hS11 ?_
             go_frame
             refine tkN 23 78 rfl rfl hS11 ?_
             go_frame
             refine tkN 24 79 rfl rfl hS11 ?_
             go_frame
             refine tkN 25 80 rfl rfl hS11 ?_
             go_frame
             refine tkN 26 81 rfl rfl hS11 ?_
             go_frame
             refine tkN 27 82 rfl rfl hS11 ?_
             go_frame
             refine tkN 28 83 rfl rfl hS11 ?_
             go_frame
             refine tkN 29 84 rfl rfl hS11 ?_
             go_frame
             refine tkN 30 85 rfl rfl hS11 ?_
             go_frame
             refine tkN 31 86 rfl rfl hS11 ?_
             go_frame
             refine tkN 32 87 rfl rfl hS11 ?_
             go_frame
             refine tkN 33 88 rfl rfl hS11 ?_
             go_frame
             refine tkP 34 (.bool true) 89 rfl rfl hS11 ?_
             go_frame
             clear hS11
             refine wpAnyH_done (by kernel_rfl) ?_ _
             go_wp2_with fail
             go_ret
             exact BoolIs.no (fun h => by have hk := h.2.2.2.2.2 i (by rw [← HKS.out, List.length_map, HLN.out.2.2.1]; omega); unfold KpOk at hk; rw [HEx.out] at hk; exact HNukq.out hk.2.2.1) hb11
            | true =>
             have HYukq : Hid (1 ≤ x.q ∧ x.q ≤ (s.sq - 1)) := (show (1 ≤ x.q ∧ x.q ≤ (s.sq - 1)) from of_decide_eq_true hukq.symm)
             clear hukq
             refine tkP 17 (.bool false) 72 rfl rfl hS11 ?_
             go_frame
             refine tkP 18 (.bool false) 73 rfl rfl hS11 ?_
             go_frame
             refine tkP 19 (.bool false) 74 rfl rfl hS11 ?_
             go_frame
             refine tkP 20 (.int .i64 (i : Int)) 75 rfl rfl hS11 ?_
             go_frame
             refine tkP 21 (.bool false) 76 rfl rfl hS11 ?_
             go_frame
             refine tkP 22 (.bool false) 77 rfl rfl hS11 ?_
             go_frame
             refine tkN 23 78 rfl rfl hS11 ?_
             go_frame
             refine tkN 24 79 rfl rfl hS11 ?_
             go_frame
             refine tkN 25 80 rfl rfl hS11 ?_
             go_frame
             refine tkN 26 81 rfl rfl hS11 ?_
             go_frame
             refine tkN 27 82 rfl rfl hS11 ?_
             go_frame
             refine tkN 28 83 rfl rfl hS11 ?_
             go_frame
             refine tkN 29 84 rfl rfl hS11 ?_
             go_frame
             refine tkN 30 85 rfl rfl hS11 ?_
             go_frame
             refine tkN 31 86 rfl rfl hS11 ?_
             go_frame
             refine tkN 32 87 rfl rfl hS11 ?_
             go_frame
             refine tkP 33 (.bool false) 88 rfl rfl hS11 ?_
             go_frame
             refine tkP 34 (.bool false) 89 rfl rfl hS11 ?_
             go_frame
             clear hS11
             refine wpAnyH_done (by kernel_rfl) ?_ _
             go_wp2_with fail
             have HASC : Hid (0 < i → (kpAt s.ks (i - 1)).q < x.q) := fun h => absurd h (by omega)
             obtain ⟨wB, hwB⟩ := exq w11
             rw [← hwB] at hb11 HBv1_11 HBv2_11 ⊢
             clear hwB
             go_loopw [6] (fun i0 wr => ∃ j : Nat, j ≤ i ∧ i0 = .int .i64 (j : Int) ∧ Hid (Below w.heap.size w (wr) ∧ (wr).heap[qv1]? = some (.cells #[.slice o1 n1 c1, .slice o2 n2 c2, .slice (some ⟨g3, 0, none⟩) n3 c3, .slice o4 n4 c4, .int .i64 s.nx, .int .i64 s.sq] 53) ∧ (wr).heap[qv2]? = some (.cells #[.string x.p, .slice ku1 x.xs.length kuc1, .slice ku2 x.ys.length kuc2, .int .i64 x.st, .slice ku3 x.fs.length kuc3, .string x.b, .int .i64 x.t, .int .i64 x.a, .int .i64 x.q] 103)) ∧ Hid (∀ m, m < j → (kpAt s.ks m).a ≠ x.a)) (fun i0 _ => i - (intOf i0).toNat)
             case atStart => exact ⟨0, Nat.zero_le _, rfl, ⟨hb11, HBv1_11.out, HBv2_11.out⟩, fun m hm => absurd hm (by omega)⟩
             case round =>
              obtain ⟨j, hj, rfl, HW, HJ⟩ := hrel
              by_cases hlj : (j : Int) < (i : Int)
              ·
               have hb12 := HW.out.1
               have HBv1_12 : Hid ((wr).heap[qv1]? = some (.cells #[.slice o1 n1 c1, .slice o2 n2 c2, .slice (some ⟨g3, 0, none⟩) n3 c3, .slice o4 n4 c4, .int .i64 s.nx, .int .i64 s.sq] 53)) := HW.out.2.1
               have HBv2_12 : Hid ((wr).heap[qv2]? = some (.cells #[.string x.p, .slice ku1 x.xs.length kuc1, .slice ku2 x.ys.length kuc2, .int .i64 x.st, .slice ku3 x.fs.length kuc3, .string x.b, .int .i64 x.t, .int .i64 x.a, .int .i64 x.q] 103)) := HW.out.2.2
               clear HW hb11 HBv1_11 HBv2_11
               exact absurd hlj (by omega)
              ·
               have hb12 := HW.out.1
               have HBv1_12 : Hid ((wr).heap[qv1]? = some (.cells #[.slice o1 n1 c1, .slice o2 n2 c2, .slice (some ⟨g3, 0, none⟩) n3 c3, .slice o4 n4 c4, .int .i64 s.nx, .int .i64 s.sq] 53)) := HW.out.2.1
               have HBv2_12 : Hid ((wr).heap[qv2]? = some (.cells #[.string x.p, .slice ku1 x.xs.length kuc1, .slice ku2 x.ys.length kuc2, .int .i64 x.st, .slice ku3 x.fs.length kuc3, .string x.b, .int .i64 x.t, .int .i64 x.a, .int .i64 x.q] 103)) := HW.out.2.2
               clear HW hb11 HBv1_11 HBv2_11
               have HTWS : Hid (∀ m, m < i → (kpAt s.ks m).a ≠ x.a) := fun m hm => HJ.out m (by omega)
               clear HJ
               have HN2 : Hid (∀ m, m < i + 1 → KpOk s.ks s.sq m) := fun m hm => by
                by_cases e : m = i
                ·
                 subst e
                 unfold KpOk
                 rw [HEx.out]
                 exact ⟨HYuo.out, HYuka.out, HYukq.out, HASC.out, HTWS.out⟩
                · exact HN.out m (by omega)
               go_wp2_with fail
               go_roundw
               case rel => exact ⟨i + 1, by omega, by go_num, ⟨hb12, HBv1_12.out⟩, HN2⟩
               case measure => simp [intOf]; omega
        ·
         have hb6 := HW.out.1
         have HBv1_6 : Hid ((wr).heap[qv1]? = some (.cells #[.slice o1 n1 c1, .slice o2 n2 c2, .slice o3 n3 c3, .slice o4 n4 c4, .int .i64 s.nx, .int .i64 s.sq] 53)) := HW.out.2
         clear HW hb5 HBv1_5
         have HKA : Hid (∀ m, m < s.ks.length → KpOk s.ks s.sq m) := fun m hm => HN.out m (by rw [← HKS.out, List.length_map, HLN.out.2.2.1] at hm; omega)
         clear HN
         have cv1_2 := (k6c HBv1_6).2.2.1
         go_wp2_with fail
         go_ret
         exact BoolIs.yes ⟨HYud.out, by rw [HLN.out.2.2.2]; exact HB5.out, HYunx.out, HYusq.out, HAL.out, HKA.out⟩ hb6
end Go.Proofs.YtbmhonfgffjpcaaGreat
namespace Go.Proofs.YtbmhonfgffjpcaaGreat
open Go.RowKit
open Go.Lib hiding intOf
/-- A cache that was measured. -/
structure CaSmall (y : CaD) : Prop where
 s : ShSmall y.s
 fl : ∀ k ∈ y.fl, FlSmall k
 se : ∀ k ∈ y.se, SeSmall k
 sn : ∀ k ∈ y.sn, RpSmall k
 nf : y.fl.length ≤ 1048576
 ne : y.se.length ≤ 1048576
 nr : y.sn.length ≤ 1048576
theorem fs_get {fs : List (ByteArray × ByteArray)} (h : szTo fs fs.length ≤ 1048576) (x : ByteArray) : (getV fs x).size ≤ 1048576 := by
 unfold getV
 split
 ·
  rename_i hx
  have := szTo_get fs fs.length (atF fs x) hx
  omega
 · decide
theorem fs_copy {fs : List (ByteArray × ByteArray)} (h : szTo fs fs.length ≤ 1048576) : CopyF fs := fun i hi => by
 have := szTo_get fs fs.length i hi
 omega
theorem fs_walk {fs : List (ByteArray × ByteArray)} (h : szTo fs fs.length ≤ 1048576) : WalkF fs.length fs := fun i hi => by
 have := szTo_get fs fs.length i hi
 unfold maxLen
 omega
end Go.Proofs.YtbmhonfgffjpcaaGreat
namespace Go.Proofs.YtbmhonfgffjpcaaGreat
open Go.RowKit
open Go.Lib hiding intOf
theorem timeOk_any (t : Int) (w : World) :
  Calls Tryz.prog 68 #[.int .i64 t] w fun e w' => e = .returned (.bool (decide ((0 : Int) ≤ t ∧ t ≤ 1000000))) ∧ w' = w := by
 obtain ⟨D, hD⟩ : ∃ D, D = decide ((0 : Int) ≤ t ∧ t ≤ 1000000) := ⟨_, rfl⟩
 rw [← hD]
 by_cases h1 : 0 ≤ t
 ·
  by_cases h2 : t ≤ 1000000
  ·
   have HD : Hid (D = true) := by show _ = _; rw [hD]; exact decide_eq_true ⟨h1, h2⟩
   clear hD
   go_enter Tryz.func68, Tryz.ntmps68
   go_wp2
   go_ret
   exact ⟨by rw [HD.out]; rfl, rfl⟩
  ·
   have HD : Hid (D = false) := by show _ = _; rw [hD]; exact decide_eq_false (fun h => h2 h.2)
   clear hD
   go_enter Tryz.func68, Tryz.ntmps68
   go_wp2
   go_ret
   exact ⟨by rw [HD.out]; rfl, rfl⟩
 ·
  have HD : Hid (D = false) := by show _ = _; rw [hD]; exact decide_eq_false (fun h => h1 h.1)
  clear hD
  go_enter Tryz.func68, Tryz.ntmps68
  go_wp2
  go_ret
  exact ⟨by rw [HD.out]; rfl, rfl⟩
theorem valuesOk_any (oa : Option Addr) (m cm : Nat) (xs : List ByteArray) (w : World) (hx : TextsA w oa m xs) (hm : m ≤ 2000000) (hsz : ∀ i, i < m → (textAt xs i).size ≤ maxLen) :
  Calls Tryz.prog 158 #[.slice oa m cm] w fun e w' => BoolIs (∀ y ∈ xs, ValOk y) w e w' := by
 have HV : Hid (∀ W, Below w.heap.size w W → TextsA W oa m xs) := fun W h => hx.below h
 have HL : Hid (xs.length = m) := hx.1
 have HS : Hid (∀ i, i < m → (textAt xs i).size ≤ maxLen) := hsz
 clear hx hsz
 go_enter Tryz.func158, Tryz.ntmps158
 go_wp2
 go_loopw [7] (fun i wr => ∃ j : Nat, j ≤ m ∧ i = .int .i64 (j : Int) ∧ Hid (Below w.heap.size w wr) ∧ Hid (∀ x ∈ xs.take j, ValOk x)) (fun i _ => m - (intOf i).toNat)
 case atStart => exact ⟨0, Nat.zero_le _, rfl, Below.refl _ _, fun x hx => by simp at hx⟩
 case round =>
  obtain ⟨j, hj, rfl, HW, HN⟩ := hrel
  by_cases hlt : (j : Int) < (m : Int)
  ·
   have hjx : j < xs.length := by rw [HL.out]; omega
   obtain ⟨g, hog, hg, hc⟩ := (HV.out wr HW.out).2 j (by omega)
   subst hog
   have hs := HS.out j (by omega)
   obtain ⟨x, hxx⟩ := exq (textAt xs j)
   rw [← hxx] at hc hs
   have HM : Hid (x ∈ xs) := by show _ ∈ _; rw [hxx]; exact textAt_mem xs j hjx
   have HTK : Hid (xs.take (j + 1) = xs.take j ++ [x]) := by show _ = _; rw [take_textAt xs j hjx, hxx]
   clear hxx hjx
   go_wp2_with fail
   refine (implValueOk_any x _ hs).mono ?_
   rintro e w90 ⟨tx, rfl, htx, bw⟩
   have HW2 : Hid (Below w.heap.size w w90) := HW.out.trans (bw.mono HW.out.size)
   clear bw hc HW
   cases tx with
   | false =>
    have HF : Hid (¬ ∀ y ∈ xs, ValOk y) := fun h => nomatch htx.2 (h x HM.out)
    clear htx HN
    go_wp2_with fail
    go_ret
    exact BoolIs.no HF.out HW2.out
   | true =>
    have HN2 : Hid (∀ y ∈ xs.take (j + 1), ValOk y) := by
     intro y hy
     rw [HTK.out] at hy
     rcases List.mem_append.1 hy with hy | hy
     · exact HN.out y hy
     · rw [List.mem_singleton.1 hy]; exact htx.1 rfl
    clear htx HN
    go_wp2_with fail
    go_roundw
    case rel => exact ⟨j + 1, by omega, by go_num, HW2, HN2⟩
    case measure => simp [intOf]; omega
  ·
   have HA : Hid (∀ y ∈ xs, ValOk y) := by
    have h := HN.out
    rw [List.take_of_length_le (by rw [HL.out]; omega)] at h
    exact h
   clear HN
   go_wp2_with fail
   go_ret
   exact ⟨true, rfl, ⟨fun _ => HA.out, fun _ => rfl⟩, HW.out⟩
theorem equalT_any (oa ob : Option Addr) (m cm k ck : Nat) (xs ys : List ByteArray) (w : World) (hx : TextsA w oa m xs) (hm : m ≤ 2000000) (hy : TextsA w ob k ys) (hk : k ≤ 2000000) :
  Calls Tryz.prog 155 #[.slice oa m cm, .slice ob k ck] w fun e w' => e = .returned (.bool (decide (xs = ys))) ∧ Below w.heap.size w w' := by
 by_cases hmk : m = k
 ·
  subst hmk
  by_cases h0 : m = 0
  ·
   subst h0
   refine (Tryz.slices_Equal_string_empty oa ob cm 0 ck w (by omega)).mono ?_
   rintro e w1 ⟨rfl, rfl⟩
   refine ⟨?_, Below.refl _ _⟩
   rw [List.length_eq_zero_iff.1 hx.1, List.length_eq_zero_iff.1 hy.1]
   simp
  ·
   obtain ⟨g, rfl, _, _⟩ := hx.2 0 (by omega)
   obtain ⟨q, rfl, _, _⟩ := hy.2 0 (by omega)
   refine (Tryz.slices_Equal_string g 0 m cm q 0 m ck xs ys w (by rw [hx.1]; exact Nat.le_refl _) (by rw [hy.1]; exact Nat.le_refl _) (by omega) (by omega) (fun j hj => ?_) (fun j hj => ?_)).mono ?_
   ·
    obtain ⟨g2, e2, _, h3⟩ := hx.2 j (by rw [← hx.1]; exact hj)
    cases e2
    rw [Nat.zero_add]
    exact h3
   ·
    obtain ⟨g2, e2, _, h3⟩ := hy.2 j (by rw [← hy.1]; exact hj)
    cases e2
    rw [Nat.zero_add]
    exact h3
   ·
    rintro e w1 ⟨rfl, n, rfl⟩
    refine ⟨?_, ⟨rfl, rfl, rfl, Nat.le_refl _, fun _ _ => rfl⟩⟩
    rw [List.take_of_length_le (by rw [hx.1]; exact Nat.le_refl _), List.take_of_length_le (by rw [hy.1]; exact Nat.le_refl _)]
 ·
  refine (Tryz.slices_Equal_string_lens oa ob m cm k ck w hmk).mono ?_
  rintro e w1 ⟨rfl, rfl⟩
  refine ⟨?_, Below.refl _ _⟩
  rw [decide_eq_false (fun h => hmk (by rw [← hx.1, ← hy.1, h]))]
end Go.Proofs.YtbmhonfgffjpcaaGreat
namespace Go.Proofs.YtbmhonfgffjpcaaGreat
open Go.RowKit
open Go.Lib hiding intOf
attribute [local go_sem] Oper.semAt_some
theorem implVaryOf_any (v : Value) (n base : Nat) (fs : List (ByteArray × ByteArray)) (w : World) (hv : FieldsV w base v n fs) (hn : n ≤ 1073741824) (hcp : CopyF fs) (hsz : (getV fs varyName).size ≤ 1048576) :
  Calls Tryz.prog 156 #[v] w fun e w' => RowIs w.heap.size (varyP fs) w e w' := by
 obtain ⟨s, hs⟩ := exq (getV fs varyName)
 have HS : Hid (getV fs varyName = s) := hs.symm
 have HE : Hid (varyP fs = (splitL s).map lowerOf) := by show _ = _; unfold varyP; rw [HS.out]
 rw [← hs] at hsz
 have hl1 := (splitL_le s).1
 clear hs
 go_enter Tryz.func156, Tryz.ntmps156
 go_wp2_with fail
 refine (implGet_any v n base fs varyName _ hv hn hcp).mono ?_
 rintro e w1 ⟨rfl, b1⟩
 rw [HS.out]
 clear hv
 go_wp2_with fail
 refine (implSplit_any s _ hsz).mono ?_
 rintro e w2 ⟨V, rfl, O, b2⟩
 obtain ⟨xs, hxs⟩ := exq (splitL s)
 rw [← hxs] at hl1 O HE
 obtain ⟨m, hm⟩ := exq xs.length
 rw [← hm] at hl1 O
 have HM : Hid (xs.length = m) := hm.symm
 have O := owns_base O b1.size
 have b2 : Below w.heap.size w w2 := b1.trans (b2.mono b1.size)
 clear hxs hm b1
 rcases row_form O with ⟨oa, ca, rfl, h0, h1⟩ | ⟨g, cap, rfl, hp, r1⟩
 ·
  subst h0 h1
  go_wp2_with fail
  refine wp_loop_rounds 1 ?_
  rw [rounds_succ]
  go_wp2_with fail
  go_ret
  exact RowIs.of (by rw [HE.out]; rfl) rfl O b2
 ·
  clear O
  have HB2 : Hid (Below w.heap.size w w2) := b2
  have HR1 : Hid (TextRow w.heap.size w2 g m cap (loTo xs 0)) := by show TextRow _ _ _ _ _ _; rw [loTo_zero]; exact r1
  clear b2 r1
  go_wp2_with fail
  go_loopw [17] (fun i wr => ∃ j : Nat, j ≤ m ∧ i = .int .i64 (j : Int) ∧ Hid (Below w.heap.size w wr) ∧ Hid (TextRow w.heap.size wr g m cap (loTo xs j))) (fun i _ => m - (intOf i).toNat)
  case atStart => exact ⟨0, Nat.zero_le _, rfl, HB2, HR1⟩
  case round =>
   obtain ⟨j, hj, rfl, HB, HR⟩ := hrel
   by_cases hlt : j < m
   ·
    have hlt2 : (j : Int) < (m : Int) := by omega
    obtain ⟨x, hx⟩ := exq (textAt xs j)
    have hc := HR.out.cell j hlt
    rw [loTo_at, ← hx] at hc
    have HST : Hid ((loTo xs j).set j (lowerOf x) = loTo xs (j + 1)) := by show _ = _; rw [hx]; exact loTo_step xs j (by rw [HM.out]; exact hlt)
    clear hx
    go_wp2_with fail
    refine (implLower_any x _).mono ?_
    rintro e w3 ⟨rfl, hb3⟩
    have hrow := HR.out.below hb3 HR.out.lt
    have hc3 := hrow.cell j hlt
    have hf3 := hrow.frozen j
    have HB3 : Hid (Below w.heap.size w (w3.setCell ⟨g, j, none⟩ (.string (lowerOf x)))) := (HB.out.trans (hb3.mono HB.out.size)).setCell HR.out.base _
    have HR3 : Hid (TextRow w.heap.size (w3.setCell ⟨g, j, none⟩ (.string (lowerOf x))) g m cap (loTo xs (j + 1))) := by
     show TextRow _ _ _ _ _ _
     rw [← HST.out]
     exact hrow.set j hlt _
    clear hb3 hrow HB HR HST hc
    go_wp2_with fail
    go_roundw
    case rel => exact ⟨j + 1, by omega, by go_num, HB3, HR3⟩
    case measure => simp [intOf]; omega
   ·
    obtain rfl : j = m := by omega
    go_wp2_with fail
    go_ret
    exact RowIs.of (by rw [HE.out, loTo_all xs j (by rw [HM.out]; exact Nat.le_refl _)]) (by rw [loTo_all xs j (by rw [HM.out]; exact Nat.le_refl _), List.length_map, HM.out]) HR.out.owns HB.out
end Go.Proofs.YtbmhonfgffjpcaaGreat
namespace Go.Proofs.YtbmhonfgffjpcaaGreat
open Go.RowKit
open Go.Lib hiding intOf
theorem namesOk_any (oa : Option Addr) (m cm : Nat) (xs : List ByteArray) (w : World) (hx : TextsA w oa m xs) (hm : m ≤ 2000000) (hsz : ∀ i, i < m → (textAt xs i).size ≤ maxLen) :
  Calls Tryz.prog 157 #[.slice oa m cm] w fun e w' => BoolIs (NamesP xs) w e w' := by
 by_cases h4 : (4 : Int) < (m : Int)
 ·
  have HF : Hid (¬ NamesP xs) := fun h => by have := h.2; rw [hx.1] at this; omega
  clear hx hsz
  go_enter Tryz.func157, Tryz.ntmps157
  go_wp2_with fail
  go_ret
  exact BoolIs.no HF.out (Below.refl _ _)
 have HX : Hid (∀ W, Below w.heap.size w W → TextsA W oa m xs) := fun W h => hx.below h
 have HL : Hid (xs.length = m) := hx.1
 have HS : Hid (∀ i, i < m → (textAt xs i).size ≤ maxLen) := hsz
 clear hx hsz
 go_enter Tryz.func157, Tryz.ntmps157
 go_wp2_with fail
 go_loopw [10] (fun i wr => ∃ j : Nat, j ≤ m ∧ i = .int .i64 (j : Int) ∧ Below w.heap.size w wr ∧ Hid (∀ x ∈ xs.take j, TokOk x)) (fun i _ => m - (intOf i).toNat)
 case atStart => exact ⟨0, Nat.zero_le _, rfl, Below.refl _ _, fun x hx => by simp at hx⟩
 case round =>
  obtain ⟨j, hj, rfl, hbw, HN⟩ := hrel
  by_cases hlt : (j : Int) < (m : Int)
  ·
   have hjx : j < xs.length := by rw [HL.out]; omega
   obtain ⟨g, rfl, hg, hc⟩ := (HX.out wr hbw).2 j (by omega)
   have hs := HS.out j (by omega)
   obtain ⟨x, hxx⟩ := exq (textAt xs j)
   rw [← hxx] at hc hs
   have HM : Hid (x ∈ xs) := by show _ ∈ _; rw [hxx]; exact textAt_mem xs j hjx
   have HT : Hid (xs.take (j + 1) = xs.take j ++ [x]) := by show _ = _; rw [take_textAt xs j hjx, hxx]
   clear hxx hjx
   go_wp2_with fail
   refine (implTokenOk_any x _ hs).mono ?_
   rintro e w1 ⟨t, rfl, ht, b1⟩
   have hb1 : Below w.heap.size w w1 := hbw.trans (b1.mono hbw.size)
   clear b1 hbw hc
   cases t with
   | false =>
    have HF : Hid (¬ NamesP xs) := fun h => nomatch ht.2 (h.1 x HM.out)
    clear ht HN
    go_wp2_with fail
    go_ret
    exact BoolIs.no HF.out hb1
   | true =>
    have HN2 : Hid (∀ y ∈ xs.take (j + 1), TokOk y) := by
     intro y hy
     rw [HT.out] at hy
     rcases List.mem_append.1 hy with hy | hy
     · exact HN.out y hy
     · rw [List.mem_singleton.1 hy]; exact ht.1 rfl
    clear ht HN
    go_wp2_with fail
    go_roundw
    case rel => exact ⟨j + 1, by omega, by go_num, hb1, HN2⟩
    case measure => simp [intOf]; omega
  ·
   have HQ : Hid (NamesP xs) := ⟨by
    have h := HN.out
    rw [List.take_of_length_le (by rw [HL.out]; omega)] at h
    exact h, by rw [HL.out]; omega⟩
   clear HN
   go_wp2_with fail
   go_ret
   exact ⟨true, rfl, ⟨fun _ => HQ.out, fun _ => rfl⟩, hbw⟩
end Go.Proofs.YtbmhonfgffjpcaaGreat
namespace Go.Proofs.YtbmhonfgffjpcaaGreat
open Go.RowKit
open Go.Lib hiding intOf
theorem fieldOk_any (v : Value) (n base : Nat) (fs : List (ByteArray × ByteArray)) (k : Nat) (w : World) (hv : FieldsV w base v n fs) (hn : n ≤ 1073741824) (hk : k < n) (hs1 : (nameAt fs k).size ≤ maxLen) (hs2 : (valAt fs k).size ≤ maxLen) :
  Calls Tryz.prog 213 #[v, .int .i64 (k : Int)] w fun e w' => BoolIs (FldOk fs k) w e w' := by
 have HV : Hid (∀ W, Below w.heap.size w W → FieldsV W base v n fs) := fun W h => hv.below h
 obtain ⟨oa, cap, rfl, hrow⟩ := hv.slice
 obtain ⟨g, rfl, row⟩ := hrow k hk
 have hlt2 : (k : Int) < (n : Int) := by omega
 have hc1 := row.name k hk
 have hc2 := row.val k hk
 obtain ⟨nm, hnm⟩ := exq (nameAt fs k)
 obtain ⟨vl, hvl⟩ := exq (valAt fs k)
 have HO : Hid (FldOk fs k ↔ TokOk nm ∧ ValOk vl ∧ atF fs nm = k ∧ nm ≠ clen) := by rw [hnm, hvl]; exact Iff.rfl
 rw [← hnm] at hc1 hs1
 rw [← hvl] at hc2 hs2
 clear hv hrow row hnm hvl
 obtain ⟨r, hr⟩ := exq (w.heap.size)
 have h0 : (w.alloc (.cells #[.string nm, .string vl] 171)).heap.size = w.heap.size + 1 := by simp
 have HB0 : Hid (Below w.heap.size w (w.alloc (.cells #[.string nm, .string vl] 171)) ∧ w.heap.size ≤ (w.alloc (.cells #[.string nm, .string vl] 171)).heap.size) := ⟨(Below.refl _ w).alloc (Nat.le_refl _) _, by omega⟩
 have HR : Hid (∀ W, Below (w.alloc (.cells #[.string nm, .string vl] 171)).heap.size (w.alloc (.cells #[.string nm, .string vl] 171)) W → W.cell? ⟨r, 0, none⟩ = some (.string nm) ∧ W.cell? ⟨r, 1, none⟩ = some (.string vl)) := fun W h => by
  have hh : W.heap[r]? = some (.cells #[.string nm, .string vl] 171) := by rw [hr, h.block _ (by omega)]; exact heap_alloc_new w _
  exact ⟨by simp [World.cell?, hh], by simp [World.cell?, hh]⟩
 go_enter Tryz.func213, Tryz.ntmps213
 go_wp2_with fail
 refine (implTokenOk_any nm _ hs1).mono ?_
 rintro e w1 ⟨b1, rfl, kb1, bb1⟩
 rw [← hr]
 have hb1 : Below w.heap.size w w1 := HB0.out.1.trans (bb1.mono HB0.out.2)
 obtain ⟨d1, d2⟩ := HR.out w1 bb1
 clear h0
 cases b1
 ·
  have HF : Hid (¬ FldOk fs k) := fun h => by have := kb1.2 (HO.out.1 h).1; cases this
  clear kb1 hc1 hc2 bb1 hr
  go_wp2_with fail
  go_ret
  exact BoolIs.no HF.out hb1
 ·
  have HT : Hid (TokOk nm) := kb1.1 rfl
  clear kb1 hc1 hc2 hr
  go_wp2_with fail
  refine (implValueOk_any vl _ hs2).mono ?_
  rintro e w2 ⟨b2, rfl, kb2, bb2⟩
  have bb2' := bb1.trans (bb2.mono bb1.size)
  have hb2 : Below w.heap.size w w2 := HB0.out.1.trans (bb2'.mono HB0.out.2)
  obtain ⟨d3, d4⟩ := HR.out w2 bb2'
  cases b2
  ·
   have HF : Hid (¬ FldOk fs k) := fun h => by have := kb2.2 (HO.out.1 h).2.1; cases this
   clear kb2 bb1 bb2 bb2' hb1 d1 d2
   go_wp2_with fail
   go_ret
   exact BoolIs.no HF.out hb2
  ·
   have HT2 : Hid (ValOk vl) := kb2.1 rfl
   clear kb2 bb1 bb2 bb2' hb1 d1 d2
   by_cases hcl : nm = clen
   ·
    have ht := (text_beq _ _).2 hcl
    rw [clen_list] at ht
    have HF : Hid (¬ FldOk fs k) := fun h => (HO.out.1 h).2.2.2 hcl
    clear hcl
    go_wp2_with fail
    go_ret
    exact BoolIs.no HF.out hb2
   ·
    have ht := text_beq_no hcl
    rw [clen_list] at ht
    have HC : Hid (nm ≠ clen) := hcl
    clear hcl
    go_wp2_with fail
    refine (place_any _ n base fs nm _ (HV.out w2 hb2) hn).mono ?_
    rintro e w3 ⟨rfl, rfl⟩
    by_cases hat : atF fs nm = k
    ·
     have HY : Hid (FldOk fs k) := HO.out.2 ⟨HT.out, HT2.out, hat, HC.out⟩
     rw [hat]
     clear hat
     go_wp2
     go_ret
     exact BoolIs.yes HY.out hb2
    ·
     have HF : Hid (¬ FldOk fs k) := fun h => hat (HO.out.1 h).2.2.1
     have hne : ((atF fs nm : Int) == (k : Int)) = false := by rw [beq_eq_false_iff_ne]; omega
     clear hat
     go_wp2
     go_ret
     exact BoolIs.no HF.out hb2
theorem ok_any (v : Value) (n base : Nat) (fs : List (ByteArray × ByteArray)) (w : World) (hv : FieldsV w base v n fs) (hn : n ≤ 1073741824) (hsz : ∀ i, i < n → (nameAt fs i).size ≤ maxLen ∧ (valAt fs i).size ≤ maxLen) :
  Calls Tryz.prog 206 #[v] w fun e w' => BoolIs (FldsOk fs) w e w' := by
 have hl := hv.len
 have HV : Hid (∀ W, Below w.heap.size w W → FieldsV W base v n fs) := fun W h => hv.below h
 have HS : Hid (∀ i, i < n → (nameAt fs i).size ≤ maxLen ∧ (valAt fs i).size ≤ maxLen) := hsz
 obtain ⟨oa, cap, rfl, hrow⟩ := hv.slice
 clear hv hrow hsz
 by_cases h8 : (8 : Int) < (n : Int)
 ·
  have HF : Hid (¬ FldsOk fs) := fun h => by have := h.1; omega
  go_enter Tryz.func206, Tryz.ntmps206
  go_wp2
  go_ret
  exact BoolIs.no HF.out (Below.refl _ _)
 ·
  go_enter Tryz.func206, Tryz.ntmps206
  go_wp2
  go_loopw [9] (fun i wr => ∃ k : Nat, k ≤ n ∧ i = .int .i64 (k : Int) ∧ Hid (∀ j, j < k → FldOk fs j) ∧ Below w.heap.size w wr) (fun i _ => n - (intOf i).toNat)
  case atStart => exact ⟨0, Nat.zero_le _, rfl, fun j h => absurd h (by omega), Below.refl _ _⟩
  case round =>
   obtain ⟨k, hk, rfl, hall, hbw⟩ := hrel
   by_cases hlt : k < n
   ·
    have hlt2 : (k : Int) < (n : Int) := by omega
    obtain ⟨hs1, hs2⟩ := HS.out k hlt
    go_wp2_with fail
    refine (fieldOk_any _ n base fs k _ (HV.out wr hbw) hn hlt hs1 hs2).mono ?_
    rintro e w1 ⟨b1, rfl, kb1, bb1⟩
    have hb1 : Below w.heap.size w w1 := hbw.trans (bb1.mono hbw.size)
    cases b1
    ·
     have HF : Hid (¬ FldsOk fs) := fun h => by have := kb1.2 (h.2 k (by omega)); cases this
     clear kb1 bb1
     go_wp2
     go_ret
     exact BoolIs.no HF.out hb1
    ·
     have HY : Hid (FldOk fs k) := kb1.1 rfl
     clear kb1 bb1
     go_wp2
     go_roundw
     case rel =>
      refine ⟨k + 1, by omega, by go_num, ?_, hb1⟩
      intro j hj
      by_cases e : j = k
      · subst e; exact HY.out
      · exact hall.out j (by omega)
     case measure => simp [intOf]; omega
   ·
    have HF : Hid (FldsOk fs) := ⟨by omega, fun i hi => hall.out i (by omega)⟩
    go_wp2
    go_ret
    exact BoolIs.yes HF.out hbw
end Go.Proofs.YtbmhonfgffjpcaaGreat
namespace Go.Proofs.YtbmhonfgffjpcaaGreat
open Go.RowKit
open Go.Lib hiding intOf
theorem path_cls (n : Int) : PathB n ↔ (cls n ≠ 4 ∧ cls n ≠ 7) := by
 have := cls_spec n
 unfold PathB
 constructor
 · intro h; omega
 · intro h; omega
theorem path_small {n : Int} (h : PathB n) : n < 128 := by unfold PathB at h; omega
theorem isPathRune_any (r : Int) (w : World) :
  Calls Tryz.prog 183 #[.int .i32 r] w fun e w' => BoolIs (PathB r) w e w' := by
 have HP : Hid (PathB r ↔ (cls r ≠ 4 ∧ cls r ≠ 7)) := path_cls r
 go_enter Tryz.func183, Tryz.ntmps183
 go_wp2_with fail
 refine (classOf_any r _).mono ?_
 rintro e w1 ⟨rfl, hb⟩
 generalize cls r = c at HP ⊢
 by_cases h4 : c = 4
 ·
  have HN : Hid (¬ PathB r) := fun h => (HP.out.1 h).1 h4
  subst h4
  go_wp2_with fail
  go_ret
  exact BoolIs.no HN.out hb
 ·
  have h5 : (c != 4) = true := by rw [bne_iff_ne]; exact h4
  by_cases h7 : c = 7
  ·
   have HN : Hid (¬ PathB r) := fun h => (HP.out.1 h).2 h7
   subst h7
   go_wp2_with fail
   go_ret
   exact BoolIs.no HN.out hb
  ·
   have h8 : (c != 7) = true := by rw [bne_iff_ne]; exact h7
   have HY : Hid (PathB r) := HP.out.2 ⟨h4, h7⟩
   go_wp2_with fail
   go_ret
   exact BoolIs.yes HY.out hb
theorem allRunes_path (s : ByteArray) (w : World) :
  Calls Tryz.prog 182 #[.string s, .func (.func 183) #[] #[]] w fun e w' => BoolIs (AllB PathB s) w e w' := by
 go_enter Tryz.func182, Tryz.ntmps182
 go_wp2
 go_loopw [6] (fun _ wr => ∃ pos : Nat, wr.heap[w.heap.size]? = some (.stringIter s pos) ∧ Below w.heap.size w wr ∧ Hid (AllTo PathB s pos)) (fun _ wr => s.size - wr.iterPos w.heap.size)
 case atStart => exact ⟨0, World.iter_heap _ _ _, (Below.refl _ _).alloc (Nat.le_refl _) _, allTo_zero _ _⟩
 case round =>
  obtain ⟨pos, hh, hbw, hall⟩ := hrel
  by_cases hp : pos < s.size
  ·
   have hnx := fun ty => run_next_any_at (P := Tryz.prog) wr w.heap.size s pos ty hh hp
   go_wp2_with (go_at_call 183; refine (isPathRune_any _ _).mono ?_; rintro e w1 ⟨b, rfl, hbt, hb1⟩)
   ·
    have hbf : b = false := by simpa using ‹(!b) = true›
    have hno : ¬ PathB ((Utf8.decode s pos).1 : Int) := fun h => by rw [hbt.2 h] at hbf; cases hbf
    go_ret
    exact BoolIs.no (rune_no (fun _ => path_small) s pos hp hno) (iter_step hh hbw hb1).2
   ·
    have hbf : b = true := by simpa using ‹(!b) = false›
    obtain ⟨hv, hone⟩ := rune_ok (fun _ => path_small) s pos hp (hbt.1 hbf)
    rw [hone] at hb1
    obtain ⟨h1, h2⟩ := iter_step hh hbw hb1
    exact ⟨⟨pos + 1, h1, h2, allTo_succ hall.out hp hv⟩, by rw [iterPos_of h1, iterPos_of hh]; omega⟩
  ·
   have hnx := fun ty => run_next_end_at (P := Tryz.prog) wr w.heap.size s pos ty hh hp
   go_wp2
   go_ret
   exact BoolIs.yes (allTo_end hall.out hp) hbw
theorem pathOk_any (s : ByteArray) (w : World) (hs : s.size ≤ maxLen) :
  Calls Tryz.prog 154 #[.string s] w fun e w' => BoolIs (PathOk s) w e w' := by
 unfold maxLen at hs
 by_cases h1 : (1 : Int) ≤ (s.size : Int)
 ·
  have h0 : 0 < s.size := by omega
  by_cases h2 : (s.size : Int) ≤ 60
  ·
   by_cases h3 : ((s[0]'h0).toNat : Int) = 47
   ·
    have h4 : (((s[0]'h0).toNat : Int) == 47) = true := by rw [beq_iff_eq]; exact h3
    have H3 : Hid ((s[0]'h0).toNat = 47) := by show _ = _; omega
    clear h3
    go_enter Tryz.func154, Tryz.ntmps154
    go_wp2_with fail
    refine (allRunes_path s _).mono ?_
    rintro e w1 ⟨b, rfl, hbt, hb1⟩
    cases b
    ·
     have HN : Hid (¬ PathOk s) := fun h => by have := hbt.2 h.1; cases this
     clear hbt
     go_wp2_with fail
     go_ret
     exact BoolIs.no HN.out hb1
    ·
     have HY : Hid (PathOk s) := ⟨hbt.1 rfl, by omega, by omega, h0, H3.out⟩
     clear hbt
     go_wp2_with fail
     go_ret
     exact BoolIs.yes HY.out hb1
   ·
    have h4 : (((s[0]'h0).toNat : Int) == 47) = false := by rw [beq_eq_false_iff_ne]; exact h3
    have HN : Hid (¬ PathOk s) := fun h => by obtain ⟨_, _, _, _, h5⟩ := h; omega
    clear h3
    go_enter Tryz.func154, Tryz.ntmps154
    go_wp2_with fail
    go_ret
    exact BoolIs.no HN.out (Below.refl _ _)
  ·
   have HN : Hid (¬ PathOk s) := fun h => by obtain ⟨_, _, h5, _⟩ := h; omega
   have hd : decide ((s.size : Int) ≤ 60) = false := by simpa using h2
   go_enter Tryz.func154, Tryz.ntmps154
   go_wp2_with fail
   go_ret
   exact BoolIs.no HN.out (Below.refl _ _)
 ·
  have HN : Hid (¬ PathOk s) := fun h => by obtain ⟨_, h5, _⟩ := h; omega
  have hd : decide ((1 : Int) ≤ (s.size : Int)) = false := by simpa using h1
  go_enter Tryz.func154, Tryz.ntmps154
  go_wp2_with fail
  go_ret
  exact BoolIs.no HN.out (Below.refl _ _)
theorem methB_none {m : Int} (h : ¬ (1 ≤ m ∧ m ≤ 4)) : methB m = ⟨#[]⟩ := by
 unfold methB
 rw [if_neg (by omega), if_neg (by omega), if_neg (by omega), if_neg (by omega)]
theorem methodName_any (m : Int) (w : World) :
  Calls Tryz.prog 189 #[.int .i64 m] w fun e w' => e = .returned (.string (methB m)) ∧ w' = w := by
 by_cases h1 : m = 1
 ·
  subst h1
  go_enter Tryz.func189, Tryz.ntmps189
  go_wp2
  go_ret
  exact ⟨rfl, rfl⟩
 ·
  by_cases h2 : m = 2
  ·
   subst h2
   go_enter Tryz.func189, Tryz.ntmps189
   go_wp2
   go_ret
   exact ⟨rfl, rfl⟩
  ·
   by_cases h3 : m = 3
   ·
    subst h3
    go_enter Tryz.func189, Tryz.ntmps189
    go_wp2
    go_ret
    exact ⟨rfl, rfl⟩
   ·
    by_cases h4 : m = 4
    ·
     subst h4
     go_enter Tryz.func189, Tryz.ntmps189
     go_wp2
     go_ret
     exact ⟨rfl, rfl⟩
    ·
     have HE : Hid (methB m = ⟨#[]⟩) := methB_none (by omega)
     have e1 : (m == 1) = false := by rw [beq_eq_false_iff_ne]; exact h1
     have e2 : (m == 2) = false := by rw [beq_eq_false_iff_ne]; exact h2
     have e3 : (m == 3) = false := by rw [beq_eq_false_iff_ne]; exact h3
     have e4 : (m == 4) = false := by rw [beq_eq_false_iff_ne]; exact h4
     go_enter Tryz.func189, Tryz.ntmps189
     go_wp2
     go_ret
     exact ⟨by rw [HE.out]; rfl, rfl⟩
/-- What is right of what stands behind the first line. -/
def RestP (fs : List (ByteArray × ByteArray)) (b : ByteArray) : Prop := FldsOk fs ∧ b.size ≤ 120
theorem restOk_any (v : Value) (b : ByteArray) (n base : Nat) (fs : List (ByteArray × ByteArray)) (w : World) (hv : FieldsV w base v n fs) (hn : n ≤ 1073741824) (hsz : WalkF n fs) (hb : b.size ≤ maxLen) :
  Calls Tryz.prog 190 #[.agg #[v, .string b]] w fun e w' => BoolIs (RestP fs b) w e w' := by
 obtain ⟨oa, cap, rfl, _⟩ := hv.slice
 obtain ⟨r, hr⟩ := exq (w.heap.size)
 have HR : Hid (∀ W, Below (w.alloc (.cells #[.slice oa n cap, .string b] 228)).heap.size (w.alloc (.cells #[.slice oa n cap, .string b] 228)) W → (W.cell? ⟨r, 0, none⟩ = some (.slice oa n cap) ∧ W.cell? ⟨r, 1, none⟩ = some (.string b)) ∧ FieldsV W base (.slice oa n cap) n fs ∧ Below w.heap.size w W) := fun W h => by
  have hh := kept_new h
  rw [← hr] at hh
  exact ⟨⟨by simp [World.cell?, hh], by simp [World.cell?, hh]⟩, hv.below (below_new h), below_new h⟩
 obtain ⟨_, hv0, _⟩ := HR.out _ (Below.refl _ _)
 unfold maxLen at hb
 go_enter Tryz.func190, Tryz.ntmps190
 go_wp2_with fail
 refine (ok_any _ n base fs _ hv0 hn hsz).mono ?_
 rintro e w1 ⟨b1, rfl, kb1, bb1⟩
 rw [← hr]
 obtain ⟨⟨c0, c1⟩, _, hbw1⟩ := HR.out w1 bb1
 clear hv hv0 hsz bb1 hr
 cases b1
 ·
  have HF : Hid (¬ RestP fs b) := fun h => by have := kb1.2 h.1; cases this
  clear kb1
  go_wp2_with fail
  go_ret
  exact BoolIs.no HF.out hbw1
 ·
  have HT : Hid (FldsOk fs) := kb1.1 rfl
  clear kb1
  by_cases h120 : (b.size : Int) ≤ 120
  ·
   have HY : Hid (RestP fs b) := ⟨HT.out, by omega⟩
   go_wp2_with fail
   go_ret
   exact BoolIs.yes HY.out hbw1
  ·
   have HF : Hid (¬ RestP fs b) := fun h => by have := h.2; omega
   have hd : decide ((b.size : Int) ≤ 120) = false := by simpa using h120
   go_wp2_with fail
   go_ret
   exact BoolIs.no HF.out hbw1
theorem meth_empty {m : Int} (h : 1 ≤ m ∧ m ≤ 4) : (methB m).toList.isEmpty = false := by
 refine isEmpty_no ?_
 rcases meth_cases h with rfl | rfl | rfl | rfl <;> decide
theorem reqOk_any (m : Int) (p : ByteArray) (v : Value) (b : ByteArray) (n base : Nat) (fs : List (ByteArray × ByteArray)) (w : World) (hv : FieldsV w base v n fs) (hn : n ≤ 1073741824) (hsz : WalkF n fs) (hp : p.size ≤ maxLen) (hb : b.size ≤ maxLen) :
  Calls Tryz.prog 162 #[.agg #[v, .string b, .int .i64 m, .string p]] w fun e w' => BoolIs (ReqP m p fs b) w e w' := by
 obtain ⟨oa, cap, rfl, _⟩ := hv.slice
 obtain ⟨r, hr⟩ := exq (w.heap.size)
 have HR : Hid (∀ W, Below (w.alloc (.cells #[.slice oa n cap, .string b, .int .i64 m, .string p] 230)).heap.size (w.alloc (.cells #[.slice oa n cap, .string b, .int .i64 m, .string p] 230)) W → (W.cell? ⟨r, 0, none⟩ = some (.slice oa n cap) ∧ W.cell? ⟨r, 1, none⟩ = some (.string b) ∧ W.cell? ⟨r, 2, none⟩ = some (.int .i64 m) ∧ W.cell? ⟨r, 3, none⟩ = some (.string p)) ∧ FieldsV W base (.slice oa n cap) n fs ∧ Below w.heap.size w W) := fun W h => by
  have hh := kept_new h
  rw [← hr] at hh
  exact ⟨⟨by simp [World.cell?, hh], by simp [World.cell?, hh], by simp [World.cell?, hh], by simp [World.cell?, hh]⟩, hv.below (below_new h), below_new h⟩
 have HSZ : Hid (WalkF n fs) := hsz
 have HP : Hid (p.size ≤ maxLen) := hp
 have HBS : Hid (b.size ≤ maxLen) := hb
 clear hv hsz hp hb
 go_enter Tryz.func162, Tryz.ntmps162
 go_wp2_with fail
 refine (methodName_any m _).mono ?_
 rintro e w1 ⟨rfl, hw1⟩
 have hb1 : Below (w.alloc (.cells #[.slice oa n cap, .string b, .int .i64 m, .string p] 230)).heap.size (w.alloc (.cells #[.slice oa n cap, .string b, .int .i64 m, .string p] 230)) w1 := by rw [hw1]; exact Below.refl _ _
 clear hw1
 rw [← hr]
 obtain ⟨⟨c0, c1, c2, c3⟩, _, hbw1⟩ := HR.out w1 hb1
 by_cases hm : 1 ≤ m ∧ m ≤ 4
 ·
  have e1 := meth_empty hm
  have HM : Hid (1 ≤ m ∧ m ≤ 4) := hm
  generalize methB m = mt at e1 ⊢
  clear hr hm
  go_wp2_with fail
  refine (pathOk_any p _ HP.out).mono ?_
  rintro e w2 ⟨b1, rfl, kb1, bb2⟩
  have hb2 := hb1.trans (bb2.mono hb1.size)
  clear c0 c1 c2 c3 bb2 hb1 hbw1
  obtain ⟨⟨c0, c1, c2, c3⟩, hv2, hbw2⟩ := HR.out w2 hb2
  have HV2 : Hid (FieldsV w2 base (.slice oa n cap) n fs) := hv2
  clear hv2
  cases b1
  ·
   have HF : Hid (¬ ReqP m p fs b) := fun h => by have := kb1.2 h.2.1; cases this
   clear kb1
   go_wp2_with fail
   go_ret
   exact BoolIs.no HF.out hbw2
  ·
   have HT : Hid (PathOk p) := kb1.1 rfl
   clear kb1
   go_wp2_with fail
   refine (restOk_any _ b n base fs _ HV2.out hn HSZ.out HBS.out).mono ?_
   rintro e w3 ⟨b2, rfl, kb2, bb3⟩
   have hb3 := hb2.trans (bb3.mono hb2.size)
   clear c0 c1 c2 c3 bb3 hb2 hbw2
   obtain ⟨_, _, hbw3⟩ := HR.out w3 hb3
   cases b2
   ·
    have HF : Hid (¬ ReqP m p fs b) := fun h => by have := kb2.2 h.2.2; cases this
    clear kb2
    go_wp2_with fail
    go_ret
    exact BoolIs.no HF.out hbw3
   ·
    have HY : Hid (ReqP m p fs b) := ⟨HM.out, HT.out, kb2.1 rfl⟩
    clear kb2
    go_wp2_with fail
    go_ret
    exact BoolIs.yes HY.out hbw3
 ·
  have HF : Hid (¬ ReqP m p fs b) := fun h => hm h.1
  rw [methB_none hm]
  clear hr hm
  go_wp2_with fail
  go_ret
  exact BoolIs.no HF.out hbw1
theorem respOk_any (st : Int) (v : Value) (b : ByteArray) (n base : Nat) (fs : List (ByteArray × ByteArray)) (w : World) (hv : FieldsV w base v n fs) (hn : n ≤ 1073741824) (hsz : WalkF n fs) (hb : b.size ≤ maxLen) :
  Calls Tryz.prog 181 #[.agg #[v, .string b, .int .i64 st]] w fun e w' => BoolIs (RespP st fs b) w e w' := by
 obtain ⟨oa, cap, rfl, _⟩ := hv.slice
 obtain ⟨r, hr⟩ := exq (w.heap.size)
 have HR : Hid (∀ W, Below (w.alloc (.cells #[.slice oa n cap, .string b, .int .i64 st] 251)).heap.size (w.alloc (.cells #[.slice oa n cap, .string b, .int .i64 st] 251)) W → (W.cell? ⟨r, 0, none⟩ = some (.slice oa n cap) ∧ W.cell? ⟨r, 1, none⟩ = some (.string b) ∧ W.cell? ⟨r, 2, none⟩ = some (.int .i64 st)) ∧ FieldsV W base (.slice oa n cap) n fs ∧ Below w.heap.size w W) := fun W h => by
  have hh := kept_new h
  rw [← hr] at hh
  exact ⟨⟨by simp [World.cell?, hh], by simp [World.cell?, hh], by simp [World.cell?, hh]⟩, hv.below (below_new h), below_new h⟩
 obtain ⟨_, hv0, hbw0⟩ := HR.out _ (Below.refl _ _)
 have HV0 : Hid (FieldsV (w.alloc (.cells #[.slice oa n cap, .string b, .int .i64 st] 251)) base (.slice oa n cap) n fs) := hv0
 have HSZ : Hid (WalkF n fs) := hsz
 have HBS : Hid (b.size ≤ maxLen) := hb
 clear hv hv0 hsz hb
 by_cases h1 : 100 ≤ st
 ·
  by_cases h2 : st ≤ 599
  ·
   go_enter Tryz.func181, Tryz.ntmps181
   go_wp2_with fail
   refine (restOk_any _ b n base fs _ HV0.out hn HSZ.out HBS.out).mono ?_
   rintro e w3 ⟨b2, rfl, kb2, bb3⟩
   obtain ⟨_, _, hbw3⟩ := HR.out w3 bb3
   clear bb3 hbw0
   cases b2
   ·
    have HF : Hid (¬ RespP st fs b) := fun h => by have := kb2.2 h.2; cases this
    clear kb2
    go_wp2_with fail
    go_ret
    exact BoolIs.no HF.out hbw3
   ·
    have HY : Hid (RespP st fs b) := ⟨⟨h1, h2⟩, kb2.1 rfl⟩
    clear kb2
    go_wp2_with fail
    go_ret
    exact BoolIs.yes HY.out hbw3
  ·
   have HF : Hid (¬ RespP st fs b) := fun h => h2 h.1.2
   have hd : decide (st ≤ 599) = false := by simpa using h2
   go_enter Tryz.func181, Tryz.ntmps181
   go_wp2_with fail
   go_ret
   exact BoolIs.no HF.out hbw0
 ·
  have HF : Hid (¬ RespP st fs b) := fun h => h1 h.1.1
  have hd : decide (100 ≤ st) = false := by simpa using h1
  go_enter Tryz.func181, Tryz.ntmps181
  go_wp2_with fail
  go_ret
  exact BoolIs.no HF.out hbw0
theorem requestOf_any (m : Int) (p : ByteArray) (oa : Option Addr) (n cap : Nat) (b : ByteArray) (w : World) :
  Calls Tryz.prog 161 #[.agg #[.int .i64 m, .string p, .slice oa n cap, .string b]] w fun e w' => e = .returned (.agg #[.slice oa n cap, .string b, .int .i64 m, .string p]) ∧ Below w.heap.size w w' := by
 go_enter Tryz.func161, Tryz.ntmps161
 go_wp2
 exact bodyPost_ret (v := .agg #[.slice oa n cap, .string b, .int .i64 m, .string p]) (by simp [results, Tryz.results161, go_sem]) rfl ⟨rfl, ((Below.refl _ _).alloc (Nat.le_refl _) _).alloc (by simp) _⟩
theorem answerOf_any (m : Int) (oa : Option Addr) (n cap : Nat) (b : ByteArray) (w : World) :
  Calls Tryz.prog 180 #[.agg #[.int .i64 m, .slice oa n cap, .string b]] w fun e w' => e = .returned (.agg #[.slice oa n cap, .string b, .int .i64 m]) ∧ Below w.heap.size w w' := by
 go_enter Tryz.func180, Tryz.ntmps180
 go_wp2
 exact bodyPost_ret (v := .agg #[.slice oa n cap, .string b, .int .i64 m]) (by simp [results, Tryz.results180, go_sem]) rfl ⟨rfl, ((Below.refl _ _).alloc (Nat.le_refl _) _).alloc (by simp) _⟩
theorem implReqOk_any (m : Int) (p : ByteArray) (v : Value) (b : ByteArray) (n base : Nat) (fs : List (ByteArray × ByteArray)) (w : World) (hv : FieldsV w base v n fs) (hn : n ≤ 1073741824) (hsz : WalkF n fs) (hp : p.size ≤ maxLen) (hb : b.size ≤ maxLen) :
  Calls Tryz.prog 136 #[.agg #[.int .i64 m, .string p, v, .string b]] w fun e w' => BoolIs (ReqP m p fs b) w e w' := by
 obtain ⟨oa, cap, rfl, _⟩ := hv.slice
 have hb0 : Below w.heap.size w (w.alloc (.cells #[.int .i64 m, .string p, .slice oa n cap, .string b] 62)) := (Below.refl _ _).alloc (Nat.le_refl _) _
 go_enter Tryz.func136, Tryz.ntmps136
 go_wp2_with fail
 refine (requestOf_any m p oa n cap b _).mono ?_
 rintro e w1 ⟨rfl, bb1⟩
 have hb1 : Below w.heap.size w w1 := hb0.trans (bb1.mono hb0.size)
 have hv1 := hv.below hb1
 clear bb1 hb0 hv
 go_wp2_with fail
 refine (reqOk_any m p _ b n base fs _ hv1 hn hsz hp hb).mono ?_
 rintro e w2 ⟨b1, rfl, kb, bb2⟩
 have hb2 : Below w.heap.size w w2 := hb1.trans (bb2.mono hb1.size)
 have HK : Hid (b1 = true ↔ ReqP m p fs b) := kb
 clear hv1 hsz hb bb2 hb1 kb hp
 go_wp2_with fail
 go_ret
 exact ⟨b1, rfl, HK.out, hb2⟩
theorem implRespOk_any (m : Int) (v : Value) (b : ByteArray) (n base : Nat) (fs : List (ByteArray × ByteArray)) (w : World) (hv : FieldsV w base v n fs) (hn : n ≤ 1073741824) (hsz : WalkF n fs) (hb : b.size ≤ maxLen) :
  Calls Tryz.prog 153 #[.agg #[.int .i64 m, v, .string b]] w fun e w' => BoolIs (RespP m fs b) w e w' := by
 obtain ⟨oa, cap, rfl, _⟩ := hv.slice
 have hb0 : Below w.heap.size w (w.alloc (.cells #[.int .i64 m, .slice oa n cap, .string b] 64)) := (Below.refl _ _).alloc (Nat.le_refl _) _
 go_enter Tryz.func153, Tryz.ntmps153
 go_wp2_with fail
 refine (answerOf_any m oa n cap b _).mono ?_
 rintro e w1 ⟨rfl, bb1⟩
 have hb1 : Below w.heap.size w w1 := hb0.trans (bb1.mono hb0.size)
 have hv1 := hv.below hb1
 clear bb1 hb0 hv
 go_wp2_with fail
 refine (respOk_any m _ b n base fs _ hv1 hn hsz hb).mono ?_
 rintro e w2 ⟨b1, rfl, kb, bb2⟩
 have hb2 : Below w.heap.size w w2 := hb1.trans (bb2.mono hb1.size)
 have HK : Hid (b1 = true ↔ RespP m fs b) := kb
 clear hv1 hsz hb bb2 hb1 kb
 go_wp2_with fail
 go_ret
 exact ⟨b1, rfl, HK.out, hb2⟩
end Go.Proofs.YtbmhonfgffjpcaaGreat
namespace Go.Proofs.YtbmhonfgffjpcaaGreat
open Go.RowKit
open Go.Lib hiding intOf
theorem implObjOk_any (p : ByteArray) (o1 : Option Addr) (n1 c1 : Nat) (xs : List ByteArray) (o2 : Option Addr) (n2 c2 : Nat) (ys : List ByteArray) (st : Int) (v3 : Value) (n3 base : Nat) (fs : List (ByteArray × ByteArray)) (b : ByteArray) (t : Int) (w : World) (h1 : TextsA w o1 n1 xs) (h2 : TextsA w o2 n2 ys) (h3 : FieldsV w base v3 n3 fs) (hn1 : n1 ≤ 2000000) (hn2 : n2 ≤ 2000000) (hn3 : n3 ≤ 2000000) (hs1 : ∀ i, i < n1 → (textAt xs i).size ≤ maxLen) (hs2 : ∀ i, i < n2 → (textAt ys i).size ≤ maxLen) (hs3 : WalkF n3 fs) (hc : CopyF fs) (hp : p.size ≤ maxLen) (hx : b.size ≤ maxLen) (hg : (getV fs varyName).size ≤ 1048576) :
  Calls Tryz.prog 133 #[.agg #[.string p, .slice o1 n1 c1, .slice o2 n2 c2, .int .i64 st, v3, .string b, .int .i64 t]] w fun e w' => BoolIs (ObjP p xs ys st fs b t) w e w' := by
 obtain ⟨o3, c3, rfl, _⟩ := h3.slice
 have HV1 : Hid (∀ W, Below w.heap.size w W → TextsA W o1 n1 xs) := fun W h => h1.below h
 have HV2 : Hid (∀ W, Below w.heap.size w W → TextsA W o2 n2 ys) := fun W h => h2.below h
 have HV3 : Hid (∀ W, Below w.heap.size w W → FieldsV W base (.slice o3 n3 c3) n3 fs) := fun W h => h3.below h
 have HL1 : Hid (xs.length = n1) := h1.1
 have HL2 : Hid (ys.length = n2) := h2.1
 have HS1 : Hid (∀ i, i < n1 → (textAt xs i).size ≤ maxLen) := hs1
 have HS2 : Hid (∀ i, i < n2 → (textAt ys i).size ≤ maxLen) := hs2
 have HS3 : Hid (WalkF n3 fs) := hs3
 have HC : Hid (CopyF fs) := hc
 have HPM : Hid (p.size ≤ maxLen) := hp
 have HX : Hid (b.size ≤ maxLen) := hx
 have HG : Hid ((getV fs varyName).size ≤ 1048576) := hg
 obtain ⟨vl, hvl⟩ := exq (varyP fs)
 have HVL : Hid (varyP fs = vl) := hvl.symm
 have HVZ : Hid (vl.length ≤ 2000000) := by
  show _ ≤ _
  have hle := splitL_le (getV fs varyName)
  rw [hvl]
  unfold varyP
  rw [List.length_map]
  omega
 clear h1 h2 h3 hs1 hs2 hs3 hc hp hx hg hvl
 have hb0 : Below w.heap.size w w := Below.refl _ _
 go_enter Tryz.func133, Tryz.ntmps133
 go_upto_region 1 with fail
 obtain ⟨qv1, hqv1⟩ := exq ((w).heap.size)
 obtain ⟨w1, hW1⟩ := exq ((w).alloc (.cells #[.string p, .slice o1 n1 c1, .slice o2 n2 c2, .int .i64 st, .slice o3 n3 c3, .string b, .int .i64 t] 66))
 have hz1 : (w).heap.size = qv1 := hqv1.symm
 first | rw [← hW1, ← hqv1] | rw [← hW1]
 have hs1 := hsa hW1 hz1
 have bw := bal hW1
 have hb1 := hbt hb0 bw
 have HBv1_1 := hnew hW1 hz1
 clear hb0 bw hW1 hz1
 clear hs1 hqv1
 have cv1_3 := (k7c HBv1_1).2.2.2.1
 have cv1_4 := (k7c HBv1_1).2.2.2.2.1
 have cv1_5 := (k7c HBv1_1).2.2.2.2.2.1
 go_wp2_with fail
 refine (implRespOk_any st _ b n3 base fs _ (HV3.out _ hb1) (by omega) HS3.out HX.out).mono ?_
 rintro e w2 ⟨u1, rfl, htu1, bw⟩
 have hb2 := hbt hb1 bw
 have HBv1_2 := hblk HBv1_1 bw
 clear hb1 HBv1_1 bw
 clear cv1_3 cv1_4 cv1_5
 cases u1 with
 | false =>
  have HF : Hid (¬ ObjP p xs ys st fs b t) := fun h => nomatch htu1.2 h.1
  clear htu1
  go_wp2_with fail
  go_ret
  exact BoolIs.no HF.out hb2
 | true =>
  have HR : Hid (RespP st fs b) := htu1.1 rfl
  clear htu1
  have cv1_0 := (k7c HBv1_2).1
  go_wp2_with fail
  refine (pathOk_any p _ HPM.out).mono ?_
  rintro e w3 ⟨u2, rfl, htu2, bw⟩
  have hb3 := hbt hb2 bw
  have HBv1_3 := hblk HBv1_2 bw
  clear hb2 HBv1_2 bw
  clear cv1_0
  cases u2 with
  | false =>
   have HF : Hid (¬ ObjP p xs ys st fs b t) := fun h => nomatch htu2.2 h.2.1
   clear htu2
   go_wp2_with fail
   go_ret
   exact BoolIs.no HF.out hb3
  | true =>
   have HP : Hid (PathOk p) := htu2.1 rfl
   clear htu2
   have cv1_6 := (k7c HBv1_3).2.2.2.2.2.2
   go_wp2_with fail
   refine (timeOk_any t _).mono ?_
   rintro e w4 ⟨rfl, hwe⟩
   have bw : Below (w3).heap.size (w3) w4 := by rw [hwe]; exact Below.refl _ _
   clear hwe
   obtain ⟨u3, hu3⟩ : ∃ u3, u3 = decide ((0 : Int) ≤ t ∧ t ≤ 1000000) := ⟨_, rfl⟩
   rw [← hu3]
   have hb4 := hbt hb3 bw
   have HBv1_4 := hblk HBv1_3 bw
   clear hb3 HBv1_3 bw
   clear cv1_6
   cases u3 with
   | false =>
    have HF : Hid (¬ ObjP p xs ys st fs b t) := fun h => absurd h.2.2.1 (of_decide_eq_false hu3.symm)
    clear hu3
    go_wp2_with fail
    go_ret
    exact BoolIs.no HF.out hb4
   | true =>
    have HT : Hid (0 ≤ t ∧ t ≤ 1000000) := (show 0 ≤ t ∧ t ≤ 1000000 from of_decide_eq_true hu3.symm)
    clear hu3
    go_upto_region 3 with fail
    refine wp_region_held_drew (S := fun W => W.heap[qv1]? = some (.cells #[.string p, .slice o1 n1 c1, .slice o2 n2 c2, .int .i64 st, .slice o3 n3 c3, .string b, .int .i64 t] 66)) (by kernel_rfl) HBv1_4.out (fun _ => ?_)
    obtain ⟨w5, hX⟩ := exq w4.drew
    have bw := bdr hX
    rw [← hX]
    have hb5 := hbt hb4 bw
    have HBv1_5 := hblk HBv1_4 bw
    have hS5 := HBv1_5.out
    clear hb4 HBv1_4 bw hX
    refine tkP 0 (.pointer (some ⟨qv1, 1, none⟩)) 20 rfl rfl hS5 ?_
    go_frame
    refine tkL 1 (.slice o1 n1 c1) 21 rfl rfl (Or.inl ⟨by rfl, by intro W hW; have hhv1 := hW; have y1 := (cell_of hhv1 1).trans rfl; go_simp⟩) hS5 ?_
    go_frame
    refine tkP 2 (.pointer (some ⟨qv1, 3, none⟩)) 22 rfl rfl hS5 ?_
    go_frame
    refine tkP 3 (.pointer (some ⟨qv1, 4, none⟩)) 23 rfl rfl hS5 ?_
    go_frame
    refine tkL 4 (.slice o3 n3 c3) 24 rfl rfl (Or.inl ⟨by rfl, by intro W hW; have hhv1 := hW; have y4 := (cell_of hhv1 4).trans rfl; go_simp⟩) hS5 ?_
    go_frame
    refine rd1 5 rfl (fun K hK => ?_)
    go_simp
    refine (implVaryOf_any _ n3 base fs _ (HV3.out _ hb5) (by omega) HC.out HG.out).mono ?_
    rintro e w6 ⟨vv, rfl, ownY, bw⟩
    obtain ⟨oY, pY, rfl⟩ := slice_of_owns ownY
    rw [HVL.out] at ownY ⊢
    have hb6 := hbt hb5 bw
    have HBv1_6 := hblk HBv1_5 bw
    have HOY_6 := hwd ownY hb5.size
    clear ownY
    clear hb5 HBv1_5 bw
    have hS6 := HBv1_6.out
    refine hK.out _ _ hS6 (fun _ => ?_)
    clear hK K hS5
    refine rd1 6 rfl (fun K hK => ?_)
    go_simp
    refine (equalT_any _ _ _ _ _ _ xs vl _ (HV1.out _ hb6) (by omega) (texts_view HOY_6.out) HVZ.out).mono ?_
    rintro e w7 ⟨rfl, bw⟩
    obtain ⟨u5, hu5⟩ := exq (decide (xs = vl))
    rw [← hu5]
    have hb7 := hbt hb6 bw
    have HOY_7 := hown HOY_6 bw
    have HBv1_7 := hblk HBv1_6 bw
    clear hb6 HOY_6 HBv1_6 bw
    have hS7 := HBv1_7.out
    refine hK.out _ _ hS7 (fun _ => ?_)
    clear hK K hS6
    refine tkP 7 (.bool u5) 27 rfl rfl hS7 ?_
    go_frame
    cases u5 with
    | false =>
     have HF : Hid (¬ ObjP p xs ys st fs b t) := fun h => absurd (h.2.2.2.2.1.trans HVL.out) (of_decide_eq_false hu5.symm)
     clear hu5
     refine tkN 8 28 rfl rfl hS7 ?_
     go_frame
     refine tkN 9 29 rfl rfl hS7 ?_
     go_frame
     refine tkN 10 30 rfl rfl hS7 ?_
     go_frame
     refine tkP 11 (.bool false) 31 rfl rfl hS7 ?_
     go_frame
     refine tkP 12 (.bool false) 3 rfl rfl hS7 ?_
     go_frame
     clear hS7
     refine wpAnyH_done (by kernel_rfl) ?_ _
     go_wp2_with fail
     go_ret
     exact BoolIs.no HF.out hb7
    | true =>
     have HE : Hid (xs = vl) := (show xs = vl from of_decide_eq_true hu5.symm)
     clear hu5
     refine tkP 8 (.pointer (some ⟨qv1, 1, none⟩)) 28 rfl rfl hS7 ?_
     go_frame
     refine tkL 9 (.slice o1 n1 c1) 29 rfl rfl (Or.inl ⟨by rfl, by intro W hW; have hhv1 := hW; have y1 := (cell_of hhv1 1).trans rfl; go_simp⟩) hS7 ?_
     go_frame
     refine rd1 10 rfl (fun K hK => ?_)
     go_simp
     refine (namesOk_any _ _ _ xs _ (HV1.out _ hb7) (by omega) HS1.out).mono ?_
     rintro e w8 ⟨u4, rfl, htu4, bw⟩
     have hb8 := hbt hb7 bw
     have HOY_8 := hown HOY_7 bw
     have HBv1_8 := hblk HBv1_7 bw
     clear hb7 HOY_7 HBv1_7 bw
     have hS8 := HBv1_8.out
     refine hK.out _ _ hS8 (fun _ => ?_)
     clear hK K hS7
     refine tkP 11 (.bool u4) 31 rfl rfl hS8 ?_
     go_frame
     refine tkP 12 (.bool u4) 3 rfl rfl hS8 ?_
     go_frame
     clear hS8
     refine wpAnyH_done (by kernel_rfl) ?_ _
     cases u4 with
     | false =>
      have HF : Hid (¬ ObjP p xs ys st fs b t) := fun h => nomatch htu4.2 h.2.2.2.1
      clear htu4
      go_wp2_with fail
      go_ret
      exact BoolIs.no HF.out hb8
     | true =>
      have HNM : Hid (NamesP xs) := htu4.1 rfl
      clear htu4
      by_cases hc1 : (n2 : Int) = (n1 : Int)
      ·
       have hc1b : (((n2 : Int) : Int) == ((n1 : Int) : Int)) = true := by simpa using hc1
       have hc1n : (((n2 : Int) : Int) != ((n1 : Int) : Int)) = false := by simpa using hc1
       have HEQ : Hid ((n2 : Int) = (n1 : Int)) := hc1
       have hc1H : Hid ((n2 : Int) = (n1 : Int)) := hc1
       clear hc1
       have cv1_1 := (k7c HBv1_8).2.1
       have cv1_2 := (k7c HBv1_8).2.2.1
       go_wp2_with fail
       refine (valuesOk_any _ _ _ ys _ (HV2.out _ hb8) (by omega) HS2.out).mono ?_
       rintro e w9 ⟨u6, rfl, htu6, bw⟩
       have hb9 := hbt hb8 bw
       have HOY_9 := hown HOY_8 bw
       have HBv1_9 := hblk HBv1_8 bw
       clear hb8 HOY_8 HBv1_8 bw
       clear cv1_1 cv1_2
       go_wp2_with fail
       go_ret
       exact ⟨u6, rfl, ⟨fun h => ⟨HR.out, HP.out, HT.out, HNM.out, HE.out.trans HVL.out.symm, by have h1 := HL1.out; have h2 := HL2.out; have h3 := HEQ.out; omega, htu6.1 h⟩, fun h => htu6.2 h.2.2.2.2.2.2⟩, hb9⟩
      ·
       have hc1b : (((n2 : Int) : Int) == ((n1 : Int) : Int)) = false := by simpa using hc1
       have hc1n : (((n2 : Int) : Int) != ((n1 : Int) : Int)) = true := by simpa using hc1
       have HF : Hid (¬ ObjP p xs ys st fs b t) := fun h => by have h1 := h.2.2.2.2.2.1; have h2 := HL1.out; have h3 := HL2.out; omega
       have hc1H : Hid (¬ ((n2 : Int) = (n1 : Int))) := hc1
       clear hc1
       have cv1_1 := (k7c HBv1_8).2.1
       have cv1_2 := (k7c HBv1_8).2.2.1
       go_wp2_with fail
       go_ret
       exact BoolIs.no HF.out hb8
end Go.Proofs.YtbmhonfgffjpcaaGreat
namespace Go.Proofs.YtbmhonfgffjpcaaGreat
open Go.RowKit
open Go.Lib hiding intOf
theorem ruleOf_1 (a b : ByteArray) (t : Int) (w : World) :
  Calls Tryz.prog 159 #[.agg #[.int .i64 1, .string a, .string b, .int .i64 t]] w fun e w' => e = .returned (.iface 256 (.agg #[.string a])) ∧ Below w.heap.size w w' := by
 have hb0 : Below w.heap.size w w := Below.refl _ _
 go_enter Tryz.func159, Tryz.ntmps159
 go_upto_region 1 with fail
 obtain ⟨qv1, hqv1⟩ := exq ((w).heap.size)
 obtain ⟨w1, hW1⟩ := exq ((w).alloc (.cells #[.int .i64 1, .string a, .string b, .int .i64 t] 152))
 have hz1 : (w).heap.size = qv1 := hqv1.symm
 first | rw [← hW1, ← hqv1] | rw [← hW1]
 have hs1 := hsa hW1 hz1
 have bw := bal hW1
 have hb1 := hbt hb0 bw
 have HBv1_1 := hnew hW1 hz1
 clear hb0 bw hW1 hz1
 clear hs1 hqv1
 have cv1_0 := (k4c HBv1_1).1
 have cv1_1 := (k4c HBv1_1).2.1
 go_wp2_with fail
 go_ret
 exact ⟨rfl, hb1⟩
theorem ruleOf_2 (a b : ByteArray) (t : Int) (w : World) :
  Calls Tryz.prog 159 #[.agg #[.int .i64 2, .string a, .string b, .int .i64 t]] w fun e w' => e = .returned (.iface 258 (.agg #[.string a])) ∧ Below w.heap.size w w' := by
 have hb0 : Below w.heap.size w w := Below.refl _ _
 go_enter Tryz.func159, Tryz.ntmps159
 go_upto_region 1 with fail
 obtain ⟨qv1, hqv1⟩ := exq ((w).heap.size)
 obtain ⟨w1, hW1⟩ := exq ((w).alloc (.cells #[.int .i64 2, .string a, .string b, .int .i64 t] 152))
 have hz1 : (w).heap.size = qv1 := hqv1.symm
 first | rw [← hW1, ← hqv1] | rw [← hW1]
 have hs1 := hsa hW1 hz1
 have bw := bal hW1
 have hb1 := hbt hb0 bw
 have HBv1_1 := hnew hW1 hz1
 clear hb0 bw hW1 hz1
 clear hs1 hqv1
 have cv1_0 := (k4c HBv1_1).1
 have cv1_1 := (k4c HBv1_1).2.1
 go_wp2_with fail
 go_ret
 exact ⟨rfl, hb1⟩
theorem ruleOf_3 (a b : ByteArray) (t : Int) (w : World) :
  Calls Tryz.prog 159 #[.agg #[.int .i64 3, .string a, .string b, .int .i64 t]] w fun e w' => e = .returned (.iface 260 (.agg #[.string a, .string b])) ∧ Below w.heap.size w w' := by
 have hb0 : Below w.heap.size w w := Below.refl _ _
 go_enter Tryz.func159, Tryz.ntmps159
 go_upto_region 1 with fail
 obtain ⟨qv1, hqv1⟩ := exq ((w).heap.size)
 obtain ⟨w1, hW1⟩ := exq ((w).alloc (.cells #[.int .i64 3, .string a, .string b, .int .i64 t] 152))
 have hz1 : (w).heap.size = qv1 := hqv1.symm
 first | rw [← hW1, ← hqv1] | rw [← hW1]
 have hs1 := hsa hW1 hz1
 have bw := bal hW1
 have hb1 := hbt hb0 bw
 have HBv1_1 := hnew hW1 hz1
 clear hb0 bw hW1 hz1
 clear hs1 hqv1
 have cv1_0 := (k4c HBv1_1).1
 have cv1_1 := (k4c HBv1_1).2.1
 have cv1_2 := (k4c HBv1_1).2.2.1
 go_wp2_with fail
 go_ret
 exact ⟨rfl, hb1⟩
theorem ruleOf_no (k : Int) (a b : ByteArray) (t : Int) (w : World) (h1 : ¬ k = 1) (h2 : ¬ k = 2) (h3 : ¬ k = 3) :
  Calls Tryz.prog 159 #[.agg #[.int .i64 k, .string a, .string b, .int .i64 t]] w fun e w' => e = .returned .nilIface ∧ Below w.heap.size w w' := by
 have hk1 : ((k : Int) == (1 : Int)) = false := by simpa using h1
 have hk2 : ((k : Int) == (2 : Int)) = false := by simpa using h2
 have hk3 : ((k : Int) == (3 : Int)) = false := by simpa using h3
 clear h1 h2 h3
 have hb0 : Below w.heap.size w w := Below.refl _ _
 go_enter Tryz.func159, Tryz.ntmps159
 go_upto_region 1 with fail
 obtain ⟨qv1, hqv1⟩ := exq ((w).heap.size)
 obtain ⟨w1, hW1⟩ := exq ((w).alloc (.cells #[.int .i64 k, .string a, .string b, .int .i64 t] 152))
 have hz1 : (w).heap.size = qv1 := hqv1.symm
 first | rw [← hW1, ← hqv1] | rw [← hW1]
 have hs1 := hsa hW1 hz1
 have bw := bal hW1
 have hb1 := hbt hb0 bw
 have HBv1_1 := hnew hW1 hz1
 clear hb0 bw hW1 hz1
 clear hs1 hqv1
 have cv1_0 := (k4c HBv1_1).1
 go_wp2_with fail
 go_ret
 exact ⟨rfl, hb1⟩
theorem banOf_1 (a : ByteArray) (t : Int) (w : World) :
  Calls Tryz.prog 160 #[.iface 256 (.agg #[.string a]), .int .i64 t] w fun e w' => e = .returned (.agg #[.int .i64 1, .string a, .string ⟨#[]⟩, .int .i64 t]) ∧ Below w.heap.size w w' := by
 have hta1 : ∀ W : World, (Instr.typeAssert (.iface 256 (.agg #[.string a])) 222 256 true).run Tryz.prog W = .ok (.tuple #[.agg #[.string a], .bool true]) W := fun _ => by kernel_rfl
 have hta2 : ∀ W : World, (Instr.typeAssert (.iface 256 (.agg #[.string a])) 222 258 true).run Tryz.prog W = .ok (.tuple #[.agg #[.string ⟨#[]⟩], .bool false]) W := fun _ => by kernel_rfl
 have hta3 : ∀ W : World, (Instr.typeAssert (.iface 256 (.agg #[.string a])) 222 260 true).run Tryz.prog W = .ok (.tuple #[.agg #[.string ⟨#[]⟩, .string ⟨#[]⟩], .bool false]) W := fun _ => by kernel_rfl
 have hb0 : Below w.heap.size w w := Below.refl _ _
 go_enter Tryz.func160, Tryz.ntmps160
 go_upto_region 1 with fail
 obtain ⟨qv1, hqv1⟩ := exq ((w).heap.size)
 obtain ⟨w1, hW1⟩ := exq ((w).alloc (.cells #[.int .i64 0, .string ⟨#[]⟩, .string ⟨#[]⟩, .int .i64 0] 152))
 have hz1 : (w).heap.size = qv1 := hqv1.symm
 first | rw [← hW1, ← hqv1] | rw [← hW1]
 have hs1 := hsa hW1 hz1
 have bw := bal hW1
 have hb1 := hbt hb0 bw
 have HBv1_1 := hnew hW1 hz1
 have HGv1 := hge hz1 hb0
 clear hb0 bw hW1 hz1
 clear hs1 hqv1
 go_upto_region 4 with fail
 obtain ⟨qv2, hqv2⟩ := exq ((w1).heap.size)
 obtain ⟨w2, hW2⟩ := exq ((w1).alloc (.cells #[.string a] 256))
 have hz2 : (w1).heap.size = qv2 := hqv2.symm
 first | rw [← hW2, ← hqv2] | rw [← hW2]
 have hs2 := hsa hW2 hz2
 have bw := bal hW2
 have hb2 := hbt hb1 bw
 have HBv1_2 := hblk HBv1_1 bw
 have HNv1v2 : Hid (qv1 ≠ qv2) := fun e => by have h1 := (Array.getElem?_eq_some_iff.1 HBv1_1.out).1; omega
 have HBv2_2 := hnew hW2 hz2
 clear hb1 HBv1_1 bw hW2 hz2
 clear hs2 hqv2
 have cv1_0 := (k4c HBv1_2).1
 have fcv1_0 := hfz HBv1_2 0
 have cv1_1 := (k4c HBv1_2).2.1
 have fcv1_1 := hfz HBv1_2 1
 have cv1_2 := (k4c HBv1_2).2.2.1
 have fcv1_2 := hfz HBv1_2 2
 have cv1_3 := (k4c HBv1_2).2.2.2
 have fcv1_3 := hfz HBv1_2 3
 have cv2_0 := k1c HBv2_2
 go_wp2_with fail
 obtain ⟨w3, hW3⟩ := exq ((w2).setCell ⟨qv1, 0, none⟩ (.int .i64 1))
 rw [← hW3]
 have hb3 : Below w.heap.size w (w3) := by rw [hW3]; exact (hb2.setCell (p := ⟨qv1, 0, none⟩) HGv1.out _)
 have HBv2_3 := hset hW3 HNv1v2.out.symm HBv2_2
 have HBv1_3 : Hid ((w3).heap[qv1]? = some (.cells #[.int .i64 1, .string ⟨#[]⟩, .string ⟨#[]⟩, .int .i64 0] 152)) := by show _ = _; rw [hW3]; have h := heap_set _ _ 0 _ _ _ (.int .i64 1) HBv1_2.out; simpa using h
 clear hb2 HBv1_2 HBv2_2 hW3
 obtain ⟨w4, hW4⟩ := exq ((w3).setCell ⟨qv1, 1, none⟩ (.string a))
 rw [← hW4]
 have hb4 : Below w.heap.size w (w4) := by rw [hW4]; exact (hb3.setCell (p := ⟨qv1, 1, none⟩) HGv1.out _)
 have HBv2_4 := hset hW4 HNv1v2.out.symm HBv2_3
 have HBv1_4 : Hid ((w4).heap[qv1]? = some (.cells #[.int .i64 1, .string a, .string ⟨#[]⟩, .int .i64 0] 152)) := by show _ = _; rw [hW4]; have h := heap_set _ _ 1 _ _ _ (.string a) HBv1_3.out; simpa using h
 clear hb3 HBv1_3 HBv2_3 hW4
 obtain ⟨w5, hW5⟩ := exq ((w4).setCell ⟨qv1, 2, none⟩ (.string ⟨#[]⟩))
 rw [← hW5]
 have hb5 : Below w.heap.size w (w5) := by rw [hW5]; exact (hb4.setCell (p := ⟨qv1, 2, none⟩) HGv1.out _)
 have HBv2_5 := hset hW5 HNv1v2.out.symm HBv2_4
 have HBv1_5 : Hid ((w5).heap[qv1]? = some (.cells #[.int .i64 1, .string a, .string ⟨#[]⟩, .int .i64 0] 152)) := by show _ = _; rw [hW5]; have h := heap_set _ _ 2 _ _ _ (.string ⟨#[]⟩) HBv1_4.out; simpa using h
 clear hb4 HBv1_4 HBv2_4 hW5
 obtain ⟨w6, hW6⟩ := exq ((w5).setCell ⟨qv1, 3, none⟩ (.int .i64 t))
 rw [← hW6]
 have hb6 : Below w.heap.size w (w6) := by rw [hW6]; exact (hb5.setCell (p := ⟨qv1, 3, none⟩) HGv1.out _)
 have HBv2_6 := hset hW6 HNv1v2.out.symm HBv2_5
 have HBv1_6 : Hid ((w6).heap[qv1]? = some (.cells #[.int .i64 1, .string a, .string ⟨#[]⟩, .int .i64 t] 152)) := by show _ = _; rw [hW6]; have h := heap_set _ _ 3 _ _ _ (.int .i64 t) HBv1_5.out; simpa using h
 clear hb5 HBv1_5 HBv2_5 hW6
 have kv1_0 := (k4c HBv1_6).1
 have kv1_1 := (k4c HBv1_6).2.1
 have kv1_2 := (k4c HBv1_6).2.2.1
 have kv1_3 := (k4c HBv1_6).2.2.2
 refine bodyPost_ret (v := .agg #[.int .i64 1, .string a, .string ⟨#[]⟩, .int .i64 t]) (by simp [results, Tryz.results160, go_sem, kv1_0, kv1_1, kv1_2, kv1_3]) rfl ?_
 exact ⟨rfl, hb6⟩
theorem banOf_2 (a : ByteArray) (t : Int) (w : World) :
  Calls Tryz.prog 160 #[.iface 258 (.agg #[.string a]), .int .i64 t] w fun e w' => e = .returned (.agg #[.int .i64 2, .string a, .string ⟨#[]⟩, .int .i64 t]) ∧ Below w.heap.size w w' := by
 have hta1 : ∀ W : World, (Instr.typeAssert (.iface 258 (.agg #[.string a])) 222 256 true).run Tryz.prog W = .ok (.tuple #[.agg #[.string ⟨#[]⟩], .bool false]) W := fun _ => by kernel_rfl
 have hta2 : ∀ W : World, (Instr.typeAssert (.iface 258 (.agg #[.string a])) 222 258 true).run Tryz.prog W = .ok (.tuple #[.agg #[.string a], .bool true]) W := fun _ => by kernel_rfl
 have hta3 : ∀ W : World, (Instr.typeAssert (.iface 258 (.agg #[.string a])) 222 260 true).run Tryz.prog W = .ok (.tuple #[.agg #[.string ⟨#[]⟩, .string ⟨#[]⟩], .bool false]) W := fun _ => by kernel_rfl
 have hb0 : Below w.heap.size w w := Below.refl _ _
 go_enter Tryz.func160, Tryz.ntmps160
 go_upto_region 1 with fail
 obtain ⟨qv1, hqv1⟩ := exq ((w).heap.size)
 obtain ⟨w1, hW1⟩ := exq ((w).alloc (.cells #[.int .i64 0, .string ⟨#[]⟩, .string ⟨#[]⟩, .int .i64 0] 152))
 have hz1 : (w).heap.size = qv1 := hqv1.symm
 first | rw [← hW1, ← hqv1] | rw [← hW1]
 have hs1 := hsa hW1 hz1
 have bw := bal hW1
 have hb1 := hbt hb0 bw
 have HBv1_1 := hnew hW1 hz1
 have HGv1 := hge hz1 hb0
 clear hb0 bw hW1 hz1
 clear hs1 hqv1
 go_upto_region 7 with fail
 obtain ⟨qv2, hqv2⟩ := exq ((w1).heap.size)
 obtain ⟨w2, hW2⟩ := exq ((w1).alloc (.cells #[.string a] 258))
 have hz2 : (w1).heap.size = qv2 := hqv2.symm
 first | rw [← hW2, ← hqv2] | rw [← hW2]
 have hs2 := hsa hW2 hz2
 have bw := bal hW2
 have hb2 := hbt hb1 bw
 have HBv1_2 := hblk HBv1_1 bw
 have HNv1v2 : Hid (qv1 ≠ qv2) := fun e => by have h1 := (Array.getElem?_eq_some_iff.1 HBv1_1.out).1; omega
 have HBv2_2 := hnew hW2 hz2
 clear hb1 HBv1_1 bw hW2 hz2
 clear hs2 hqv2
 have cv1_0 := (k4c HBv1_2).1
 have fcv1_0 := hfz HBv1_2 0
 have cv1_1 := (k4c HBv1_2).2.1
 have fcv1_1 := hfz HBv1_2 1
 have cv1_2 := (k4c HBv1_2).2.2.1
 have fcv1_2 := hfz HBv1_2 2
 have cv1_3 := (k4c HBv1_2).2.2.2
 have fcv1_3 := hfz HBv1_2 3
 have cv2_0 := k1c HBv2_2
 go_wp2_with fail
 obtain ⟨w3, hW3⟩ := exq ((w2).setCell ⟨qv1, 0, none⟩ (.int .i64 2))
 rw [← hW3]
 have hb3 : Below w.heap.size w (w3) := by rw [hW3]; exact (hb2.setCell (p := ⟨qv1, 0, none⟩) HGv1.out _)
 have HBv2_3 := hset hW3 HNv1v2.out.symm HBv2_2
 have HBv1_3 : Hid ((w3).heap[qv1]? = some (.cells #[.int .i64 2, .string ⟨#[]⟩, .string ⟨#[]⟩, .int .i64 0] 152)) := by show _ = _; rw [hW3]; have h := heap_set _ _ 0 _ _ _ (.int .i64 2) HBv1_2.out; simpa using h
 clear hb2 HBv1_2 HBv2_2 hW3
 obtain ⟨w4, hW4⟩ := exq ((w3).setCell ⟨qv1, 1, none⟩ (.string a))
 rw [← hW4]
 have hb4 : Below w.heap.size w (w4) := by rw [hW4]; exact (hb3.setCell (p := ⟨qv1, 1, none⟩) HGv1.out _)
 have HBv2_4 := hset hW4 HNv1v2.out.symm HBv2_3
 have HBv1_4 : Hid ((w4).heap[qv1]? = some (.cells #[.int .i64 2, .string a, .string ⟨#[]⟩, .int .i64 0] 152)) := by show _ = _; rw [hW4]; have h := heap_set _ _ 1 _ _ _ (.string a) HBv1_3.out; simpa using h
 clear hb3 HBv1_3 HBv2_3 hW4
 obtain ⟨w5, hW5⟩ := exq ((w4).setCell ⟨qv1, 2, none⟩ (.string ⟨#[]⟩))
 rw [← hW5]
 have hb5 : Below w.heap.size w (w5) := by rw [hW5]; exact (hb4.setCell (p := ⟨qv1, 2, none⟩) HGv1.out _)
 have HBv2_5 := hset hW5 HNv1v2.out.symm HBv2_4
 have HBv1_5 : Hid ((w5).heap[qv1]? = some (.cells #[.int .i64 2, .string a, .string ⟨#[]⟩, .int .i64 0] 152)) := by show _ = _; rw [hW5]; have h := heap_set _ _ 2 _ _ _ (.string ⟨#[]⟩) HBv1_4.out; simpa using h
 clear hb4 HBv1_4 HBv2_4 hW5
 obtain ⟨w6, hW6⟩ := exq ((w5).setCell ⟨qv1, 3, none⟩ (.int .i64 t))
 rw [← hW6]
 have hb6 : Below w.heap.size w (w6) := by rw [hW6]; exact (hb5.setCell (p := ⟨qv1, 3, none⟩) HGv1.out _)
 have HBv2_6 := hset hW6 HNv1v2.out.symm HBv2_5
 have HBv1_6 : Hid ((w6).heap[qv1]? = some (.cells #[.int .i64 2, .string a, .string ⟨#[]⟩, .int .i64 t] 152)) := by show _ = _; rw [hW6]; have h := heap_set _ _ 3 _ _ _ (.int .i64 t) HBv1_5.out; simpa using h
 clear hb5 HBv1_5 HBv2_5 hW6
 have kv1_0 := (k4c HBv1_6).1
 have kv1_1 := (k4c HBv1_6).2.1
 have kv1_2 := (k4c HBv1_6).2.2.1
 have kv1_3 := (k4c HBv1_6).2.2.2
 refine bodyPost_ret (v := .agg #[.int .i64 2, .string a, .string ⟨#[]⟩, .int .i64 t]) (by simp [results, Tryz.results160, go_sem, kv1_0, kv1_1, kv1_2, kv1_3]) rfl ?_
 exact ⟨rfl, hb6⟩
theorem banOf_3 (a b : ByteArray) (t : Int) (w : World) :
  Calls Tryz.prog 160 #[.iface 260 (.agg #[.string a, .string b]), .int .i64 t] w fun e w' => e = .returned (.agg #[.int .i64 3, .string a, .string b, .int .i64 t]) ∧ Below w.heap.size w w' := by
 have hta1 : ∀ W : World, (Instr.typeAssert (.iface 260 (.agg #[.string a, .string b])) 222 256 true).run Tryz.prog W = .ok (.tuple #[.agg #[.string ⟨#[]⟩], .bool false]) W := fun _ => by kernel_rfl
 have hta2 : ∀ W : World, (Instr.typeAssert (.iface 260 (.agg #[.string a, .string b])) 222 258 true).run Tryz.prog W = .ok (.tuple #[.agg #[.string ⟨#[]⟩], .bool false]) W := fun _ => by kernel_rfl
 have hta3 : ∀ W : World, (Instr.typeAssert (.iface 260 (.agg #[.string a, .string b])) 222 260 true).run Tryz.prog W = .ok (.tuple #[.agg #[.string a, .string b], .bool true]) W := fun _ => by kernel_rfl
 have hb0 : Below w.heap.size w w := Below.refl _ _
 go_enter Tryz.func160, Tryz.ntmps160
 go_upto_region 1 with fail
 obtain ⟨qv1, hqv1⟩ := exq ((w).heap.size)
 obtain ⟨w1, hW1⟩ := exq ((w).alloc (.cells #[.int .i64 0, .string ⟨#[]⟩, .string ⟨#[]⟩, .int .i64 0] 152))
 have hz1 : (w).heap.size = qv1 := hqv1.symm
 first | rw [← hW1, ← hqv1] | rw [← hW1]
 have hs1 := hsa hW1 hz1
 have bw := bal hW1
 have hb1 := hbt hb0 bw
 have HBv1_1 := hnew hW1 hz1
 have HGv1 := hge hz1 hb0
 clear hb0 bw hW1 hz1
 clear hs1 hqv1
 go_upto_region 10 with fail
 obtain ⟨qv2, hqv2⟩ := exq ((w1).heap.size)
 obtain ⟨w2, hW2⟩ := exq ((w1).alloc (.cells #[.string a, .string b] 260))
 have hz2 : (w1).heap.size = qv2 := hqv2.symm
 first | rw [← hW2, ← hqv2] | rw [← hW2]
 have hs2 := hsa hW2 hz2
 have bw := bal hW2
 have hb2 := hbt hb1 bw
 have HBv1_2 := hblk HBv1_1 bw
 have HNv1v2 : Hid (qv1 ≠ qv2) := fun e => by have h1 := (Array.getElem?_eq_some_iff.1 HBv1_1.out).1; omega
 have HBv2_2 := hnew hW2 hz2
 clear hb1 HBv1_1 bw hW2 hz2
 clear hs2 hqv2
 have cv1_0 := (k4c HBv1_2).1
 have fcv1_0 := hfz HBv1_2 0
 have cv1_1 := (k4c HBv1_2).2.1
 have fcv1_1 := hfz HBv1_2 1
 have cv1_2 := (k4c HBv1_2).2.2.1
 have fcv1_2 := hfz HBv1_2 2
 have cv1_3 := (k4c HBv1_2).2.2.2
 have fcv1_3 := hfz HBv1_2 3
 have cv2_0 := (k2c HBv2_2).1
 have cv2_1 := (k2c HBv2_2).2
 go_wp2_with fail
 obtain ⟨w3, hW3⟩ := exq ((w2).setCell ⟨qv1, 0, none⟩ (.int .i64 3))
 rw [← hW3]
 have hb3 : Below w.heap.size w (w3) := by rw [hW3]; exact (hb2.setCell (p := ⟨qv1, 0, none⟩) HGv1.out _)
 have HBv2_3 := hset hW3 HNv1v2.out.symm HBv2_2
 have HBv1_3 : Hid ((w3).heap[qv1]? = some (.cells #[.int .i64 3, .string ⟨#[]⟩, .string ⟨#[]⟩, .int .i64 0] 152)) := by show _ = _; rw [hW3]; have h := heap_set _ _ 0 _ _ _ (.int .i64 3) HBv1_2.out; simpa using h
 clear hb2 HBv1_2 HBv2_2 hW3
 obtain ⟨w4, hW4⟩ := exq ((w3).setCell ⟨qv1, 1, none⟩ (.string a))
 rw [← hW4]
 have hb4 : Below w.heap.size w (w4) := by rw [hW4]; exact (hb3.setCell (p := ⟨qv1, 1, none⟩) HGv1.out _)
 have HBv2_4 := hset hW4 HNv1v2.out.symm HBv2_3
 have HBv1_4 : Hid ((w4).heap[qv1]? = some (.cells #[.int .i64 3, .string a, .string ⟨#[]⟩, .int .i64 0] 152)) := by show _ = _; rw [hW4]; have h := heap_set _ _ 1 _ _ _ (.string a) HBv1_3.out; simpa using h
 clear hb3 HBv1_3 HBv2_3 hW4
 obtain ⟨w5, hW5⟩ := exq ((w4).setCell ⟨qv1, 2, none⟩ (.string b))
 rw [← hW5]
 have hb5 : Below w.heap.size w (w5) := by rw [hW5]; exact (hb4.setCell (p := ⟨qv1, 2, none⟩) HGv1.out _)
 have HBv2_5 := hset hW5 HNv1v2.out.symm HBv2_4
 have HBv1_5 : Hid ((w5).heap[qv1]? = some (.cells #[.int .i64 3, .string a, .string b, .int .i64 0] 152)) := by show _ = _; rw [hW5]; have h := heap_set _ _ 2 _ _ _ (.string b) HBv1_4.out; simpa using h
 clear hb4 HBv1_4 HBv2_4 hW5
 obtain ⟨w6, hW6⟩ := exq ((w5).setCell ⟨qv1, 3, none⟩ (.int .i64 t))
 rw [← hW6]
 have hb6 : Below w.heap.size w (w6) := by rw [hW6]; exact (hb5.setCell (p := ⟨qv1, 3, none⟩) HGv1.out _)
 have HBv2_6 := hset hW6 HNv1v2.out.symm HBv2_5
 have HBv1_6 : Hid ((w6).heap[qv1]? = some (.cells #[.int .i64 3, .string a, .string b, .int .i64 t] 152)) := by show _ = _; rw [hW6]; have h := heap_set _ _ 3 _ _ _ (.int .i64 t) HBv1_5.out; simpa using h
 clear hb5 HBv1_5 HBv2_5 hW6
 have kv1_0 := (k4c HBv1_6).1
 have kv1_1 := (k4c HBv1_6).2.1
 have kv1_2 := (k4c HBv1_6).2.2.1
 have kv1_3 := (k4c HBv1_6).2.2.2
 refine bodyPost_ret (v := .agg #[.int .i64 3, .string a, .string b, .int .i64 t]) (by simp [results, Tryz.results160, go_sem, kv1_0, kv1_1, kv1_2, kv1_3]) rfl ?_
 exact ⟨rfl, hb6⟩
theorem right_1 (a : ByteArray) (w : World) (ha : a.size ≤ maxLen) :
  Calls Tryz.prog 247 #[.agg #[.string a]] w fun e w' => BoolIs (PathOk a) w e w' := by
 have HAM : Hid (a.size ≤ maxLen) := ha
 clear ha
 have hb0 : Below w.heap.size w w := Below.refl _ _
 go_enter Tryz.func247, Tryz.ntmps247
 go_upto_region 1 with fail
 obtain ⟨qv1, hqv1⟩ := exq ((w).heap.size)
 obtain ⟨w1, hW1⟩ := exq ((w).alloc (.cells #[.string a] 256))
 have hz1 : (w).heap.size = qv1 := hqv1.symm
 first | rw [← hW1, ← hqv1] | rw [← hW1]
 have hs1 := hsa hW1 hz1
 have bw := bal hW1
 have hb1 := hbt hb0 bw
 have HBv1_1 := hnew hW1 hz1
 clear hb0 bw hW1 hz1
 clear hs1 hqv1
 have cv1_0 := k1c HBv1_1
 go_wp2_with fail
 refine (pathOk_any a _ HAM.out).mono ?_
 rintro e w2 ⟨u, rfl, htu, bw⟩
 have hb2 := hbt hb1 bw
 have HBv1_2 := hblk HBv1_1 bw
 clear hb1 HBv1_1 bw
 clear cv1_0
 go_wp2_with fail
 go_ret
 exact ⟨u, rfl, htu, hb2⟩
theorem right_2 (a : ByteArray) (w : World) (ha : a.size ≤ maxLen) :
  Calls Tryz.prog 249 #[.agg #[.string a]] w fun e w' => BoolIs (PathOk a) w e w' := by
 have HAM : Hid (a.size ≤ maxLen) := ha
 clear ha
 have hb0 : Below w.heap.size w w := Below.refl _ _
 go_enter Tryz.func249, Tryz.ntmps249
 go_upto_region 1 with fail
 obtain ⟨qv1, hqv1⟩ := exq ((w).heap.size)
 obtain ⟨w1, hW1⟩ := exq ((w).alloc (.cells #[.string a] 258))
 have hz1 : (w).heap.size = qv1 := hqv1.symm
 first | rw [← hW1, ← hqv1] | rw [← hW1]
 have hs1 := hsa hW1 hz1
 have bw := bal hW1
 have hb1 := hbt hb0 bw
 have HBv1_1 := hnew hW1 hz1
 clear hb0 bw hW1 hz1
 clear hs1 hqv1
 have cv1_0 := k1c HBv1_1
 go_wp2_with fail
 refine (pathOk_any a _ HAM.out).mono ?_
 rintro e w2 ⟨u, rfl, htu, bw⟩
 have hb2 := hbt hb1 bw
 have HBv1_2 := hblk HBv1_1 bw
 clear hb1 HBv1_1 bw
 clear cv1_0
 go_wp2_with fail
 go_ret
 exact ⟨u, rfl, htu, hb2⟩
theorem right_3 (a b : ByteArray) (w : World) (ha : a.size ≤ maxLen) (hb : b.size ≤ maxLen) :
  Calls Tryz.prog 252 #[.agg #[.string a, .string b]] w fun e w' => BoolIs (TokOk a ∧ ValOk b) w e w' := by
 have HAM : Hid (a.size ≤ maxLen) := ha
 have HBM : Hid (b.size ≤ maxLen) := hb
 clear ha hb
 have hb0 : Below w.heap.size w w := Below.refl _ _
 go_enter Tryz.func252, Tryz.ntmps252
 go_upto_region 1 with fail
 obtain ⟨qv1, hqv1⟩ := exq ((w).heap.size)
 obtain ⟨w1, hW1⟩ := exq ((w).alloc (.cells #[.string a, .string b] 260))
 have hz1 : (w).heap.size = qv1 := hqv1.symm
 first | rw [← hW1, ← hqv1] | rw [← hW1]
 have hs1 := hsa hW1 hz1
 have bw := bal hW1
 have hb1 := hbt hb0 bw
 have HBv1_1 := hnew hW1 hz1
 clear hb0 bw hW1 hz1
 clear hs1 hqv1
 have cv1_0 := (k2c HBv1_1).1
 go_wp2_with fail
 refine (implTokenOk_any a _ HAM.out).mono ?_
 rintro e w2 ⟨u, rfl, htu, bw⟩
 have hb2 := hbt hb1 bw
 have HBv1_2 := hblk HBv1_1 bw
 clear hb1 HBv1_1 bw
 clear cv1_0
 cases u with
 | false =>
  have HU : Hid (¬ TokOk a) := fun h => nomatch htu.2 h
  clear htu
  go_wp2_with fail
  go_ret
  exact ⟨false, rfl, ⟨fun h => (by cases h), fun h => absurd h.1 HU.out⟩, hb2⟩
 | true =>
  have HU : Hid (TokOk a) := htu.1 rfl
  clear htu
  have cv1_1 := (k2c HBv1_2).2
  go_wp2_with fail
  refine (implValueOk_any b _ HBM.out).mono ?_
  rintro e w3 ⟨v, rfl, htv, bw⟩
  have hb3 := hbt hb2 bw
  have HBv1_3 := hblk HBv1_2 bw
  clear hb2 HBv1_2 bw
  clear cv1_1
  go_wp2_with fail
  go_ret
  exact ⟨v, rfl, ⟨fun h => ⟨HU.out, htv.1 h⟩, fun h => htv.2 h.2⟩, hb3⟩
theorem bans_1 (a : ByteArray) (p : ByteArray) (v1 v2 : Value) (st : Int) (v3 : Value) (d : ByteArray) (u : Int) (w : World) :
  Calls Tryz.prog 246 #[.agg #[.string a], .agg #[.string p, v1, v2, .int .i64 st, v3, .string d, .int .i64 u]] w fun e w' => BoolIs (p = a) w e w' := by
 have hb0 : Below w.heap.size w w := Below.refl _ _
 go_enter Tryz.func246, Tryz.ntmps246
 go_upto_region 1 with fail
 obtain ⟨qv1, hqv1⟩ := exq ((w).heap.size)
 obtain ⟨w1, hW1⟩ := exq ((w).alloc (.cells #[.string a] 256))
 have hz1 : (w).heap.size = qv1 := hqv1.symm
 first | rw [← hW1, ← hqv1] | rw [← hW1]
 have hs1 := hsa hW1 hz1
 have bw := bal hW1
 have hb1 := hbt hb0 bw
 have HBv1_1 := hnew hW1 hz1
 clear hb0 bw hW1 hz1
 obtain ⟨qv2, hqv2⟩ := exq (qv1 + 1)
 obtain ⟨w2, hW2⟩ := exq ((w1).alloc (.cells #[.string p, v1, v2, .int .i64 st, v3, .string d, .int .i64 u] 66))
 have hz2 : (w1).heap.size = qv2 := by rw [hqv2]; exact hs1
 first | rw [← hW2, ← hqv2] | rw [← hW2]
 have hs2 := hsa hW2 hz2
 have bw := bal hW2
 have hb2 := hbt hb1 bw
 have HBv1_2 := hblk HBv1_1 bw
 have HBv2_2 := hnew hW2 hz2
 clear hb1 HBv1_1 bw hW2 hz2
 clear hs2 hqv2 hs1 hqv1
 have cv1_0 := k1c HBv1_2
 have cv2_0 := (k7c HBv2_2).1
 by_cases hc1 : p = a
 ·
  have hc1b : ((p).toList == (a).toList) = true := (text_beq _ _).2 hc1
  go_wp2_with fail
  go_ret
  exact ⟨true, rfl, by simpa using hc1, hb2⟩
 ·
  have hc1b : ((p).toList == (a).toList) = false := text_beq_no hc1
  go_wp2_with fail
  go_ret
  exact ⟨false, rfl, by simpa using hc1, hb2⟩
theorem begins_prefix (a p : ByteArray) : (bs a).isPrefixOf (bs p) = true ↔ Begins a p := by
 rw [List.isPrefixOf_iff_prefix]
 constructor
 · rintro ⟨r, h⟩; exact ⟨r, h.symm⟩
 · rintro ⟨r, h⟩; exact ⟨r, h.symm⟩
theorem bans_2 (a : ByteArray) (p : ByteArray) (v1 v2 : Value) (st : Int) (v3 : Value) (d : ByteArray) (u : Int) (w : World) (hp : p.size ≤ maxLen) :
  Calls Tryz.prog 248 #[.agg #[.string a], .agg #[.string p, v1, v2, .int .i64 st, v3, .string d, .int .i64 u]] w fun e w' => BoolIs (Begins a p) w e w' := by
 have HPM : Hid (p.size ≤ maxLen) := hp
 clear hp
 have hb0 : Below w.heap.size w w := Below.refl _ _
 go_enter Tryz.func248, Tryz.ntmps248
 go_upto_region 1 with fail
 obtain ⟨qv1, hqv1⟩ := exq ((w).heap.size)
 obtain ⟨w1, hW1⟩ := exq ((w).alloc (.cells #[.string a] 258))
 have hz1 : (w).heap.size = qv1 := hqv1.symm
 first | rw [← hW1, ← hqv1] | rw [← hW1]
 have hs1 := hsa hW1 hz1
 have bw := bal hW1
 have hb1 := hbt hb0 bw
 have HBv1_1 := hnew hW1 hz1
 clear hb0 bw hW1 hz1
 obtain ⟨qv2, hqv2⟩ := exq (qv1 + 1)
 obtain ⟨w2, hW2⟩ := exq ((w1).alloc (.cells #[.string p, v1, v2, .int .i64 st, v3, .string d, .int .i64 u] 66))
 have hz2 : (w1).heap.size = qv2 := by rw [hqv2]; exact hs1
 first | rw [← hW2, ← hqv2] | rw [← hW2]
 have hs2 := hsa hW2 hz2
 have bw := bal hW2
 have hb2 := hbt hb1 bw
 have HBv1_2 := hblk HBv1_1 bw
 have HBv2_2 := hnew hW2 hz2
 clear hb1 HBv1_1 bw hW2 hz2
 clear hs2 hqv2 hs1 hqv1
 have cv1_0 := k1c HBv1_2
 have cv2_0 := (k7c HBv2_2).1
 go_wp2_with fail
 refine (Tryz.strings_HasPrefix p a _).mono ?_
 rintro e w3 ⟨rfl, hwe⟩
 have bw : Below (w2).heap.size (w2) w3 := by rw [hwe]; exact Below.refl _ _
 clear hwe
 obtain ⟨u9, hu9⟩ := exq (Lib.hasPrefix p.data.toList a.data.toList)
 rw [← hu9]
 have HU9 : Hid (u9 = Lib.hasPrefix p.data.toList a.data.toList) := hu9
 clear hu9
 have hb3 := hbt hb2 bw
 have HBv1_3 := hblk HBv1_2 bw
 have HBv2_3 := hblk HBv2_2 bw
 clear hb2 HBv1_2 HBv2_2 bw
 clear cv1_0 cv2_0
 go_wp2_with fail
 go_ret
 exact ⟨u9, rfl, by rw [HU9.out]; exact begins_prefix a p, hb3⟩
theorem bans_3 (a b : ByteArray) (p : ByteArray) (v1 v2 : Value) (st : Int) (v3 : Value) (d : ByteArray) (u : Int) (w : World) (n3 base : Nat) (fs : List (ByteArray × ByteArray)) (h3 : FieldsV w base v3 n3 fs) (hn3 : n3 ≤ 2000000) (hc : CopyF fs) :
    Calls Tryz.prog 251 #[.agg #[.string a, .string b], .agg #[.string p, v1, v2, .int .i64 st, v3, .string d, .int .i64 u]] w fun e w' => BoolIs (getB fs a = true ∧ getV fs a = b) w e w' := by
  have HV3 : Hid (∀ W, Below w.heap.size w W → FieldsV W base v3 n3 fs) := fun W h => h3.below h
  have HC : Hid (CopyF fs) := hc
  clear h3 hc
  have hb0 : Below w.heap.size w w := Below.refl _ _
  go_enter Tryz.func251, Tryz.ntmps251
  go_upto_region 1 with fail
  obtain ⟨qv1, hqv1⟩ := exq ((w).heap.size)
  obtain ⟨w1, hW1⟩ := exq ((w).alloc (.cells #[.string a, .string b] 260))
  have hz1 : (w).heap.size = qv1 := hqv1.symm
  first | rw [← hW1, ← hqv1] | rw [← hW1]
  have hs1 := hsa hW1 hz1
  have bw := bal hW1
  have hb1 := hbt hb0 bw
  have HBv1_1 := hnew hW1 hz1
  clear hb0 bw hW1 hz1
  obtain ⟨qv2, hqv2⟩ := exq (qv1 + 1)
  obtain ⟨w2, hW2⟩ := exq ((w1).alloc (.cells #[.string p, v1, v2, .int .i64 st, v3, .string d, .int .i64 u] 66))
  have hz2 : (w1).heap.size = qv2 := by rw [hqv2]; exact hs1
  first | rw [← hW2, ← hqv2] | rw [← hW2]
  have hs2 := hsa hW2 hz2
  have bw := bal hW2
  have hb2 := hbt hb1 bw
  have HBv1_2 := hblk HBv1_1 bw
  have HBv2_2 := hnew hW2 hz2
  clear hb1 HBv1_1 bw hW2 hz2
  clear hs2 hqv2 hs1 hqv1
  have cv1_0 := (k2c HBv1_2).1
  have cv2_4 := (k7c HBv2_2).2.2.2.2.1
  go_wp2_with fail
  refine (implGet_any _ n3 base fs a _ (HV3.out _ hb2) (by omega) HC.out).mono ?_
  rintro e w3 ⟨rfl, bw⟩
  obtain ⟨gv, hgv⟩ := exq (getV fs a)
  obtain ⟨ug, hug⟩ := exq (getB fs a)
  have HGE : Hid (getV fs a = gv) := hgv.symm
  rw [← hgv, ← hug]
  clear hgv
  have hb3 := hbt hb2 bw
  have HBv1_3 := hblk HBv1_2 bw
  have HBv2_3 := hblk HBv2_2 bw
  clear hb2 HBv1_2 HBv2_2 bw
  clear cv1_0 cv2_4
  cases ug with
  | false =>
    have Hug : Hid (¬ getB fs a = true) := (by show ¬ _; rw [← hug]; decide)
    clear hug
    go_wp2_with fail
    go_ret
    refine ⟨false, rfl, ?_, hb3⟩
    have z1 := Hug.out
    have z2 := HGE.out
    first
      | (have z3 := HGV.out
         simp_all; done)
      | (simp_all; done)
  | true =>
    have Hug : Hid (getB fs a = true) := hug.symm
    clear hug
    have cv1_1 := (k2c HBv1_3).2
    by_cases hc1 : gv = b
    · have hc1b : ((gv).toList == (b).toList) = true := (text_beq _ _).2 hc1
      have HGV : Hid (gv = b) := hc1
      go_wp2_with fail
      go_ret
      refine ⟨true, rfl, ?_, hb3⟩
      have z1 := Hug.out
      have z2 := HGE.out
      first
        | (have z3 := HGV.out
           simp_all; done)
        | (simp_all; done)
    · have hc1b : ((gv).toList == (b).toList) = false := text_beq_no hc1
      have HGV : Hid (¬ gv = b) := hc1
      go_wp2_with fail
      go_ret
      refine ⟨false, rfl, ?_, hb3⟩
      have z1 := Hug.out
      have z2 := HGE.out
      first
        | (have z3 := HGV.out
           simp_all; done)
        | (simp_all; done)
end Go.Proofs.YtbmhonfgffjpcaaGreat
