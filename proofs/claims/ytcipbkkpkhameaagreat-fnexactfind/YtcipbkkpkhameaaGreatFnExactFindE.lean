/- What the proof of FnExactFind leans on: contracts of the program's and the specification's functions, and plain facts (part 5 of 8). -/
import Derived.Test.YtcipbkkpkhameaaGreatFnExactFindD
namespace Go.Proofs.YtcipbkkpkhameaaGreat
open Go.RowKit
open Go.Lib hiding intOf

/-- A store that was measured. -/
structure ShSmall (s : ShD) : Prop where
  c : s.cs.length ≤ 1048576
  w : s.ws.length ≤ 1048576
  k : s.ks.length ≤ 1048576
  b : s.bl.length ≤ 1048576
  ct : ∀ i, i < s.cs.length → (textAt s.cs i).size ≤ 1048576
  wt : ∀ x ∈ s.ws, x.2.size ≤ 1048576
  ks : ∀ k ∈ s.ks, KpSmall k
  bt : ∀ x ∈ s.bl, x.2.1.size ≤ 1048576 ∧ x.2.2.1.size ≤ 1048576
theorem ShSmall.bm {s : ShD} (h : ShSmall s) : ∀ x ∈ s.bl, x.2.1.size ≤ maxLen ∧ x.2.2.1.size ≤ maxLen := fun x hx => ⟨Nat.le_trans (h.bt x hx).1 (by decide), Nat.le_trans (h.bt x hx).2 (by decide)⟩
theorem ShSmall.kv {s : ShD} (h : ShSmall s) {kv : List (KpD × Value × Value × Value)} (hk : kv.map (·.1) = s.ks) {x : KpD × Value × Value × Value} (hx : x ∈ kv) : KpSmall x.1 := h.ks x.1 (by rw [← hk]; exact List.mem_map.2 ⟨x, hx, rfl⟩)
set_option maxHeartbeats 8000000 in
set_option maxRecDepth 100000 in
theorem specShelfOk_any (v1 v2 V VB : Value) (kv : List (KpD × Value × Value × Value)) (s : ShD) (B : Nat) (w : World) (h : ShelfO w B v1 v2 V VB kv s) (hz : ShSmall s) :
    Calls Tryz.prog 6 #[.agg #[v1, v2, V, VB, .int .i64 s.nx, .int .i64 s.sq]] w fun e w' => BoolIs (ShelfP s) w e w' := by
  obtain ⟨o1, c1, e1⟩ := slice_of_owns h.disk.cells
  obtain ⟨o2, c2, e2⟩ := slice_of_owns h.disk.pend
  obtain ⟨o3, c3, e3⟩ := slice_of_owns h.kept.row
  obtain ⟨o4, c4, e4⟩ := slice_of_owns h.bans
  subst e1 e2 e3 e4
  obtain ⟨n1, hn1⟩ : ∃ n, n = s.cs.length := ⟨_, rfl⟩
  obtain ⟨n2, hn2⟩ : ∃ n, n = s.ws.length := ⟨_, rfl⟩
  obtain ⟨n3, hn3⟩ : ∃ n, n = kv.length := ⟨_, rfl⟩
  obtain ⟨n4, hn4⟩ : ∃ n, n = s.bl.length := ⟨_, rfl⟩
  rw [← hn1, ← hn2, ← hn3, ← hn4] at h ⊢
  have HLN : Hid (s.cs.length = n1 ∧ s.ws.length = n2 ∧ kv.length = n3 ∧ s.bl.length = n4) := ⟨hn1.symm, hn2.symm, hn3.symm, hn4.symm⟩
  have HKS : Hid (kv.map (·.1) = s.ks) := h.2
  have HZ : Hid (ShSmall s) := hz
  have bn1 : n1 ≤ 1048576 := by rw [hn1]; exact hz.c
  have bn2 : n2 ≤ 1048576 := by rw [hn2]; exact hz.w
  have bn3 : n3 ≤ 1048576 := by rw [hn3, ← List.length_map (f := (·.1)), h.2]; exact hz.k
  have bn4 : n4 ≤ 1048576 := by rw [hn4]; exact hz.b
  have HSH : Hid (∀ W, Below w.heap.size w W → ShelfO W B (.slice o1 n1 c1) (.slice o2 n2 c2) (.slice o3 n3 c3) (.slice o4 n4 c4) kv s) := fun W hb => h.below hb
  have HKP : Hid (∀ W, Below w.heap.size w W → KeptsO W B (.slice o3 n3 c3) kv) := fun W hb => (h.below hb).kept
  have HLK : Hid (kv.length = n3) := hn3.symm
  clear hn1 hn2 hn3 hn4 h hz
  have hb0 : Below w.heap.size w w := Below.refl _ _
  go_enter Tryz.func6, Tryz.ntmps6
  go_upto_region 1 with fail
  obtain ⟨qv1, hqv1⟩ : ∃ q, q = (w).heap.size := ⟨_, rfl⟩
  obtain ⟨w1, hW1⟩ : ∃ W, W = (w).alloc (.cells #[.slice o1 n1 c1, .slice o2 n2 c2, .slice o3 n3 c3, .slice o4 n4 c4, .int .i64 s.nx, .int .i64 s.sq] 38) := ⟨_, rfl⟩
  have hz1 : (w).heap.size = qv1 := hqv1.symm
  first | rw [← hW1, ← hqv1] | rw [← hW1]
  have hs1 : w1.heap.size = qv1 + 1 := by rw [hW1, ← hz1]; simp
  have bw : Below (w).heap.size (w) w1 := by rw [hW1]; exact (Below.refl _ _).alloc (Nat.le_refl _) _
  have hb1 := hbt hb0 bw
  have HBv1_1 : Hid ((w1).heap[qv1]? = some (.cells #[.slice o1 n1 c1, .slice o2 n2 c2, .slice o3 n3 c3, .slice o4 n4 c4, .int .i64 s.nx, .int .i64 s.sq] 38)) := by show _ = _; rw [hW1, ← hz1]; exact heap_alloc_new _ _
  clear hb0 bw hW1 hz1
  clear hs1 hqv1
  have cv1_0 : (w1).cell? ⟨qv1, 0, none⟩ = some (.slice o1 n1 c1) := (cell_of HBv1_1.out 0).trans rfl
  have cv1_1 : (w1).cell? ⟨qv1, 1, none⟩ = some (.slice o2 n2 c2) := (cell_of HBv1_1.out 1).trans rfl
  go_wp2_with fail
  refine (specDiskOk_any _ _ n1 s.cs n2 s.ws B _ (by have hd := (HSH.out _ hb1).disk; rw [HLN.out.1, HLN.out.2.1] at hd; exact hd) (by omega) (by omega)).mono ?_
  rintro e w2 ⟨ud, rfl, hud, bw⟩
  have hb2 := hbt hb1 bw
  have HBv1_2 := hblk HBv1_1 bw
  clear hb1 HBv1_1 bw
  clear cv1_0 cv1_1
  cases ud with
  | false =>
    have HNud : Hid (¬ (DiskP s.cs s.ws)) := fun h => nomatch hud.2 h
    clear hud
    go_wp2_with fail
    go_ret
    exact BoolIs.no (fun h => HNud.out h.1) hb2
  | true =>
    have HYud : Hid (DiskP s.cs s.ws) := hud.1 rfl
    clear hud
    by_cases hc1 : 5 < (n4 : Int)
    · have HB5 : Hid (¬ n4 ≤ 5) := (by have := hc1; show ¬ _; omega)
      have cv1_3 : (w2).cell? ⟨qv1, 3, none⟩ = some (.slice o4 n4 c4) := (cell_of HBv1_2.out 3).trans rfl
      go_wp2_with fail
      go_ret
      exact BoolIs.no (fun h => by have h1 := h.2.1; have h5 := HB5.out; rw [HLN.out.2.2.2] at h1; omega) hb2
    · have HB5 : Hid (n4 ≤ 5) := (by have := hc1; show _ ≤ _; omega)
      have cv1_3 : (w2).cell? ⟨qv1, 3, none⟩ = some (.slice o4 n4 c4) := (cell_of HBv1_2.out 3).trans rfl
      have cv1_4 : (w2).cell? ⟨qv1, 4, none⟩ = some (.int .i64 s.nx) := (cell_of HBv1_2.out 4).trans rfl
      go_wp2_with fail
      refine (l1In_any s.nx 5 19 _).mono ?_
      rintro e w3 ⟨rfl, hwe⟩
      have bw : Below (w2).heap.size (w2) w3 := by rw [hwe]; exact Below.refl _ _
      clear hwe
      obtain ⟨unx, hunx⟩ : ∃ u, u = decide ((5 : Int) ≤ s.nx ∧ s.nx ≤ 19) := ⟨_, rfl⟩
      rw [← hunx]
      have hb3 := hbt hb2 bw
      have HBv1_3 := hblk HBv1_2 bw
      clear hb2 HBv1_2 bw
      clear cv1_3 cv1_4
      cases unx with
      | false =>
        have HNunx : Hid (¬ (5 ≤ s.nx ∧ s.nx ≤ 19)) := (show ¬ (5 ≤ s.nx ∧ s.nx ≤ 19) from of_decide_eq_false hunx.symm)
        clear hunx
        go_wp2_with fail
        go_ret
        exact BoolIs.no (fun h => HNunx.out h.2.2.1) hb3
      | true =>
        have HYunx : Hid (5 ≤ s.nx ∧ s.nx ≤ 19) := (show (5 ≤ s.nx ∧ s.nx ≤ 19) from of_decide_eq_true hunx.symm)
        clear hunx
        have cv1_5 : (w3).cell? ⟨qv1, 5, none⟩ = some (.int .i64 s.sq) := (cell_of HBv1_3.out 5).trans rfl
        go_wp2_with fail
        refine (l1In_any s.sq 1 100000 _).mono ?_
        rintro e w4 ⟨rfl, hwe⟩
        have bw : Below (w3).heap.size (w3) w4 := by rw [hwe]; exact Below.refl _ _
        clear hwe
        obtain ⟨usq, husq⟩ : ∃ u, u = decide ((1 : Int) ≤ s.sq ∧ s.sq ≤ 100000) := ⟨_, rfl⟩
        rw [← husq]
        have hb4 := hbt hb3 bw
        have HBv1_4 := hblk HBv1_3 bw
        clear hb3 HBv1_3 bw
        clear cv1_5
        cases usq with
        | false =>
          have HNusq : Hid (¬ (1 ≤ s.sq ∧ s.sq ≤ 100000)) := (show ¬ (1 ≤ s.sq ∧ s.sq ≤ 100000) from of_decide_eq_false husq.symm)
          clear husq
          go_wp2_with fail
          go_ret
          exact BoolIs.no (fun h => HNusq.out h.2.2.2.1) hb4
        | true =>
          have HYusq : Hid (1 ≤ s.sq ∧ s.sq ≤ 100000) := (show (1 ≤ s.sq ∧ s.sq ≤ 100000) from of_decide_eq_true husq.symm)
          clear husq
          have bq1 := HYusq.out.1
          have bq2 := HYusq.out.2
          have hwq : IntKind.i64.wrap (s.sq - 1) = s.sq - 1 := by rw [IntKind.wrap_i64]; omega
          go_wp2_with fail
          go_loopw [3] (fun i wr => ∃ j : Nat, j ≤ n4 ∧ i = .int .i64 (j : Int) ∧ Hid (Below w.heap.size w (wr) ∧ (wr).heap[qv1]? = some (.cells #[.slice o1 n1 c1, .slice o2 n2 c2, .slice o3 n3 c3, .slice o4 n4 c4, .int .i64 s.nx, .int .i64 s.sq] 38)) ∧ Hid (∀ x ∈ s.bl.take j, BanP x.1 x.2.1 x.2.2.1 x.2.2.2)) (fun i _ => n4 - (intOf i).toNat)
          case atStart => exact ⟨0, Nat.zero_le _, rfl, ⟨hb4, HBv1_4.out⟩, fun x hx => by simp at hx⟩
          case round =>
            obtain ⟨j, hj, rfl, HW, HN⟩ := hrel
            by_cases hlt : (j : Int) < (n4 : Int)
            · have hb5 := HW.out.1
              have HBv1_5 : Hid ((wr).heap[qv1]? = some (.cells #[.slice o1 n1 c1, .slice o2 n2 c2, .slice o3 n3 c3, .slice o4 n4 c4, .int .i64 s.nx, .int .i64 s.sq] 38)) := HW.out.2
              clear HW hb4 HBv1_4
              have hbn := (HSH.out _ hb5).bans
              try rw [HLN.out.2.2.2] at hbn
              have hbv := ban_view hbn
              clear hbn
              obtain ⟨g4, hog, hgl, r1, r2, r3, r4⟩ := hbv.2 j (by first | omega | (rw [HLN.out.2.2.2]; omega))
              clear hbv
              subst hog
              obtain ⟨y, hy⟩ : ∃ y, y = banAt s.bl j := ⟨_, rfl⟩
              rw [← hy] at r1 r2 r3 r4
              have HM : Hid (y ∈ s.bl) := by show _ ∈ _; rw [hy]; exact banAt_mem s.bl j (by rw [HLN.out.2.2.2]; omega)
              have HTK : Hid (s.bl.take (j + 1) = s.bl.take j ++ [y]) := by show _ = _; rw [hy]; exact take_banAt s.bl j (by rw [HLN.out.2.2.2]; omega)
              clear hy hgl
              obtain ⟨y0, y1, y2, y3⟩ := y
              dsimp only at r1 r2 r3 r4
              have cv1_3 : (wr).cell? ⟨qv1, 3, none⟩ = some (.slice (some ⟨g4, 0, none⟩) n4 c4) := (cell_of HBv1_5.out 3).trans rfl
              go_wp2_with fail
              refine (specBanOk_any y0 y1 y2 y3 _ (HZ.out.bm _ HM.out).1 (HZ.out.bm _ HM.out).2).mono ?_
              rintro e w6 ⟨ub, rfl, hub, bw⟩
              have hb6 := hbt hb5 bw
              have HBv1_6 := hblk HBv1_5 bw
              clear hb5 HBv1_5 bw
              clear r1 r2 r3 r4 cv1_3
              cases ub with
              | false =>
                have HNub : Hid (¬ (BanP y0 y1 y2 y3)) := fun h => nomatch hub.2 h
                clear hub
                go_wp2_with fail
                go_ret
                exact BoolIs.no (fun h => HNub.out (h.2.2.2.2.1 _ HM.out)) hb6
              | true =>
                have HYub : Hid (BanP y0 y1 y2 y3) := hub.1 rfl
                clear hub
                have HN2 : Hid (∀ x ∈ s.bl.take (j + 1), BanP x.1 x.2.1 x.2.2.1 x.2.2.2) := fun x hx => by
                  rw [HTK.out] at hx
                  rcases List.mem_append.1 hx with hx | hx
                  · exact HN.out x hx
                  · rw [List.mem_singleton.1 hx]; exact HYub.out
                go_wp2_with fail
                go_roundw
                case rel => exact ⟨j + 1, by omega, by go_num, ⟨hb6, HBv1_6.out⟩, HN2⟩
                case measure => simp [intOf]; omega
            · have hb5 := HW.out.1
              have HBv1_5 : Hid ((wr).heap[qv1]? = some (.cells #[.slice o1 n1 c1, .slice o2 n2 c2, .slice o3 n3 c3, .slice o4 n4 c4, .int .i64 s.nx, .int .i64 s.sq] 38)) := HW.out.2
              clear HW hb4 HBv1_4
              have HAL : Hid (∀ x ∈ s.bl, BanP x.1 x.2.1 x.2.2.1 x.2.2.2) := fun x hx => HN.out x (by rw [List.take_of_length_le (by rw [HLN.out.2.2.2]; omega)]; exact hx)
              clear HN
              have cv1_3 : (wr).cell? ⟨qv1, 3, none⟩ = some (.slice o4 n4 c4) := (cell_of HBv1_5.out 3).trans rfl
              go_wp2_with fail
              clear cv1_3
              obtain ⟨wA, hwA⟩ : ∃ W, W = wr := ⟨_, rfl⟩
              rw [← hwA] at hb5 HBv1_5 ⊢
              clear hwA
              go_loopw [4] (fun i wr => ∃ i' : Nat, i' ≤ n3 ∧ i = .int .i64 (i' : Int) ∧ Hid (Below w.heap.size w (wr) ∧ (wr).heap[qv1]? = some (.cells #[.slice o1 n1 c1, .slice o2 n2 c2, .slice o3 n3 c3, .slice o4 n4 c4, .int .i64 s.nx, .int .i64 s.sq] 38)) ∧ Hid (∀ m, m < i' → KpOk s.ks s.sq m)) (fun i _ => n3 - (intOf i).toNat)
              case atStart => exact ⟨0, Nat.zero_le _, rfl, ⟨hb5, HBv1_5.out⟩, fun m hm => absurd hm (by omega)⟩
              case round =>
                obtain ⟨i, hi, rfl, HW, HN⟩ := hrel
                by_cases hlt : (i : Int) < (n3 : Int)
                · have hb6 := HW.out.1
                  have HBv1_6 : Hid ((wr).heap[qv1]? = some (.cells #[.slice o1 n1 c1, .slice o2 n2 c2, .slice o3 n3 c3, .slice o4 n4 c4, .int .i64 s.nx, .int .i64 s.sq] 38)) := HW.out.2
                  clear HW hb5 HBv1_5
                  obtain ⟨g3, p3, hV, _, _⟩ := (HKP.out _ hb6).look i (by rw [HLK.out]; omega)
                  rw [HLK.out] at hV
                  injection hV with hV1 hV2 hV3
                  subst hV1 hV3
                  clear hV2
                  obtain ⟨xX, hxX⟩ : ∃ x, x = kvAt kv i := ⟨_, rfl⟩
                  have HMx : Hid (xX ∈ kv) := by show _ ∈ _; rw [hxX]; exact kvAt_mem kv i (by rw [HLK.out]; omega)
                  have HEx : Hid (kpAt s.ks i = xX.1) := by show _ = _; rw [hxX, ← HKS.out]; exact (kvAt_fst kv i (by rw [HLK.out]; omega)).symm
                  have HTKx : Hid (kv.take (i + 1) = kv.take i ++ [xX]) := by show _ = _; rw [hxX]; exact kvAt_take kv i (by rw [HLK.out]; omega)
                  have HKx : Hid (∀ W, Below w.heap.size w W → KpAt W g3 i xX) := fun W hb => by
                    obtain ⟨g', p', hV, _, hc⟩ := (HKP.out W hb).look i (by rw [HLK.out]; omega)
                    injection hV with hV1 _ _
                    cases hV1
                    rw [hxX]
                    exact hc
                  clear hxX
                  obtain ⟨x, kuv1, kuv2, kuv3⟩ := xX
                  obtain ⟨ku1, kuc1, hu⟩ := slice_of_owns ((HKP.out _ hb6).names HMx.out)
                  have hu' : kuv1 = .slice ku1 x.xs.length kuc1 := hu
                  subst hu'
                  clear hu
                  obtain ⟨ku2, kuc2, hu⟩ := slice_of_owns ((HKP.out _ hb6).vals HMx.out)
                  have hu' : kuv2 = .slice ku2 x.ys.length kuc2 := hu
                  subst hu'
                  clear hu
                  obtain ⟨ku3, kuc3, hu⟩ := slice_of_owns ((HKP.out _ hb6).flds HMx.out)
                  have hu' : kuv3 = .slice ku3 x.fs.length kuc3 := hu
                  subst hu'
                  clear hu
                  have r0x := (HKx.out _ hb6).c0
                  have r1x := (HKx.out _ hb6).c1
                  have r2x := (HKx.out _ hb6).c2
                  have r3x := (HKx.out _ hb6).c3
                  have r4x := (HKx.out _ hb6).c4
                  have r5x := (HKx.out _ hb6).c5
                  have r6x := (HKx.out _ hb6).c6
                  have r7x := (HKx.out _ hb6).c7
                  have r8x := (HKx.out _ hb6).c8
                  dsimp only at r0x r1x r2x r3x r4x r5x r6x r7x r8x
                  have cv1_2 : (wr).cell? ⟨qv1, 2, none⟩ = some (.slice (some ⟨g3, 0, none⟩) n3 c3) := (cell_of HBv1_6.out 2).trans rfl
                  go_upto_region 12 with fail
                  obtain ⟨qv2, hqv2⟩ : ∃ q, q = (wr).heap.size := ⟨_, rfl⟩
                  obtain ⟨w7, hW7⟩ : ∃ W, W = (wr).alloc (.cells #[.string x.p, .slice ku1 x.xs.length kuc1, .slice ku2 x.ys.length kuc2, .int .i64 x.st, .slice ku3 x.fs.length kuc3, .string x.b, .int .i64 x.t, .int .i64 x.a, .int .i64 x.q] 71) := ⟨_, rfl⟩
                  have hz7 : (wr).heap.size = qv2 := hqv2.symm
                  first | rw [← hW7, ← hqv2] | rw [← hW7]
                  have hs7 : w7.heap.size = qv2 + 1 := by rw [hW7, ← hz7]; simp
                  have bw : Below (wr).heap.size (wr) w7 := by rw [hW7]; exact (Below.refl _ _).alloc (Nat.le_refl _) _
                  have hb7 := hbt hb6 bw
                  have HBv1_7 := hblk HBv1_6 bw
                  have HBv2_7 : Hid ((w7).heap[qv2]? = some (.cells #[.string x.p, .slice ku1 x.xs.length kuc1, .slice ku2 x.ys.length kuc2, .int .i64 x.st, .slice ku3 x.fs.length kuc3, .string x.b, .int .i64 x.t, .int .i64 x.a, .int .i64 x.q] 71)) := by show _ = _; rw [hW7, ← hz7]; exact heap_alloc_new _ _
                  clear hb6 HBv1_6 bw hW7 hz7
                  clear hs7 hqv2
                  clear r0x r1x r2x r3x r4x r5x r6x r7x r8x cv1_2
                  go_upto_region 12 with fail
                  by_cases hi0 : (0 : Int) < (i : Int)
                  · obtain ⟨m, hm⟩ : ∃ m : Nat, (i : Int) - 1 = (m : Int) := ⟨i - 1, by omega⟩
                    have hi0n : 0 < i := by omega
                    have hmn : ¬ n3 ≤ m := by omega
                    have hwm : IntKind.i64.wrap (m : Int) = (m : Int) := by rw [IntKind.wrap_i64]; omega
                    obtain ⟨zX, hzX⟩ : ∃ x, x = kvAt kv m := ⟨_, rfl⟩
                    have HMz : Hid (zX ∈ kv) := by show _ ∈ _; rw [hzX]; exact kvAt_mem kv m (by rw [HLK.out]; omega)
                    have HEz : Hid (kpAt s.ks m = zX.1) := by show _ = _; rw [hzX, ← HKS.out]; exact (kvAt_fst kv m (by rw [HLK.out]; omega)).symm
                    have HTKz : Hid (kv.take (m + 1) = kv.take m ++ [zX]) := by show _ = _; rw [hzX]; exact kvAt_take kv m (by rw [HLK.out]; omega)
                    have HKz : Hid (∀ W, Below w.heap.size w W → KpAt W g3 m zX) := fun W hb => by
                      obtain ⟨g', p', hV, _, hc⟩ := (HKP.out W hb).look m (by rw [HLK.out]; omega)
                      injection hV with hV1 _ _
                      cases hV1
                      rw [hzX]
                      exact hc
                    clear hzX
                    obtain ⟨z, ktv1, ktv2, ktv3⟩ := zX
                    obtain ⟨kt1, ktc1, hu⟩ := slice_of_owns ((HKP.out _ hb7).names HMz.out)
                    have hu' : ktv1 = .slice kt1 z.xs.length ktc1 := hu
                    subst hu'
                    clear hu
                    obtain ⟨kt2, ktc2, hu⟩ := slice_of_owns ((HKP.out _ hb7).vals HMz.out)
                    have hu' : ktv2 = .slice kt2 z.ys.length ktc2 := hu
                    subst hu'
                    clear hu
                    obtain ⟨kt3, ktc3, hu⟩ := slice_of_owns ((HKP.out _ hb7).flds HMz.out)
                    have hu' : ktv3 = .slice kt3 z.fs.length ktc3 := hu
                    subst hu'
                    clear hu
                    have HEL3 : Hid (∀ W, Below w.heap.size w W → (W.cell? ⟨g3, m * 9, none⟩ = some (.string z.p) ∧ W.cell? ⟨g3, m * 9 + 1, none⟩ = some (.slice kt1 z.xs.length ktc1) ∧ W.cell? ⟨g3, m * 9 + 2, none⟩ = some (.slice kt2 z.ys.length ktc2) ∧ W.cell? ⟨g3, m * 9 + 3, none⟩ = some (.int .i64 z.st) ∧ W.cell? ⟨g3, m * 9 + 4, none⟩ = some (.slice kt3 z.fs.length ktc3) ∧ W.cell? ⟨g3, m * 9 + 5, none⟩ = some (.string z.b) ∧ W.cell? ⟨g3, m * 9 + 6, none⟩ = some (.int .i64 z.t) ∧ W.cell? ⟨g3, m * 9 + 7, none⟩ = some (.int .i64 z.a) ∧ W.cell? ⟨g3, m * 9 + 8, none⟩ = some (.int .i64 z.q))) := fun W hb => by
                      have c := HKz.out W hb
                      exact ⟨c.c0, c.c1, c.c2, c.c3, c.c4, c.c5, c.c6, c.c7, c.c8⟩
                    have HIM : Hid (i = m + 1) := (by show _ = _; omega)
                    go_upto_region 12 with fail
                    refine wp_region_held_drew (S := fun W => W.heap[qv2]? = some (.cells #[.string x.p, .slice ku1 x.xs.length kuc1, .slice ku2 x.ys.length kuc2, .int .i64 x.st, .slice ku3 x.fs.length kuc3, .string x.b, .int .i64 x.t, .int .i64 x.a, .int .i64 x.q] 71) ∧ W.heap[qv1]? = some (.cells #[.slice o1 n1 c1, .slice o2 n2 c2, .slice (some ⟨g3, 0, none⟩) n3 c3, .slice o4 n4 c4, .int .i64 s.nx, .int .i64 s.sq] 38) ∧ (W.cell? ⟨g3, m * 9, none⟩ = some (.string z.p) ∧ W.cell? ⟨g3, m * 9 + 1, none⟩ = some (.slice kt1 z.xs.length ktc1) ∧ W.cell? ⟨g3, m * 9 + 2, none⟩ = some (.slice kt2 z.ys.length ktc2) ∧ W.cell? ⟨g3, m * 9 + 3, none⟩ = some (.int .i64 z.st) ∧ W.cell? ⟨g3, m * 9 + 4, none⟩ = some (.slice kt3 z.fs.length ktc3) ∧ W.cell? ⟨g3, m * 9 + 5, none⟩ = some (.string z.b) ∧ W.cell? ⟨g3, m * 9 + 6, none⟩ = some (.int .i64 z.t) ∧ W.cell? ⟨g3, m * 9 + 7, none⟩ = some (.int .i64 z.a) ∧ W.cell? ⟨g3, m * 9 + 8, none⟩ = some (.int .i64 z.q))) (by kernel_rfl) ⟨HBv2_7.out, HBv1_7.out, (by first | exact HEL3.out _ hb7 | exact HEL3.out _ hb7.drew)⟩ (fun _ => ?_)
                    obtain ⟨w8, hX⟩ : ∃ X, X = w7.drew := ⟨_, rfl⟩
                    have bw : Below w7.heap.size w7 w8 := by rw [hX]; exact (Below.refl _ _).drew
                    rw [← hX]
                    have hb8 := hbt hb7 bw
                    have HM8 : Hid ((w7).heap.size ≤ (w8).heap.size) := bw.size
                    have HBv1_8 := hblk HBv1_7 bw
                    have HBv2_8 := hblk HBv2_7 bw
                    have hS8 : w8.heap[qv2]? = some (.cells #[.string x.p, .slice ku1 x.xs.length kuc1, .slice ku2 x.ys.length kuc2, .int .i64 x.st, .slice ku3 x.fs.length kuc3, .string x.b, .int .i64 x.t, .int .i64 x.a, .int .i64 x.q] 71) ∧ w8.heap[qv1]? = some (.cells #[.slice o1 n1 c1, .slice o2 n2 c2, .slice (some ⟨g3, 0, none⟩) n3 c3, .slice o4 n4 c4, .int .i64 s.nx, .int .i64 s.sq] 38) ∧ (w8.cell? ⟨g3, m * 9, none⟩ = some (.string z.p) ∧ w8.cell? ⟨g3, m * 9 + 1, none⟩ = some (.slice kt1 z.xs.length ktc1) ∧ w8.cell? ⟨g3, m * 9 + 2, none⟩ = some (.slice kt2 z.ys.length ktc2) ∧ w8.cell? ⟨g3, m * 9 + 3, none⟩ = some (.int .i64 z.st) ∧ w8.cell? ⟨g3, m * 9 + 4, none⟩ = some (.slice kt3 z.fs.length ktc3) ∧ w8.cell? ⟨g3, m * 9 + 5, none⟩ = some (.string z.b) ∧ w8.cell? ⟨g3, m * 9 + 6, none⟩ = some (.int .i64 z.t) ∧ w8.cell? ⟨g3, m * 9 + 7, none⟩ = some (.int .i64 z.a) ∧ w8.cell? ⟨g3, m * 9 + 8, none⟩ = some (.int .i64 z.q)) := ⟨HBv2_8.out, HBv1_8.out, (by first | exact HEL3.out _ hb8 | exact HEL3.out _ hb8.drew)⟩
                    clear hb7 HBv1_7 HBv2_7 bw hX
                    refine tkP 0 (.pointer (some ⟨qv2, 0, none⟩)) 55 rfl rfl hS8 ?_
                    go_frame
                    refine tkL 1 (.agg #[.string x.p, .slice ku1 x.xs.length kuc1, .slice ku2 x.ys.length kuc2, .int .i64 x.st, .slice ku3 x.fs.length kuc3, .string x.b, .int .i64 x.t]) 56 rfl rfl (Or.inl ⟨by rfl, by intro W hW; obtain ⟨hhv2, hhv1, hhE_3⟩ := hW; have y0 := (cell_of hhv2 0).trans rfl; have y1 := (cell_of hhv2 1).trans rfl; have y2 := (cell_of hhv2 2).trans rfl; have y3 := (cell_of hhv2 3).trans rfl; have y4 := (cell_of hhv2 4).trans rfl; have y5 := (cell_of hhv2 5).trans rfl; have y6 := (cell_of hhv2 6).trans rfl; go_simp⟩) hS8 ?_
                    go_frame
                    refine wpAnyH_ready (rs := [2]) (by kernel_rfl) (by simp) ?_
                    refine AllReadyH.cons rfl (fun K hK => ?_) AllReadyH.nil
                    go_simp
                    refine (specObjOk_k x _ _ _ _ ((HSH.out _ hb8).kept.read HMx.out) (HZ.out.kv HKS.out HMx.out)).mono ?_
                    rintro e w9 ⟨uo, rfl, huo, bw⟩
                    have hb9 := hbt hb8 bw
                    have HM9 : Hid ((w8).heap.size ≤ (w9).heap.size) := bw.size
                    have HBv1_9 := hblk HBv1_8 bw
                    have HBv2_9 := hblk HBv2_8 bw
                    clear hb8 HBv1_8 HBv2_8 bw
                    have hS9 : w9.heap[qv2]? = some (.cells #[.string x.p, .slice ku1 x.xs.length kuc1, .slice ku2 x.ys.length kuc2, .int .i64 x.st, .slice ku3 x.fs.length kuc3, .string x.b, .int .i64 x.t, .int .i64 x.a, .int .i64 x.q] 71) ∧ w9.heap[qv1]? = some (.cells #[.slice o1 n1 c1, .slice o2 n2 c2, .slice (some ⟨g3, 0, none⟩) n3 c3, .slice o4 n4 c4, .int .i64 s.nx, .int .i64 s.sq] 38) ∧ (w9.cell? ⟨g3, m * 9, none⟩ = some (.string z.p) ∧ w9.cell? ⟨g3, m * 9 + 1, none⟩ = some (.slice kt1 z.xs.length ktc1) ∧ w9.cell? ⟨g3, m * 9 + 2, none⟩ = some (.slice kt2 z.ys.length ktc2) ∧ w9.cell? ⟨g3, m * 9 + 3, none⟩ = some (.int .i64 z.st) ∧ w9.cell? ⟨g3, m * 9 + 4, none⟩ = some (.slice kt3 z.fs.length ktc3) ∧ w9.cell? ⟨g3, m * 9 + 5, none⟩ = some (.string z.b) ∧ w9.cell? ⟨g3, m * 9 + 6, none⟩ = some (.int .i64 z.t) ∧ w9.cell? ⟨g3, m * 9 + 7, none⟩ = some (.int .i64 z.a) ∧ w9.cell? ⟨g3, m * 9 + 8, none⟩ = some (.int .i64 z.q)) := ⟨HBv2_9.out, HBv1_9.out, (by first | exact HEL3.out _ hb9 | exact HEL3.out _ hb9.drew)⟩
                    refine hK.out _ _ hS9 (fun _ => ?_)
                    clear hK K hS8
                    cases uo with
                    | false =>
                      have HNuo : Hid (¬ (ObjK x)) := fun h => nomatch huo.2 h
                      clear huo
                      refine tkP 3 (.bool true) 58 rfl rfl hS9 ?_
                      go_frame
                      refine tkP 4 (.bool true) 59 rfl rfl hS9 ?_
                      go_frame
                      refine tkN 5 60 rfl rfl hS9 ?_
                      go_frame
                      refine tkN 6 61 rfl rfl hS9 ?_
                      go_frame
                      refine tkN 7 62 rfl rfl hS9 ?_
                      go_frame
                      refine tkN 8 63 rfl rfl hS9 ?_
                      go_frame
                      refine tkP 9 (.bool true) 64 rfl rfl hS9 ?_
                      go_frame
                      refine tkP 10 (.bool true) 65 rfl rfl hS9 ?_
                      go_frame
                      refine tkN 11 66 rfl rfl hS9 ?_
                      go_frame
                      refine tkN 12 67 rfl rfl hS9 ?_
                      go_frame
                      refine tkN 13 68 rfl rfl hS9 ?_
                      go_frame
                      refine tkN 14 69 rfl rfl hS9 ?_
                      go_frame
                      refine tkN 15 70 rfl rfl hS9 ?_
                      go_frame
                      refine tkN 16 71 rfl rfl hS9 ?_
                      go_frame
                      refine tkN 17 72 rfl rfl hS9 ?_
                      go_frame
                      refine tkP 18 (.bool true) 73 rfl rfl hS9 ?_
                      go_frame
                      refine tkP 19 (.bool true) 74 rfl rfl hS9 ?_
                      go_frame
                      refine tkN 20 75 rfl rfl hS9 ?_
                      go_frame
                      refine tkN 21 76 rfl rfl hS9 ?_
                      go_frame
                      refine tkN 22 77 rfl rfl hS9 ?_
                      go_frame
                      refine tkN 23 78 rfl rfl hS9 ?_
                      go_frame
                      refine tkN 24 79 rfl rfl hS9 ?_
                      go_frame
                      refine tkN 25 80 rfl rfl hS9 ?_
                      go_frame
                      refine tkN 26 81 rfl rfl hS9 ?_
                      go_frame
                      refine tkN 27 82 rfl rfl hS9 ?_
                      go_frame
                      refine tkN 28 83 rfl rfl hS9 ?_
                      go_frame
                      refine tkN 29 84 rfl rfl hS9 ?_
                      go_frame
                      refine tkN 30 85 rfl rfl hS9 ?_
                      go_frame
                      refine tkN 31 86 rfl rfl hS9 ?_
                      go_frame
                      refine tkN 32 87 rfl rfl hS9 ?_
                      go_frame
                      refine tkN 33 88 rfl rfl hS9 ?_
                      go_frame
                      refine tkP 34 (.bool true) 89 rfl rfl hS9 ?_
                      go_frame
                      clear hS9
                      refine wpAnyH_done (by kernel_rfl) ?_ _
                      go_wp2_with fail
                      go_ret
                      exact BoolIs.no (fun h => by have hk := h.2.2.2.2.2 i (by rw [← HKS.out, List.length_map, HLN.out.2.2.1]; omega); unfold KpOk at hk; rw [HEx.out] at hk; exact HNuo.out hk.1) hb9
                    | true =>
                      have HYuo : Hid (ObjK x) := huo.1 rfl
                      clear huo
                      refine tkP 3 (.bool false) 58 rfl rfl hS9 ?_
                      go_frame
                      refine tkP 4 (.bool false) 59 rfl rfl hS9 ?_
                      go_frame
                      refine tkP 5 (.pointer (some ⟨qv2, 7, none⟩)) 60 rfl rfl hS9 ?_
                      go_frame
                      refine tkL 6 (.int .i64 x.a) 61 rfl rfl (Or.inl ⟨by rfl, by intro W hW; obtain ⟨hhv2, hhv1, hhE_3⟩ := hW; have y7 := (cell_of hhv2 7).trans rfl; go_simp⟩) hS9 ?_
                      go_frame
                      refine wpAnyH_ready (rs := [7]) (by kernel_rfl) (by simp) ?_
                      refine AllReadyH.cons rfl (fun K hK => ?_) AllReadyH.nil
                      go_simp
                      refine (l1In_any x.a 5 19 _).mono ?_
                      rintro e w10 ⟨rfl, hwe⟩
                      have bw : Below (w9).heap.size (w9) w10 := by rw [hwe]; exact Below.refl _ _
                      clear hwe
                      obtain ⟨uka, huka⟩ : ∃ u, u = decide ((5 : Int) ≤ x.a ∧ x.a ≤ 19) := ⟨_, rfl⟩
                      rw [← huka]
                      have hb10 := hbt hb9 bw
                      have HM10 : Hid ((w9).heap.size ≤ (w10).heap.size) := bw.size
                      have HBv1_10 := hblk HBv1_9 bw
                      have HBv2_10 := hblk HBv2_9 bw
                      clear hb9 HBv1_9 HBv2_9 bw
                      have hS10 : w10.heap[qv2]? = some (.cells #[.string x.p, .slice ku1 x.xs.length kuc1, .slice ku2 x.ys.length kuc2, .int .i64 x.st, .slice ku3 x.fs.length kuc3, .string x.b, .int .i64 x.t, .int .i64 x.a, .int .i64 x.q] 71) ∧ w10.heap[qv1]? = some (.cells #[.slice o1 n1 c1, .slice o2 n2 c2, .slice (some ⟨g3, 0, none⟩) n3 c3, .slice o4 n4 c4, .int .i64 s.nx, .int .i64 s.sq] 38) ∧ (w10.cell? ⟨g3, m * 9, none⟩ = some (.string z.p) ∧ w10.cell? ⟨g3, m * 9 + 1, none⟩ = some (.slice kt1 z.xs.length ktc1) ∧ w10.cell? ⟨g3, m * 9 + 2, none⟩ = some (.slice kt2 z.ys.length ktc2) ∧ w10.cell? ⟨g3, m * 9 + 3, none⟩ = some (.int .i64 z.st) ∧ w10.cell? ⟨g3, m * 9 + 4, none⟩ = some (.slice kt3 z.fs.length ktc3) ∧ w10.cell? ⟨g3, m * 9 + 5, none⟩ = some (.string z.b) ∧ w10.cell? ⟨g3, m * 9 + 6, none⟩ = some (.int .i64 z.t) ∧ w10.cell? ⟨g3, m * 9 + 7, none⟩ = some (.int .i64 z.a) ∧ w10.cell? ⟨g3, m * 9 + 8, none⟩ = some (.int .i64 z.q)) := ⟨HBv2_10.out, HBv1_10.out, (by first | exact HEL3.out _ hb10 | exact HEL3.out _ hb10.drew)⟩
                      refine hK.out _ _ hS10 (fun _ => ?_)
                      clear hK K hS9
                      cases uka with
                      | false =>
                        have HNuka : Hid (¬ (5 ≤ x.a ∧ x.a ≤ 19)) := (show ¬ (5 ≤ x.a ∧ x.a ≤ 19) from of_decide_eq_false huka.symm)
                        clear huka
                        refine tkP 8 (.bool true) 63 rfl rfl hS10 ?_
                        go_frame
                        refine tkP 9 (.bool true) 64 rfl rfl hS10 ?_
                        go_frame
                        refine tkP 10 (.bool true) 65 rfl rfl hS10 ?_
                        go_frame
                        refine tkN 11 66 rfl rfl hS10 ?_
                        go_frame
                        refine tkN 12 67 rfl rfl hS10 ?_
                        go_frame
                        refine tkN 13 68 rfl rfl hS10 ?_
                        go_frame
                        refine tkN 14 69 rfl rfl hS10 ?_
                        go_frame
                        refine tkN 15 70 rfl rfl hS10 ?_
                        go_frame
                        refine tkN 16 71 rfl rfl hS10 ?_
                        go_frame
                        refine tkN 17 72 rfl rfl hS10 ?_
                        go_frame
                        refine tkP 18 (.bool true) 73 rfl rfl hS10 ?_
                        go_frame
                        refine tkP 19 (.bool true) 74 rfl rfl hS10 ?_
                        go_frame
                        refine tkN 20 75 rfl rfl hS10 ?_
                        go_frame
                        refine tkN 21 76 rfl rfl hS10 ?_
                        go_frame
                        refine tkN 22 77 rfl rfl hS10 ?_
                        go_frame
                        refine tkN 23 78 rfl rfl hS10 ?_
                        go_frame
                        refine tkN 24 79 rfl rfl hS10 ?_
                        go_frame
                        refine tkN 25 80 rfl rfl hS10 ?_
                        go_frame
                        refine tkN 26 81 rfl rfl hS10 ?_
                        go_frame
                        refine tkN 27 82 rfl rfl hS10 ?_
                        go_frame
                        refine tkN 28 83 rfl rfl hS10 ?_
                        go_frame
                        refine tkN 29 84 rfl rfl hS10 ?_
                        go_frame
                        refine tkN 30 85 rfl rfl hS10 ?_
                        go_frame
                        refine tkN 31 86 rfl rfl hS10 ?_
                        go_frame
                        refine tkN 32 87 rfl rfl hS10 ?_
                        go_frame
                        refine tkN 33 88 rfl rfl hS10 ?_
                        go_frame
                        refine tkP 34 (.bool true) 89 rfl rfl hS10 ?_
                        go_frame
                        clear hS10
                        refine wpAnyH_done (by kernel_rfl) ?_ _
                        go_wp2_with fail
                        go_ret
                        exact BoolIs.no (fun h => by have hk := h.2.2.2.2.2 i (by rw [← HKS.out, List.length_map, HLN.out.2.2.1]; omega); unfold KpOk at hk; rw [HEx.out] at hk; exact HNuka.out hk.2.1) hb10
                      | true =>
                        have HYuka : Hid (5 ≤ x.a ∧ x.a ≤ 19) := (show (5 ≤ x.a ∧ x.a ≤ 19) from of_decide_eq_true huka.symm)
                        clear huka
                        refine tkP 8 (.bool false) 63 rfl rfl hS10 ?_
                        go_frame
                        refine tkP 9 (.bool false) 64 rfl rfl hS10 ?_
                        go_frame
                        refine tkP 10 (.bool false) 65 rfl rfl hS10 ?_
                        go_frame
                        refine tkP 11 (.pointer (some ⟨qv2, 8, none⟩)) 66 rfl rfl hS10 ?_
                        go_frame
                        refine tkL 12 (.int .i64 x.q) 67 rfl rfl (Or.inl ⟨by rfl, by intro W hW; obtain ⟨hhv2, hhv1, hhE_3⟩ := hW; have y8 := (cell_of hhv2 8).trans rfl; go_simp⟩) hS10 ?_
                        go_frame
                        refine tkP 13 (.pointer (some ⟨qv1, 5, none⟩)) 68 rfl rfl hS10 ?_
                        go_frame
                        refine tkL 14 (.int .i64 s.sq) 69 rfl rfl (Or.inl ⟨by rfl, by intro W hW; obtain ⟨hhv2, hhv1, hhE_3⟩ := hW; have y5 := (cell_of hhv1 5).trans rfl; go_simp⟩) hS10 ?_
                        go_frame
                        refine tkP 15 (.int .i64 (s.sq - 1)) 70 rfl rfl hS10 ?_
                        go_frame
                        refine wpAnyH_ready (rs := [16]) (by kernel_rfl) (by simp) ?_
                        refine AllReadyH.cons rfl (fun K hK => ?_) AllReadyH.nil
                        go_simp
                        refine (l1In_any x.q 1 (s.sq - 1) _).mono ?_
                        rintro e w11 ⟨rfl, hwe⟩
                        have bw : Below (w10).heap.size (w10) w11 := by rw [hwe]; exact Below.refl _ _
                        clear hwe
                        obtain ⟨ukq, hukq⟩ : ∃ u, u = decide ((1 : Int) ≤ x.q ∧ x.q ≤ (s.sq - 1)) := ⟨_, rfl⟩
                        rw [← hukq]
                        have hb11 := hbt hb10 bw
                        have HM11 : Hid ((w10).heap.size ≤ (w11).heap.size) := bw.size
                        have HBv1_11 := hblk HBv1_10 bw
                        have HBv2_11 := hblk HBv2_10 bw
                        clear hb10 HBv1_10 HBv2_10 bw
                        have hS11 : w11.heap[qv2]? = some (.cells #[.string x.p, .slice ku1 x.xs.length kuc1, .slice ku2 x.ys.length kuc2, .int .i64 x.st, .slice ku3 x.fs.length kuc3, .string x.b, .int .i64 x.t, .int .i64 x.a, .int .i64 x.q] 71) ∧ w11.heap[qv1]? = some (.cells #[.slice o1 n1 c1, .slice o2 n2 c2, .slice (some ⟨g3, 0, none⟩) n3 c3, .slice o4 n4 c4, .int .i64 s.nx, .int .i64 s.sq] 38) ∧ (w11.cell? ⟨g3, m * 9, none⟩ = some (.string z.p) ∧ w11.cell? ⟨g3, m * 9 + 1, none⟩ = some (.slice kt1 z.xs.length ktc1) ∧ w11.cell? ⟨g3, m * 9 + 2, none⟩ = some (.slice kt2 z.ys.length ktc2) ∧ w11.cell? ⟨g3, m * 9 + 3, none⟩ = some (.int .i64 z.st) ∧ w11.cell? ⟨g3, m * 9 + 4, none⟩ = some (.slice kt3 z.fs.length ktc3) ∧ w11.cell? ⟨g3, m * 9 + 5, none⟩ = some (.string z.b) ∧ w11.cell? ⟨g3, m * 9 + 6, none⟩ = some (.int .i64 z.t) ∧ w11.cell? ⟨g3, m * 9 + 7, none⟩ = some (.int .i64 z.a) ∧ w11.cell? ⟨g3, m * 9 + 8, none⟩ = some (.int .i64 z.q)) := ⟨HBv2_11.out, HBv1_11.out, (by first | exact HEL3.out _ hb11 | exact HEL3.out _ hb11.drew)⟩
                        refine hK.out _ _ hS11 (fun _ => ?_)
                        clear hK K hS10
                        cases ukq with
                        | false =>
                          have HNukq : Hid (¬ (1 ≤ x.q ∧ x.q ≤ (s.sq - 1))) := (show ¬ (1 ≤ x.q ∧ x.q ≤ (s.sq - 1)) from of_decide_eq_false hukq.symm)
                          clear hukq
                          refine tkP 17 (.bool true) 72 rfl rfl hS11 ?_
                          go_frame
                          refine tkP 18 (.bool true) 73 rfl rfl hS11 ?_
                          go_frame
                          refine tkP 19 (.bool true) 74 rfl rfl hS11 ?_
                          go_frame
                          refine tkN 20 75 rfl rfl hS11 ?_
                          go_frame
                          refine tkN 21 76 rfl rfl hS11 ?_
                          go_frame
                          refine tkN 22 77 rfl rfl hS11 ?_
                          go_frame
                          refine tkN 23 78 rfl rfl hS11 ?_
                          go_frame
                          refine tkN 24 79 rfl rfl hS11 ?_
                          go_frame
                          refine tkN 25 80 rfl rfl hS11 ?_
                          go_frame
                          refine tkN 26 81 rfl rfl hS11 ?_
                          go_frame
                          refine tkN 27 82 rfl rfl hS11 ?_
                          go_frame
                          refine tkN 28 83 rfl rfl hS11 ?_
                          go_frame
                          refine tkN 29 84 rfl rfl hS11 ?_
                          go_frame
                          refine tkN 30 85 rfl rfl hS11 ?_
                          go_frame
                          refine tkN 31 86 rfl rfl hS11 ?_
                          go_frame
                          refine tkN 32 87 rfl rfl hS11 ?_
                          go_frame
                          refine tkN 33 88 rfl rfl hS11 ?_
                          go_frame
                          refine tkP 34 (.bool true) 89 rfl rfl hS11 ?_
                          go_frame
                          clear hS11
                          refine wpAnyH_done (by kernel_rfl) ?_ _
                          go_wp2_with fail
                          go_ret
                          exact BoolIs.no (fun h => by have hk := h.2.2.2.2.2 i (by rw [← HKS.out, List.length_map, HLN.out.2.2.1]; omega); unfold KpOk at hk; rw [HEx.out] at hk; exact HNukq.out hk.2.2.1) hb11
                        | true =>
                          have HYukq : Hid (1 ≤ x.q ∧ x.q ≤ (s.sq - 1)) := (show (1 ≤ x.q ∧ x.q ≤ (s.sq - 1)) from of_decide_eq_true hukq.symm)
                          clear hukq
                          refine tkP 17 (.bool false) 72 rfl rfl hS11 ?_
                          go_frame
                          refine tkP 18 (.bool false) 73 rfl rfl hS11 ?_
                          go_frame
                          refine tkP 19 (.bool false) 74 rfl rfl hS11 ?_
                          go_frame
                          refine tkP 20 (.int .i64 (i : Int)) 75 rfl rfl hS11 ?_
                          go_frame
                          refine tkP 21 (.bool true) 76 rfl rfl hS11 ?_
                          go_frame
                          refine tkP 22 (.bool true) 77 rfl rfl hS11 ?_
                          go_frame
                          refine tkP 23 (.pointer (some ⟨qv1, 2, none⟩)) 78 rfl rfl hS11 ?_
                          go_frame
                          refine tkL 24 (.slice (some ⟨g3, 0, none⟩) n3 c3) 79 rfl rfl (Or.inl ⟨by rfl, by intro W hW; obtain ⟨hhv2, hhv1, hhE_3⟩ := hW; have y2 := (cell_of hhv1 2).trans rfl; go_simp⟩) hS11 ?_
                          go_frame
                          refine tkP 25 (.int .i64 (i : Int)) 80 rfl rfl hS11 ?_
                          go_frame
                          refine tkP 26 (.int .i64 (m : Int)) 81 rfl rfl hS11 ?_
                          go_frame
                          refine tkP 27 (.pointer (some ⟨g3, m * 9, none⟩)) 82 rfl rfl hS11 ?_
                          go_frame
                          refine tkP 28 (.pointer (some ⟨g3, m * 9 + 8, none⟩)) 83 rfl rfl hS11 ?_
                          go_frame
                          refine tkL 29 (.int .i64 z.q) 84 rfl rfl (Or.inl ⟨by rfl, by intro W hW; obtain ⟨hhv2, hhv1, hhE_3⟩ := hW; have y8 := hhE_3.2.2.2.2.2.2.2.2; go_simp⟩) hS11 ?_
                          go_frame
                          refine tkP 30 (.pointer (some ⟨qv2, 8, none⟩)) 85 rfl rfl hS11 ?_
                          go_frame
                          refine tkL 31 (.int .i64 x.q) 86 rfl rfl (Or.inl ⟨by rfl, by intro W hW; obtain ⟨hhv2, hhv1, hhE_3⟩ := hW; have y8 := (cell_of hhv2 8).trans rfl; go_simp⟩) hS11 ?_
                          go_frame
                          by_cases hc2 : x.q ≤ z.q
                          · have HAS : Hid (¬ z.q < x.q) := (by have := hc2; show ¬ _; omega)
                            refine tkP 32 (.bool true) 87 rfl rfl hS11 ?_
                            go_frame
                            refine tkP 33 (.bool true) 88 rfl rfl hS11 ?_
                            go_frame
                            refine tkP 34 (.bool true) 89 rfl rfl hS11 ?_
                            go_frame
                            clear hS11
                            refine wpAnyH_done (by kernel_rfl) ?_ _
                            go_wp2_with fail
                            go_ret
                            exact BoolIs.no (fun h => by have hk := h.2.2.2.2.2 i (by rw [← HKS.out, List.length_map, HLN.out.2.2.1]; omega); unfold KpOk at hk; rw [HEx.out] at hk; have h2 := hk.2.2.2.1 (by omega); rw [HIM.out, Nat.add_sub_cancel, HEz.out] at h2; have h3 := HAS.out; omega) hb11
                          · have HAS : Hid (z.q < x.q) := (by have := hc2; show _ < _; omega)
                            refine tkP 32 (.bool false) 87 rfl rfl hS11 ?_
                            go_frame
                            refine tkP 33 (.bool false) 88 rfl rfl hS11 ?_
                            go_frame
                            refine tkP 34 (.bool false) 89 rfl rfl hS11 ?_
                            go_frame
                            clear hS11
                            refine wpAnyH_done (by kernel_rfl) ?_ _
                            go_wp2_with fail
                            have HASC : Hid (0 < i → (kpAt s.ks (i - 1)).q < x.q) := fun _ => by rw [HIM.out, Nat.add_sub_cancel, HEz.out]; exact HAS.out
                            clear HAS
                            obtain ⟨wB, hwB⟩ : ∃ W, W = w11 := ⟨_, rfl⟩
                            rw [← hwB] at hb11 HBv1_11 HBv2_11 ⊢
                            clear hwB
                            go_loopw [6] (fun i0 wr => ∃ j : Nat, j ≤ i ∧ i0 = .int .i64 (j : Int) ∧ Hid (Below w.heap.size w (wr) ∧ (wr).heap[qv1]? = some (.cells #[.slice o1 n1 c1, .slice o2 n2 c2, .slice (some ⟨g3, 0, none⟩) n3 c3, .slice o4 n4 c4, .int .i64 s.nx, .int .i64 s.sq] 38) ∧ (wr).heap[qv2]? = some (.cells #[.string x.p, .slice ku1 x.xs.length kuc1, .slice ku2 x.ys.length kuc2, .int .i64 x.st, .slice ku3 x.fs.length kuc3, .string x.b, .int .i64 x.t, .int .i64 x.a, .int .i64 x.q] 71)) ∧ Hid (∀ m, m < j → (kpAt s.ks m).a ≠ x.a)) (fun i0 _ => i - (intOf i0).toNat)
                            case atStart => exact ⟨0, Nat.zero_le _, rfl, ⟨hb11, HBv1_11.out, HBv2_11.out⟩, fun m hm => absurd hm (by omega)⟩
                            case round =>
                              obtain ⟨j, hj, rfl, HW, HJ⟩ := hrel
                              by_cases hlj : (j : Int) < (i : Int)
                              · have hb12 := HW.out.1
                                have HBv1_12 : Hid ((wr).heap[qv1]? = some (.cells #[.slice o1 n1 c1, .slice o2 n2 c2, .slice (some ⟨g3, 0, none⟩) n3 c3, .slice o4 n4 c4, .int .i64 s.nx, .int .i64 s.sq] 38)) := HW.out.2.1
                                have HBv2_12 : Hid ((wr).heap[qv2]? = some (.cells #[.string x.p, .slice ku1 x.xs.length kuc1, .slice ku2 x.ys.length kuc2, .int .i64 x.st, .slice ku3 x.fs.length kuc3, .string x.b, .int .i64 x.t, .int .i64 x.a, .int .i64 x.q] 71)) := HW.out.2.2
                                clear HW hb11 HBv1_11 HBv2_11
                                obtain ⟨z2X, hz2X⟩ : ∃ x, x = kvAt kv j := ⟨_, rfl⟩
                                have HMz2 : Hid (z2X ∈ kv) := by show _ ∈ _; rw [hz2X]; exact kvAt_mem kv j (by rw [HLK.out]; omega)
                                have HEz2 : Hid (kpAt s.ks j = z2X.1) := by show _ = _; rw [hz2X, ← HKS.out]; exact (kvAt_fst kv j (by rw [HLK.out]; omega)).symm
                                have HTKz2 : Hid (kv.take (j + 1) = kv.take j ++ [z2X]) := by show _ = _; rw [hz2X]; exact kvAt_take kv j (by rw [HLK.out]; omega)
                                have HKz2 : Hid (∀ W, Below w.heap.size w W → KpAt W g3 j z2X) := fun W hb => by
                                  obtain ⟨g', p', hV, _, hc⟩ := (HKP.out W hb).look j (by rw [HLK.out]; omega)
                                  injection hV with hV1 _ _
                                  cases hV1
                                  rw [hz2X]
                                  exact hc
                                clear hz2X
                                obtain ⟨z2, kzv1, kzv2, kzv3⟩ := z2X
                                obtain ⟨kz1, kzc1, hu⟩ := slice_of_owns ((HKP.out _ hb12).names HMz2.out)
                                have hu' : kzv1 = .slice kz1 z2.xs.length kzc1 := hu
                                subst hu'
                                clear hu
                                obtain ⟨kz2, kzc2, hu⟩ := slice_of_owns ((HKP.out _ hb12).vals HMz2.out)
                                have hu' : kzv2 = .slice kz2 z2.ys.length kzc2 := hu
                                subst hu'
                                clear hu
                                obtain ⟨kz3, kzc3, hu⟩ := slice_of_owns ((HKP.out _ hb12).flds HMz2.out)
                                have hu' : kzv3 = .slice kz3 z2.fs.length kzc3 := hu
                                subst hu'
                                clear hu
                                have hjn : ¬ n3 ≤ j := by omega
                                have HEL3 : Hid (∀ W, Below w.heap.size w W → (W.cell? ⟨g3, j * 9, none⟩ = some (.string z2.p) ∧ W.cell? ⟨g3, j * 9 + 1, none⟩ = some (.slice kz1 z2.xs.length kzc1) ∧ W.cell? ⟨g3, j * 9 + 2, none⟩ = some (.slice kz2 z2.ys.length kzc2) ∧ W.cell? ⟨g3, j * 9 + 3, none⟩ = some (.int .i64 z2.st) ∧ W.cell? ⟨g3, j * 9 + 4, none⟩ = some (.slice kz3 z2.fs.length kzc3) ∧ W.cell? ⟨g3, j * 9 + 5, none⟩ = some (.string z2.b) ∧ W.cell? ⟨g3, j * 9 + 6, none⟩ = some (.int .i64 z2.t) ∧ W.cell? ⟨g3, j * 9 + 7, none⟩ = some (.int .i64 z2.a) ∧ W.cell? ⟨g3, j * 9 + 8, none⟩ = some (.int .i64 z2.q))) := fun W hb => by
                                  have c := HKz2.out W hb
                                  exact ⟨c.c0, c.c1, c.c2, c.c3, c.c4, c.c5, c.c6, c.c7, c.c8⟩
                                go_upto_region 17 with fail
                                refine wp_region_held_drew (S := fun W => W.heap[qv1]? = some (.cells #[.slice o1 n1 c1, .slice o2 n2 c2, .slice (some ⟨g3, 0, none⟩) n3 c3, .slice o4 n4 c4, .int .i64 s.nx, .int .i64 s.sq] 38) ∧ (W.cell? ⟨g3, j * 9, none⟩ = some (.string z2.p) ∧ W.cell? ⟨g3, j * 9 + 1, none⟩ = some (.slice kz1 z2.xs.length kzc1) ∧ W.cell? ⟨g3, j * 9 + 2, none⟩ = some (.slice kz2 z2.ys.length kzc2) ∧ W.cell? ⟨g3, j * 9 + 3, none⟩ = some (.int .i64 z2.st) ∧ W.cell? ⟨g3, j * 9 + 4, none⟩ = some (.slice kz3 z2.fs.length kzc3) ∧ W.cell? ⟨g3, j * 9 + 5, none⟩ = some (.string z2.b) ∧ W.cell? ⟨g3, j * 9 + 6, none⟩ = some (.int .i64 z2.t) ∧ W.cell? ⟨g3, j * 9 + 7, none⟩ = some (.int .i64 z2.a) ∧ W.cell? ⟨g3, j * 9 + 8, none⟩ = some (.int .i64 z2.q)) ∧ W.heap[qv2]? = some (.cells #[.string x.p, .slice ku1 x.xs.length kuc1, .slice ku2 x.ys.length kuc2, .int .i64 x.st, .slice ku3 x.fs.length kuc3, .string x.b, .int .i64 x.t, .int .i64 x.a, .int .i64 x.q] 71)) (by kernel_rfl) ⟨HBv1_12.out, (by first | exact HEL3.out _ hb12 | exact HEL3.out _ hb12.drew), HBv2_12.out⟩ (fun _ => ?_)
                                obtain ⟨w13, hX⟩ : ∃ X, X = wr.drew := ⟨_, rfl⟩
                                have bw : Below wr.heap.size wr w13 := by rw [hX]; exact (Below.refl _ _).drew
                                rw [← hX]
                                have hb13 := hbt hb12 bw
                                have HBv1_13 := hblk HBv1_12 bw
                                have HBv2_13 := hblk HBv2_12 bw
                                have hS13 : w13.heap[qv1]? = some (.cells #[.slice o1 n1 c1, .slice o2 n2 c2, .slice (some ⟨g3, 0, none⟩) n3 c3, .slice o4 n4 c4, .int .i64 s.nx, .int .i64 s.sq] 38) ∧ (w13.cell? ⟨g3, j * 9, none⟩ = some (.string z2.p) ∧ w13.cell? ⟨g3, j * 9 + 1, none⟩ = some (.slice kz1 z2.xs.length kzc1) ∧ w13.cell? ⟨g3, j * 9 + 2, none⟩ = some (.slice kz2 z2.ys.length kzc2) ∧ w13.cell? ⟨g3, j * 9 + 3, none⟩ = some (.int .i64 z2.st) ∧ w13.cell? ⟨g3, j * 9 + 4, none⟩ = some (.slice kz3 z2.fs.length kzc3) ∧ w13.cell? ⟨g3, j * 9 + 5, none⟩ = some (.string z2.b) ∧ w13.cell? ⟨g3, j * 9 + 6, none⟩ = some (.int .i64 z2.t) ∧ w13.cell? ⟨g3, j * 9 + 7, none⟩ = some (.int .i64 z2.a) ∧ w13.cell? ⟨g3, j * 9 + 8, none⟩ = some (.int .i64 z2.q)) ∧ w13.heap[qv2]? = some (.cells #[.string x.p, .slice ku1 x.xs.length kuc1, .slice ku2 x.ys.length kuc2, .int .i64 x.st, .slice ku3 x.fs.length kuc3, .string x.b, .int .i64 x.t, .int .i64 x.a, .int .i64 x.q] 71) := ⟨HBv1_13.out, (by first | exact HEL3.out _ hb13 | exact HEL3.out _ hb13.drew), HBv2_13.out⟩
                                clear hb12 HBv1_12 HBv2_12 bw hX
                                refine tkP 0 (.pointer (some ⟨qv1, 2, none⟩)) 95 rfl rfl hS13 ?_
                                go_frame
                                refine tkL 1 (.slice (some ⟨g3, 0, none⟩) n3 c3) 96 rfl rfl (Or.inl ⟨by rfl, by intro W hW; obtain ⟨hhv1, hhE_3, hhv2⟩ := hW; have y2 := (cell_of hhv1 2).trans rfl; go_simp⟩) hS13 ?_
                                go_frame
                                refine tkP 2 (.int .i64 (j : Int)) 97 rfl rfl hS13 ?_
                                go_frame
                                refine tkP 3 (.pointer (some ⟨g3, j * 9, none⟩)) 98 rfl rfl hS13 ?_
                                go_frame
                                refine tkP 4 (.pointer (some ⟨g3, j * 9 + 7, none⟩)) 99 rfl rfl hS13 ?_
                                go_frame
                                refine tkL 5 (.int .i64 z2.a) 100 rfl rfl (Or.inl ⟨by rfl, by intro W hW; obtain ⟨hhv1, hhE_3, hhv2⟩ := hW; have y7 := hhE_3.2.2.2.2.2.2.2.1; go_simp⟩) hS13 ?_
                                go_frame
                                refine tkP 6 (.pointer (some ⟨qv2, 7, none⟩)) 101 rfl rfl hS13 ?_
                                go_frame
                                refine tkL 7 (.int .i64 x.a) 102 rfl rfl (Or.inl ⟨by rfl, by intro W hW; obtain ⟨hhv1, hhE_3, hhv2⟩ := hW; have y7 := (cell_of hhv2 7).trans rfl; go_simp⟩) hS13 ?_
                                go_frame
                                by_cases hc3 : z2.a = x.a
                                · have hc3b : ((z2.a : Int) == (x.a : Int)) = true := by simpa using hc3
                                  have hc3n : ((z2.a : Int) != (x.a : Int)) = false := by simpa using hc3
                                  have HTW : Hid ((z2.a = x.a)) := hc3
                                  have hc3H : Hid (z2.a = x.a) := hc3
                                  clear hc3
                                  refine tkP 8 (.bool true) 103 rfl rfl hS13 ?_
                                  go_frame
                                  clear hS13
                                  refine wpAnyH_done (by kernel_rfl) ?_ _
                                  go_wp2_with fail
                                  go_ret
                                  exact BoolIs.no (fun h => by have hk := h.2.2.2.2.2 i (by rw [← HKS.out, List.length_map, HLN.out.2.2.1]; omega); unfold KpOk at hk; rw [HEx.out] at hk; exact hk.2.2.2.2 j (by omega) (by rw [HEz2.out]; exact HTW.out)) hb13
                                · have hc3b : ((z2.a : Int) == (x.a : Int)) = false := by simpa using hc3
                                  have hc3n : ((z2.a : Int) != (x.a : Int)) = true := by simpa using hc3
                                  have HTW : Hid (¬ (z2.a = x.a)) := hc3
                                  have hc3H : Hid (¬ (z2.a = x.a)) := hc3
                                  clear hc3
                                  refine tkP 8 (.bool false) 103 rfl rfl hS13 ?_
                                  go_frame
                                  clear hS13
                                  refine wpAnyH_done (by kernel_rfl) ?_ _
                                  have HJ2 : Hid (∀ m, m < j + 1 → (kpAt s.ks m).a ≠ x.a) := fun m hm => by
                                    by_cases e : m = j
                                    · subst e
                                      rw [HEz2.out]
                                      exact HTW.out
                                    · exact HJ.out m (by omega)
                                  go_wp2_with fail
                                  go_roundw
                                  case rel => exact ⟨j + 1, by omega, by go_num, ⟨hb13, HBv1_13.out, HBv2_13.out⟩, HJ2⟩
                                  case measure => simp [intOf]; omega
                              · have hb12 := HW.out.1
                                have HBv1_12 : Hid ((wr).heap[qv1]? = some (.cells #[.slice o1 n1 c1, .slice o2 n2 c2, .slice (some ⟨g3, 0, none⟩) n3 c3, .slice o4 n4 c4, .int .i64 s.nx, .int .i64 s.sq] 38)) := HW.out.2.1
                                have HBv2_12 : Hid ((wr).heap[qv2]? = some (.cells #[.string x.p, .slice ku1 x.xs.length kuc1, .slice ku2 x.ys.length kuc2, .int .i64 x.st, .slice ku3 x.fs.length kuc3, .string x.b, .int .i64 x.t, .int .i64 x.a, .int .i64 x.q] 71)) := HW.out.2.2
                                clear HW hb11 HBv1_11 HBv2_11
                                have HTWS : Hid (∀ m, m < i → (kpAt s.ks m).a ≠ x.a) := fun m hm => HJ.out m (by omega)
                                clear HJ
                                have HN2 : Hid (∀ m, m < i + 1 → KpOk s.ks s.sq m) := fun m hm => by
                                  by_cases e : m = i
                                  · subst e
                                    unfold KpOk
                                    rw [HEx.out]
                                    exact ⟨HYuo.out, HYuka.out, HYukq.out, HASC.out, HTWS.out⟩
                                  · exact HN.out m (by omega)
                                go_wp2_with fail
                                go_roundw
                                case rel => exact ⟨i + 1, by omega, by go_num, ⟨hb12, HBv1_12.out⟩, HN2⟩
                                case measure => simp [intOf]; omega
                  · have hi0z : i = 0 := by omega
                    go_upto_region 12 with fail
                    refine wp_region_held_drew (S := fun W => W.heap[qv2]? = some (.cells #[.string x.p, .slice ku1 x.xs.length kuc1, .slice ku2 x.ys.length kuc2, .int .i64 x.st, .slice ku3 x.fs.length kuc3, .string x.b, .int .i64 x.t, .int .i64 x.a, .int .i64 x.q] 71) ∧ W.heap[qv1]? = some (.cells #[.slice o1 n1 c1, .slice o2 n2 c2, .slice (some ⟨g3, 0, none⟩) n3 c3, .slice o4 n4 c4, .int .i64 s.nx, .int .i64 s.sq] 38)) (by kernel_rfl) ⟨HBv2_7.out, HBv1_7.out⟩ (fun _ => ?_)
                    obtain ⟨w8, hX⟩ : ∃ X, X = w7.drew := ⟨_, rfl⟩
                    have bw : Below w7.heap.size w7 w8 := by rw [hX]; exact (Below.refl _ _).drew
                    rw [← hX]
                    have hb8 := hbt hb7 bw
                    have HM8 : Hid ((w7).heap.size ≤ (w8).heap.size) := bw.size
                    have HBv1_8 := hblk HBv1_7 bw
                    have HBv2_8 := hblk HBv2_7 bw
                    have hS8 : w8.heap[qv2]? = some (.cells #[.string x.p, .slice ku1 x.xs.length kuc1, .slice ku2 x.ys.length kuc2, .int .i64 x.st, .slice ku3 x.fs.length kuc3, .string x.b, .int .i64 x.t, .int .i64 x.a, .int .i64 x.q] 71) ∧ w8.heap[qv1]? = some (.cells #[.slice o1 n1 c1, .slice o2 n2 c2, .slice (some ⟨g3, 0, none⟩) n3 c3, .slice o4 n4 c4, .int .i64 s.nx, .int .i64 s.sq] 38) := ⟨HBv2_8.out, HBv1_8.out⟩
                    clear hb7 HBv1_7 HBv2_7 bw hX
                    refine tkP 0 (.pointer (some ⟨qv2, 0, none⟩)) 55 rfl rfl hS8 ?_
                    go_frame
                    refine tkL 1 (.agg #[.string x.p, .slice ku1 x.xs.length kuc1, .slice ku2 x.ys.length kuc2, .int .i64 x.st, .slice ku3 x.fs.length kuc3, .string x.b, .int .i64 x.t]) 56 rfl rfl (Or.inl ⟨by rfl, by intro W hW; obtain ⟨hhv2, hhv1⟩ := hW; have y0 := (cell_of hhv2 0).trans rfl; have y1 := (cell_of hhv2 1).trans rfl; have y2 := (cell_of hhv2 2).trans rfl; have y3 := (cell_of hhv2 3).trans rfl; have y4 := (cell_of hhv2 4).trans rfl; have y5 := (cell_of hhv2 5).trans rfl; have y6 := (cell_of hhv2 6).trans rfl; go_simp⟩) hS8 ?_
                    go_frame
                    refine wpAnyH_ready (rs := [2]) (by kernel_rfl) (by simp) ?_
                    refine AllReadyH.cons rfl (fun K hK => ?_) AllReadyH.nil
                    go_simp
                    refine (specObjOk_k x _ _ _ _ ((HSH.out _ hb8).kept.read HMx.out) (HZ.out.kv HKS.out HMx.out)).mono ?_
                    rintro e w9 ⟨uo, rfl, huo, bw⟩
                    have hb9 := hbt hb8 bw
                    have HM9 : Hid ((w8).heap.size ≤ (w9).heap.size) := bw.size
                    have HBv1_9 := hblk HBv1_8 bw
                    have HBv2_9 := hblk HBv2_8 bw
                    clear hb8 HBv1_8 HBv2_8 bw
                    have hS9 : w9.heap[qv2]? = some (.cells #[.string x.p, .slice ku1 x.xs.length kuc1, .slice ku2 x.ys.length kuc2, .int .i64 x.st, .slice ku3 x.fs.length kuc3, .string x.b, .int .i64 x.t, .int .i64 x.a, .int .i64 x.q] 71) ∧ w9.heap[qv1]? = some (.cells #[.slice o1 n1 c1, .slice o2 n2 c2, .slice (some ⟨g3, 0, none⟩) n3 c3, .slice o4 n4 c4, .int .i64 s.nx, .int .i64 s.sq] 38) := ⟨HBv2_9.out, HBv1_9.out⟩
                    refine hK.out _ _ hS9 (fun _ => ?_)
                    clear hK K hS8
                    cases uo with
                    | false =>
                      have HNuo : Hid (¬ (ObjK x)) := fun h => nomatch huo.2 h
                      clear huo
                      refine tkP 3 (.bool true) 58 rfl rfl hS9 ?_
                      go_frame
                      refine tkP 4 (.bool true) 59 rfl rfl hS9 ?_
                      go_frame
                      refine tkN 5 60 rfl rfl hS9 ?_
                      go_frame
                      refine tkN 6 61 rfl rfl hS9 ?_
                      go_frame
                      refine tkN 7 62 rfl rfl hS9 ?_
                      go_frame
                      refine tkN 8 63 rfl rfl hS9 ?_
                      go_frame
                      refine tkP 9 (.bool true) 64 rfl rfl hS9 ?_
                      go_frame
                      refine tkP 10 (.bool true) 65 rfl rfl hS9 ?_
                      go_frame
                      refine tkN 11 66 rfl rfl hS9 ?_
                      go_frame
                      refine tkN 12 67 rfl rfl hS9 ?_
                      go_frame
                      refine tkN 13 68 rfl rfl hS9 ?_
                      go_frame
                      refine tkN 14 69 rfl rfl hS9 ?_
                      go_frame
                      refine tkN 15 70 rfl rfl hS9 ?_
                      go_frame
                      refine tkN 16 71 rfl rfl hS9 ?_
                      go_frame
                      refine tkN 17 72 rfl rfl hS9 ?_
                      go_frame
                      refine tkP 18 (.bool true) 73 rfl rfl hS9 ?_
                      go_frame
                      refine tkP 19 (.bool true) 74 rfl rfl hS9 ?_
                      go_frame
                      refine tkN 20 75 rfl rfl hS9 ?_
                      go_frame
                      refine tkN 21 76 rfl rfl hS9 ?_
                      go_frame
                      refine tkN 22 77 rfl rfl hS9 ?_
                      go_frame
                      refine tkN 23 78 rfl rfl hS9 ?_
                      go_frame
                      refine tkN 24 79 rfl rfl hS9 ?_
                      go_frame
                      refine tkN 25 80 rfl rfl hS9 ?_
                      go_frame
                      refine tkN 26 81 rfl rfl hS9 ?_
                      go_frame
                      refine tkN 27 82 rfl rfl hS9 ?_
                      go_frame
                      refine tkN 28 83 rfl rfl hS9 ?_
                      go_frame
                      refine tkN 29 84 rfl rfl hS9 ?_
                      go_frame
                      refine tkN 30 85 rfl rfl hS9 ?_
                      go_frame
                      refine tkN 31 86 rfl rfl hS9 ?_
                      go_frame
                      refine tkN 32 87 rfl rfl hS9 ?_
                      go_frame
                      refine tkN 33 88 rfl rfl hS9 ?_
                      go_frame
                      refine tkP 34 (.bool true) 89 rfl rfl hS9 ?_
                      go_frame
                      clear hS9
                      refine wpAnyH_done (by kernel_rfl) ?_ _
                      go_wp2_with fail
                      go_ret
                      exact BoolIs.no (fun h => by have hk := h.2.2.2.2.2 i (by rw [← HKS.out, List.length_map, HLN.out.2.2.1]; omega); unfold KpOk at hk; rw [HEx.out] at hk; exact HNuo.out hk.1) hb9
                    | true =>
                      have HYuo : Hid (ObjK x) := huo.1 rfl
                      clear huo
                      refine tkP 3 (.bool false) 58 rfl rfl hS9 ?_
                      go_frame
                      refine tkP 4 (.bool false) 59 rfl rfl hS9 ?_
                      go_frame
                      refine tkP 5 (.pointer (some ⟨qv2, 7, none⟩)) 60 rfl rfl hS9 ?_
                      go_frame
                      refine tkL 6 (.int .i64 x.a) 61 rfl rfl (Or.inl ⟨by rfl, by intro W hW; obtain ⟨hhv2, hhv1⟩ := hW; have y7 := (cell_of hhv2 7).trans rfl; go_simp⟩) hS9 ?_
                      go_frame
                      refine wpAnyH_ready (rs := [7]) (by kernel_rfl) (by simp) ?_
                      refine AllReadyH.cons rfl (fun K hK => ?_) AllReadyH.nil
                      go_simp
                      refine (l1In_any x.a 5 19 _).mono ?_
                      rintro e w10 ⟨rfl, hwe⟩
                      have bw : Below (w9).heap.size (w9) w10 := by rw [hwe]; exact Below.refl _ _
                      clear hwe
                      obtain ⟨uka, huka⟩ : ∃ u, u = decide ((5 : Int) ≤ x.a ∧ x.a ≤ 19) := ⟨_, rfl⟩
                      rw [← huka]
                      have hb10 := hbt hb9 bw
                      have HM10 : Hid ((w9).heap.size ≤ (w10).heap.size) := bw.size
                      have HBv1_10 := hblk HBv1_9 bw
                      have HBv2_10 := hblk HBv2_9 bw
                      clear hb9 HBv1_9 HBv2_9 bw
                      have hS10 : w10.heap[qv2]? = some (.cells #[.string x.p, .slice ku1 x.xs.length kuc1, .slice ku2 x.ys.length kuc2, .int .i64 x.st, .slice ku3 x.fs.length kuc3, .string x.b, .int .i64 x.t, .int .i64 x.a, .int .i64 x.q] 71) ∧ w10.heap[qv1]? = some (.cells #[.slice o1 n1 c1, .slice o2 n2 c2, .slice (some ⟨g3, 0, none⟩) n3 c3, .slice o4 n4 c4, .int .i64 s.nx, .int .i64 s.sq] 38) := ⟨HBv2_10.out, HBv1_10.out⟩
                      refine hK.out _ _ hS10 (fun _ => ?_)
                      clear hK K hS9
                      cases uka with
                      | false =>
                        have HNuka : Hid (¬ (5 ≤ x.a ∧ x.a ≤ 19)) := (show ¬ (5 ≤ x.a ∧ x.a ≤ 19) from of_decide_eq_false huka.symm)
                        clear huka
                        refine tkP 8 (.bool true) 63 rfl rfl hS10 ?_
                        go_frame
                        refine tkP 9 (.bool true) 64 rfl rfl hS10 ?_
                        go_frame
                        refine tkP 10 (.bool true) 65 rfl rfl hS10 ?_
                        go_frame
                        refine tkN 11 66 rfl rfl hS10 ?_
                        go_frame
                        refine tkN 12 67 rfl rfl hS10 ?_
                        go_frame
                        refine tkN 13 68 rfl rfl hS10 ?_
                        go_frame
                        refine tkN 14 69 rfl rfl hS10 ?_
                        go_frame
                        refine tkN 15 70 rfl rfl hS10 ?_
                        go_frame
                        refine tkN 16 71 rfl rfl hS10 ?_
                        go_frame
                        refine tkN 17 72 rfl rfl hS10 ?_
                        go_frame
                        refine tkP 18 (.bool true) 73 rfl rfl hS10 ?_
                        go_frame
                        refine tkP 19 (.bool true) 74 rfl rfl hS10 ?_
                        go_frame
                        refine tkN 20 75 rfl rfl hS10 ?_
                        go_frame
                        refine tkN 21 76 rfl rfl hS10 ?_
                        go_frame
                        refine tkN 22 77 rfl rfl hS10 ?_
                        go_frame
                        refine tkN 23 78 rfl rfl hS10 ?_
                        go_frame
                        refine tkN 24 79 rfl rfl hS10 ?_
                        go_frame
                        refine tkN 25 80 rfl rfl hS10 ?_
                        go_frame
                        refine tkN 26 81 rfl rfl hS10 ?_
                        go_frame
                        refine tkN 27 82 rfl rfl hS10 ?_
                        go_frame
                        refine tkN 28 83 rfl rfl hS10 ?_
                        go_frame
                        refine tkN 29 84 rfl rfl hS10 ?_
                        go_frame
                        refine tkN 30 85 rfl rfl hS10 ?_
                        go_frame
                        refine tkN 31 86 rfl rfl hS10 ?_
                        go_frame
                        refine tkN 32 87 rfl rfl hS10 ?_
                        go_frame
                        refine tkN 33 88 rfl rfl hS10 ?_
                        go_frame
                        refine tkP 34 (.bool true) 89 rfl rfl hS10 ?_
                        go_frame
                        clear hS10
                        refine wpAnyH_done (by kernel_rfl) ?_ _
                        go_wp2_with fail
                        go_ret
                        exact BoolIs.no (fun h => by have hk := h.2.2.2.2.2 i (by rw [← HKS.out, List.length_map, HLN.out.2.2.1]; omega); unfold KpOk at hk; rw [HEx.out] at hk; exact HNuka.out hk.2.1) hb10
                      | true =>
                        have HYuka : Hid (5 ≤ x.a ∧ x.a ≤ 19) := (show (5 ≤ x.a ∧ x.a ≤ 19) from of_decide_eq_true huka.symm)
                        clear huka
                        refine tkP 8 (.bool false) 63 rfl rfl hS10 ?_
                        go_frame
                        refine tkP 9 (.bool false) 64 rfl rfl hS10 ?_
                        go_frame
                        refine tkP 10 (.bool false) 65 rfl rfl hS10 ?_
                        go_frame
                        refine tkP 11 (.pointer (some ⟨qv2, 8, none⟩)) 66 rfl rfl hS10 ?_
                        go_frame
                        refine tkL 12 (.int .i64 x.q) 67 rfl rfl (Or.inl ⟨by rfl, by intro W hW; obtain ⟨hhv2, hhv1⟩ := hW; have y8 := (cell_of hhv2 8).trans rfl; go_simp⟩) hS10 ?_
                        go_frame
                        refine tkP 13 (.pointer (some ⟨qv1, 5, none⟩)) 68 rfl rfl hS10 ?_
                        go_frame
                        refine tkL 14 (.int .i64 s.sq) 69 rfl rfl (Or.inl ⟨by rfl, by intro W hW; obtain ⟨hhv2, hhv1⟩ := hW; have y5 := (cell_of hhv1 5).trans rfl; go_simp⟩) hS10 ?_
                        go_frame
                        refine tkP 15 (.int .i64 (s.sq - 1)) 70 rfl rfl hS10 ?_
                        go_frame
                        refine wpAnyH_ready (rs := [16]) (by kernel_rfl) (by simp) ?_
                        refine AllReadyH.cons rfl (fun K hK => ?_) AllReadyH.nil
                        go_simp
                        refine (l1In_any x.q 1 (s.sq - 1) _).mono ?_
                        rintro e w11 ⟨rfl, hwe⟩
                        have bw : Below (w10).heap.size (w10) w11 := by rw [hwe]; exact Below.refl _ _
                        clear hwe
                        obtain ⟨ukq, hukq⟩ : ∃ u, u = decide ((1 : Int) ≤ x.q ∧ x.q ≤ (s.sq - 1)) := ⟨_, rfl⟩
                        rw [← hukq]
                        have hb11 := hbt hb10 bw
                        have HM11 : Hid ((w10).heap.size ≤ (w11).heap.size) := bw.size
                        have HBv1_11 := hblk HBv1_10 bw
                        have HBv2_11 := hblk HBv2_10 bw
                        clear hb10 HBv1_10 HBv2_10 bw
                        have hS11 : w11.heap[qv2]? = some (.cells #[.string x.p, .slice ku1 x.xs.length kuc1, .slice ku2 x.ys.length kuc2, .int .i64 x.st, .slice ku3 x.fs.length kuc3, .string x.b, .int .i64 x.t, .int .i64 x.a, .int .i64 x.q] 71) ∧ w11.heap[qv1]? = some (.cells #[.slice o1 n1 c1, .slice o2 n2 c2, .slice (some ⟨g3, 0, none⟩) n3 c3, .slice o4 n4 c4, .int .i64 s.nx, .int .i64 s.sq] 38) := ⟨HBv2_11.out, HBv1_11.out⟩
                        refine hK.out _ _ hS11 (fun _ => ?_)
                        clear hK K hS10
                        cases ukq with
                        | false =>
                          have HNukq : Hid (¬ (1 ≤ x.q ∧ x.q ≤ (s.sq - 1))) := (show ¬ (1 ≤ x.q ∧ x.q ≤ (s.sq - 1)) from of_decide_eq_false hukq.symm)
                          clear hukq
                          refine tkP 17 (.bool true) 72 rfl rfl hS11 ?_
                          go_frame
                          refine tkP 18 (.bool true) 73 rfl rfl hS11 ?_
                          go_frame
                          refine tkP 19 (.bool true) 74 rfl rfl hS11 ?_
                          go_frame
                          refine tkN 20 75 rfl rfl hS11 ?_
                          go_frame
                          refine tkN 21 76 rfl rfl hS11 ?_
                          go_frame
                          refine tkN 22 77 rfl rfl hS11 ?_
                          go_frame
                          refine tkN 23 78 rfl rfl hS11 ?_
                          go_frame
                          refine tkN 24 79 rfl rfl hS11 ?_
                          go_frame
                          refine tkN 25 80 rfl rfl hS11 ?_
                          go_frame
                          refine tkN 26 81 rfl rfl hS11 ?_
                          go_frame
                          refine tkN 27 82 rfl rfl hS11 ?_
                          go_frame
                          refine tkN 28 83 rfl rfl hS11 ?_
                          go_frame
                          refine tkN 29 84 rfl rfl hS11 ?_
                          go_frame
                          refine tkN 30 85 rfl rfl hS11 ?_
                          go_frame
                          refine tkN 31 86 rfl rfl hS11 ?_
                          go_frame
                          refine tkN 32 87 rfl rfl hS11 ?_
                          go_frame
                          refine tkN 33 88 rfl rfl hS11 ?_
                          go_frame
                          refine tkP 34 (.bool true) 89 rfl rfl hS11 ?_
                          go_frame
                          clear hS11
                          refine wpAnyH_done (by kernel_rfl) ?_ _
                          go_wp2_with fail
                          go_ret
                          exact BoolIs.no (fun h => by have hk := h.2.2.2.2.2 i (by rw [← HKS.out, List.length_map, HLN.out.2.2.1]; omega); unfold KpOk at hk; rw [HEx.out] at hk; exact HNukq.out hk.2.2.1) hb11
                        | true =>
                          have HYukq : Hid (1 ≤ x.q ∧ x.q ≤ (s.sq - 1)) := (show (1 ≤ x.q ∧ x.q ≤ (s.sq - 1)) from of_decide_eq_true hukq.symm)
                          clear hukq
                          refine tkP 17 (.bool false) 72 rfl rfl hS11 ?_
                          go_frame
                          refine tkP 18 (.bool false) 73 rfl rfl hS11 ?_
                          go_frame
                          refine tkP 19 (.bool false) 74 rfl rfl hS11 ?_
                          go_frame
                          refine tkP 20 (.int .i64 (i : Int)) 75 rfl rfl hS11 ?_
                          go_frame
                          refine tkP 21 (.bool false) 76 rfl rfl hS11 ?_
                          go_frame
                          refine tkP 22 (.bool false) 77 rfl rfl hS11 ?_
                          go_frame
                          refine tkN 23 78 rfl rfl hS11 ?_
                          go_frame
                          refine tkN 24 79 rfl rfl hS11 ?_
                          go_frame
                          refine tkN 25 80 rfl rfl hS11 ?_
                          go_frame
                          refine tkN 26 81 rfl rfl hS11 ?_
                          go_frame
                          refine tkN 27 82 rfl rfl hS11 ?_
                          go_frame
                          refine tkN 28 83 rfl rfl hS11 ?_
                          go_frame
                          refine tkN 29 84 rfl rfl hS11 ?_
                          go_frame
                          refine tkN 30 85 rfl rfl hS11 ?_
                          go_frame
                          refine tkN 31 86 rfl rfl hS11 ?_
                          go_frame
                          refine tkN 32 87 rfl rfl hS11 ?_
                          go_frame
                          refine tkP 33 (.bool false) 88 rfl rfl hS11 ?_
                          go_frame
                          refine tkP 34 (.bool false) 89 rfl rfl hS11 ?_
                          go_frame
                          clear hS11
                          refine wpAnyH_done (by kernel_rfl) ?_ _
                          go_wp2_with fail
                          have HASC : Hid (0 < i → (kpAt s.ks (i - 1)).q < x.q) := fun h => absurd h (by omega)
                          obtain ⟨wB, hwB⟩ : ∃ W, W = w11 := ⟨_, rfl⟩
                          rw [← hwB] at hb11 HBv1_11 HBv2_11 ⊢
                          clear hwB
                          go_loopw [6] (fun i0 wr => ∃ j : Nat, j ≤ i ∧ i0 = .int .i64 (j : Int) ∧ Hid (Below w.heap.size w (wr) ∧ (wr).heap[qv1]? = some (.cells #[.slice o1 n1 c1, .slice o2 n2 c2, .slice (some ⟨g3, 0, none⟩) n3 c3, .slice o4 n4 c4, .int .i64 s.nx, .int .i64 s.sq] 38) ∧ (wr).heap[qv2]? = some (.cells #[.string x.p, .slice ku1 x.xs.length kuc1, .slice ku2 x.ys.length kuc2, .int .i64 x.st, .slice ku3 x.fs.length kuc3, .string x.b, .int .i64 x.t, .int .i64 x.a, .int .i64 x.q] 71)) ∧ Hid (∀ m, m < j → (kpAt s.ks m).a ≠ x.a)) (fun i0 _ => i - (intOf i0).toNat)
                          case atStart => exact ⟨0, Nat.zero_le _, rfl, ⟨hb11, HBv1_11.out, HBv2_11.out⟩, fun m hm => absurd hm (by omega)⟩
                          case round =>
                            obtain ⟨j, hj, rfl, HW, HJ⟩ := hrel
                            by_cases hlj : (j : Int) < (i : Int)
                            · have hb12 := HW.out.1
                              have HBv1_12 : Hid ((wr).heap[qv1]? = some (.cells #[.slice o1 n1 c1, .slice o2 n2 c2, .slice (some ⟨g3, 0, none⟩) n3 c3, .slice o4 n4 c4, .int .i64 s.nx, .int .i64 s.sq] 38)) := HW.out.2.1
                              have HBv2_12 : Hid ((wr).heap[qv2]? = some (.cells #[.string x.p, .slice ku1 x.xs.length kuc1, .slice ku2 x.ys.length kuc2, .int .i64 x.st, .slice ku3 x.fs.length kuc3, .string x.b, .int .i64 x.t, .int .i64 x.a, .int .i64 x.q] 71)) := HW.out.2.2
                              clear HW hb11 HBv1_11 HBv2_11
                              exact absurd hlj (by omega)
                            · have hb12 := HW.out.1
                              have HBv1_12 : Hid ((wr).heap[qv1]? = some (.cells #[.slice o1 n1 c1, .slice o2 n2 c2, .slice (some ⟨g3, 0, none⟩) n3 c3, .slice o4 n4 c4, .int .i64 s.nx, .int .i64 s.sq] 38)) := HW.out.2.1
                              have HBv2_12 : Hid ((wr).heap[qv2]? = some (.cells #[.string x.p, .slice ku1 x.xs.length kuc1, .slice ku2 x.ys.length kuc2, .int .i64 x.st, .slice ku3 x.fs.length kuc3, .string x.b, .int .i64 x.t, .int .i64 x.a, .int .i64 x.q] 71)) := HW.out.2.2
                              clear HW hb11 HBv1_11 HBv2_11
                              have HTWS : Hid (∀ m, m < i → (kpAt s.ks m).a ≠ x.a) := fun m hm => HJ.out m (by omega)
                              clear HJ
                              have HN2 : Hid (∀ m, m < i + 1 → KpOk s.ks s.sq m) := fun m hm => by
                                by_cases e : m = i
                                · subst e
                                  unfold KpOk
                                  rw [HEx.out]
                                  exact ⟨HYuo.out, HYuka.out, HYukq.out, HASC.out, HTWS.out⟩
                                · exact HN.out m (by omega)
                              go_wp2_with fail
                              go_roundw
                              case rel => exact ⟨i + 1, by omega, by go_num, ⟨hb12, HBv1_12.out⟩, HN2⟩
                              case measure => simp [intOf]; omega
                · have hb6 := HW.out.1
                  have HBv1_6 : Hid ((wr).heap[qv1]? = some (.cells #[.slice o1 n1 c1, .slice o2 n2 c2, .slice o3 n3 c3, .slice o4 n4 c4, .int .i64 s.nx, .int .i64 s.sq] 38)) := HW.out.2
                  clear HW hb5 HBv1_5
                  have HKA : Hid (∀ m, m < s.ks.length → KpOk s.ks s.sq m) := fun m hm => HN.out m (by rw [← HKS.out, List.length_map, HLN.out.2.2.1] at hm; omega)
                  clear HN
                  have cv1_2 : (wr).cell? ⟨qv1, 2, none⟩ = some (.slice o3 n3 c3) := (cell_of HBv1_6.out 2).trans rfl
                  go_wp2_with fail
                  go_ret
                  exact BoolIs.yes ⟨HYud.out, by rw [HLN.out.2.2.2]; exact HB5.out, HYunx.out, HYusq.out, HAL.out, HKA.out⟩ hb6

end Go.Proofs.YtcipbkkpkhameaaGreat

namespace Go.Proofs.YtcipbkkpkhameaaGreat
open Go.RowKit
open Go.Lib hiding intOf

/-- A call answers an answer with these fields, in memory of its own. -/
def RespRow (st : Int) (fs : List (ByteArray × ByteArray)) (b : ByteArray) (w : World) (e : Ending) (w' : World) : Prop :=
  ∃ v, e = .returned (.agg #[.int .i64 st, v, .string b]) ∧ w'.ownsRow w.heap.size 132 2 v fs.length (flatF fs) ∧ Below w.heap.size w w'
theorem three_other (W : World) (r j : Nat) (a b c : Value) (h : j ≠ r) : (threeSet W r a b c).heap[j]? = W.heap[j]? := by
  unfold threeSet
  rw [heap_setCell_other _ _ j _ h, heap_setCell_other _ _ j _ h, heap_setCell_other _ _ j _ h]

set_option maxHeartbeats 1000000 in
set_option maxRecDepth 100000 in
theorem l9Resp_any (st : Int) (v : Value) (b : ByteArray) (n base : Nat) (fs : List (ByteArray × ByteArray)) (w : World) (hv : FieldsV w base v n fs) (hn : n ≤ 2000000) :
    Calls Tryz.prog 84 #[.agg #[.int .i64 st, v, .string b]] w fun e w' => RespRow st fs b w e w' := by
  obtain ⟨oa, cap, rfl, _⟩ := hv.slice
  obtain ⟨r, hr⟩ : ∃ r, r = w.heap.size := ⟨_, rfl⟩
  have HR : Hid (w.heap.size = r) := hr.symm
  obtain ⟨W1, hW1⟩ : ∃ W, W = (w.alloc (.cells #[.int .i64 st, .slice oa n cap, .string b] 48)).alloc (.cells #[.int .i64 0, .slice none 0 0, .string ⟨#[]⟩] 48) := ⟨_, rfl⟩
  have HW1 : Hid ((w.alloc (.cells #[.int .i64 st, .slice oa n cap, .string b] 48)).alloc (.cells #[.int .i64 0, .slice none 0 0, .string ⟨#[]⟩] 48) = W1) := hW1.symm
  have b1 : Below r w W1 := by rw [hW1, hr]; exact ((Below.refl _ w).alloc (Nat.le_refl _) _).alloc (by simp) _
  have hv1 := hv.below (by rw [hr] at b1; exact b1)
  have s1 : (w.alloc (.cells #[.int .i64 st, .slice oa n cap, .string b] 48)).heap.size = r + 1 := by rw [hr]; simp
  have s2 : W1.heap.size = r + 1 + 1 := by rw [hW1, hr]; simp
  have H0 : Hid (W1.heap[r]? = some (.cells #[.int .i64 st, .slice oa n cap, .string b] 48) ∧ W1.heap[r + 1]? = some (.cells #[.int .i64 0, .slice none 0 0, .string ⟨#[]⟩] 48) ∧ Below r w W1) := by
    have e0 := heap_alloc_new w (.cells #[.int .i64 st, .slice oa n cap, .string b] 48)
    have e1 := heap_alloc_new (w.alloc (.cells #[.int .i64 st, .slice oa n cap, .string b] 48)) (.cells #[.int .i64 0, .slice none 0 0, .string ⟨#[]⟩] 48)
    rw [← hr] at e0
    rw [s1, ← hW1] at e1
    have c1 : Below (r + 1) (w.alloc (.cells #[.int .i64 st, .slice oa n cap, .string b] 48)) W1 := by rw [hW1, ← s1]; exact (Below.refl _ _).alloc (Nat.le_refl _) _
    exact ⟨by rw [c1.block r (by omega)]; exact e0, e1, b1⟩
  obtain ⟨⟨_, c1, _⟩, _⟩ := three_facts H0.out.1
  have HS2 : Hid (W1.heap.size = r + 1 + 1) := s2
  have HL : Hid (fs.length = n) := hv.len
  clear hW1 hv b1 s1 s2
  go_enter Tryz.func84, Tryz.ntmps84
  go_upto_region 1 with fail
  rw [HW1.out, ← hr]
  clear hr HW1
  go_wp2_with fail
  refine (l9Copy_any _ n base fs _ hv1 hn).mono ?_
  rintro e w2 ⟨z, rfl, own, b2⟩
  obtain ⟨oz, cz, rfl⟩ := slice_of_owns own
  rw [HL.out] at own ⊢
  have hs2 := HS2.out
  rw [hs2] at own b2
  have H2 : Hid (w2.heap[r]? = some (.cells #[.int .i64 st, .slice oa n cap, .string b] 48) ∧ w2.heap[r + 1]? = some (.cells #[.int .i64 0, .slice none 0 0, .string ⟨#[]⟩] 48) ∧ Below r w w2) :=
    ⟨by rw [b2.block r (by omega)]; exact H0.out.1, by rw [b2.block (r + 1) (by omega)]; exact H0.out.2.1, H0.out.2.2.trans (b2.mono (by omega))⟩
  have HO2 : Hid (w2.ownsRow (r + 1 + 1) 132 2 (.slice oz n cz) n (flatF fs)) := own
  obtain ⟨⟨_, d1, _⟩, _, y1, _⟩ := three_facts H2.out.1
  clear own b2 hs2 c1 hv1 H0 HS2
  have H3 : Hid ((w2.setCell ⟨r, 1, none⟩ (.slice oz n cz)).heap[r]? = some (.cells #[.int .i64 st, .slice oz n cz, .string b] 48) ∧ (w2.setCell ⟨r, 1, none⟩ (.slice oz n cz)).heap[r + 1]? = some (.cells #[.int .i64 0, .slice none 0 0, .string ⟨#[]⟩] 48)) := by
    refine ⟨?_, by rw [heap_setCell_other _ _ (r + 1) _ (by show r + 1 ≠ r; omega)]; exact H2.out.2.1⟩
    have := heap_set w2 r 1 _ _ _ (.slice oz n cz) H2.out.1
    simpa using this
  obtain ⟨⟨f0, f1, f2⟩, _⟩ := three_facts H3.out.1
  obtain ⟨⟨g0, g1, g2⟩, x0, x1, x2⟩ := three_facts H3.out.2
  have hset := three_set H3.out.2 (.int .i64 st) (.slice oz n cz) (.string b)
  obtain ⟨⟨k0, k1, k2⟩, _⟩ := three_facts hset
  have HFB : Hid (Below r w (threeSet (w2.setCell ⟨r, 1, none⟩ (.slice oz n cz)) (r + 1) (.int .i64 st) (.slice oz n cz) (.string b))) := below_three (H2.out.2.2.setCell (Nat.le_refl _) _) (by omega)
  have HFO : Hid ((threeSet (w2.setCell ⟨r, 1, none⟩ (.slice oz n cz)) (r + 1) (.int .i64 st) (.slice oz n cz) (.string b)).ownsRow r 132 2 (.slice oz n cz) fs.length (flatF fs)) := by
    show World.ownsRow _ _ _ _ _ _ _
    rw [HL.out]
    refine owns_same (owns_wide HO2.out (by omega)) (fun j hj => ?_)
    have hj2 := owns_ge HO2.out hj
    rw [three_other _ _ j _ _ _ (by omega), heap_setCell_other _ _ j _ (by show j ≠ r; omega)]
  unfold threeSet at k0 k1 k2 HFB HFO
  clear hset H2 H3 HO2
  go_wp2_with fail
  refine bodyPost_ret (v := .agg #[.int .i64 st, .slice oz n cz, .string b]) (by simp [results, Tryz.results84, go_sem, k0, k1, k2]) rfl ?_
  exact ⟨_, rfl, by rw [HR.out]; exact HFO.out, by rw [HR.out]; exact HFB.out⟩

end Go.Proofs.YtcipbkkpkhameaaGreat

namespace Go.Proofs.YtcipbkkpkhameaaGreat
open Go.RowKit
open Go.Lib hiding intOf

theorem len_F {w : World} {base n : Nat} {v : Value} {fs : List (ByteArray × ByteArray)} (h : w.ownsRow base 132 2 v n (flatF fs)) : fs.length = n := by
  have := h.1
  rw [flatF_len] at this
  omega
set_option maxHeartbeats 8000000 in
set_option maxRecDepth 100000 in
theorem l10Copy_any (p : ByteArray) (n1 : Nat) (xs : List ByteArray) (n2 : Nat) (ys : List ByteArray) (st : Int) (n3 : Nat) (fs : List (ByteArray × ByteArray)) (b : ByteArray) (t : Int) (v1 v2 v3 : Value) (B : Nat) (w : World) (hx : ObjO w B v1 n1 xs v2 n2 ys v3 n3 fs) (hn1 : n1 ≤ 2000000) (hn2 : n2 ≤ 2000000) (hn3 : n3 ≤ 2000000) :
    Calls Tryz.prog 40 #[.agg #[.string p, v1, v2, .int .i64 st, v3, .string b, .int .i64 t]] w fun e w' => ∃ u1 u2 u3, e = .returned (.agg #[.string p, u1, u2, .int .i64 st, u3, .string b, .int .i64 t]) ∧ ObjO w' w.heap.size u1 n1 xs u2 n2 ys u3 n3 fs ∧ Below w.heap.size w w' := by
  obtain ⟨i0s, his, hz0s, hz1s, hz2s⟩ := info_parts info9
  obtain ⟨oNx, pNx, rfl⟩ := slice_of_owns hx.names
  obtain ⟨oVx, pVx, rfl⟩ := slice_of_owns hx.vals
  obtain ⟨oFx, pFx, rfl⟩ := slice_of_owns hx.flds
  have HONx_0 : Hid ((w).ownsRow B 9 1 (.slice oNx n1 pNx) n1 (xs.map Value.string)) := hx.names
  have HOVx_0 : Hid ((w).ownsRow B 9 1 (.slice oVx n2 pVx) n2 (ys.map Value.string)) := hx.vals
  have HOFx_0 : Hid ((w).ownsRow B 132 2 (.slice oFx n3 pFx) n3 (flatF fs)) := hx.flds
  have HFL : Hid (fs.length = n3) := len_F hx.flds
  clear hx
  have hb0 : Below w.heap.size w w := Below.refl _ _
  go_enter Tryz.func40, Tryz.ntmps40
  go_upto_region 1 with fail
  obtain ⟨qv1, hqv1⟩ : ∃ q, q = (w).heap.size := ⟨_, rfl⟩
  obtain ⟨w1, hW1⟩ : ∃ W, W = (w).alloc (.cells #[.string p, .slice oNx n1 pNx, .slice oVx n2 pVx, .int .i64 st, .slice oFx n3 pFx, .string b, .int .i64 t] 50) := ⟨_, rfl⟩
  have hz1 : (w).heap.size = qv1 := hqv1.symm
  first | rw [← hW1, ← hqv1] | rw [← hW1]
  have hs1 : w1.heap.size = qv1 + 1 := by rw [hW1, ← hz1]; simp
  have bw : Below (w).heap.size (w) w1 := by rw [hW1]; exact (Below.refl _ _).alloc (Nat.le_refl _) _
  have hb1 := hbt hb0 bw
  have HONx_1 := hown HONx_0 bw
  have HOVx_1 := hown HOVx_0 bw
  have HOFx_1 := hown HOFx_0 bw
  have HBv1_1 : Hid ((w1).heap[qv1]? = some (.cells #[.string p, .slice oNx n1 pNx, .slice oVx n2 pVx, .int .i64 st, .slice oFx n3 pFx, .string b, .int .i64 t] 50)) := by show _ = _; rw [hW1, ← hz1]; exact heap_alloc_new _ _
  have HGv1 : Hid (w.heap.size ≤ qv1) := by show _ ≤ _; rw [← hz1]; exact hb0.size
  clear hb0 HONx_0 HOVx_0 HOFx_0 bw hW1 hz1
  obtain ⟨qv2, hqv2⟩ : ∃ q, q = qv1 + 1 := ⟨_, rfl⟩
  obtain ⟨w2, hW2⟩ : ∃ W, W = (w1).alloc (.cells #[.string ⟨#[]⟩, .slice none 0 0, .slice none 0 0, .int .i64 0, .slice none 0 0, .string ⟨#[]⟩, .int .i64 0] 50) := ⟨_, rfl⟩
  have hz2 : (w1).heap.size = qv2 := by rw [hqv2]; exact hs1
  first | rw [← hW2, ← hqv2] | rw [← hW2]
  have hs2 : w2.heap.size = qv2 + 1 := by rw [hW2, ← hz2]; simp
  have bw : Below (w1).heap.size (w1) w2 := by rw [hW2]; exact (Below.refl _ _).alloc (Nat.le_refl _) _
  have hb2 := hbt hb1 bw
  have HONx_2 := hown HONx_1 bw
  have HOVx_2 := hown HOVx_1 bw
  have HOFx_2 := hown HOFx_1 bw
  have HBv1_2 := hblk HBv1_1 bw
  have HNv1v2 : Hid (qv1 ≠ qv2) := fun e => by have h1 := (Array.getElem?_eq_some_iff.1 HBv1_1.out).1; omega
  have HBv2_2 : Hid ((w2).heap[qv2]? = some (.cells #[.string ⟨#[]⟩, .slice none 0 0, .slice none 0 0, .int .i64 0, .slice none 0 0, .string ⟨#[]⟩, .int .i64 0] 50)) := by show _ = _; rw [hW2, ← hz2]; exact heap_alloc_new _ _
  have HGv2 : Hid (w.heap.size ≤ qv2) := by show _ ≤ _; rw [← hz2]; exact hb1.size
  clear hb1 HONx_1 HOVx_1 HOFx_1 HBv1_1 bw hW2 hz2
  clear hs2 hqv2 hs1 hqv1
  have cv1_1 : (w2).cell? ⟨qv1, 1, none⟩ = some (.slice oNx n1 pNx) := (cell_of HBv1_2.out 1).trans rfl
  have Acv1_1 : ∀ o, ((w2).alloc o).cell? ⟨qv1, 1, none⟩ = some (.slice oNx n1 pNx) := fun o => (cell_of (blk_below HBv1_2.out ((Below.refl _ _).alloc (Nat.le_refl _) o)) 1).trans rfl
  have Afcv1_1 : ∀ o, ((w2).alloc o).frozen? ⟨qv1, 1, none⟩ = false := fun o => frozen_of (blk_below HBv1_2.out ((Below.refl _ _).alloc (Nat.le_refl _) o)) 1
  have bA : Below w2.heap.size w2 (w2.alloc (.cells #[] 9)) := (Below.refl _ _).alloc (Nat.le_refl _) _
  have hown0 : (w2.alloc (.cells #[] 9)).ownsRow w2.heap.size 9 1 (.slice (some ⟨w2.heap.size, 0, none⟩) 0 0) 0 [] := ⟨rfl, .inr ⟨_, 0, #[], rfl, Nat.le_refl _, heap_alloc_new _ _, Nat.le_refl _, Nat.zero_le _, rfl, rfl⟩⟩
  have h63 : 0 + n1 ≤ maxLen := by unfold maxLen; omega
  have h47 : (0 + n1) * 16 ≤ 140737488355328 := by omega
  have hbs : w2.heap.size ≤ (w2.alloc (.cells #[] 9)).heap.size := bA.size
  go_wp2_with (at_builtin; refine wpList_append_src (by rfl) _ _ _ (by rfl) w2.heap.size 9 i0s (.string ⟨#[]⟩) 1 16 Tryz.underlying22 his hz0s hz1s hz2s rfl (by decide) _ _ _ (by rfl) hown0 _ _ _ (by rfl) (Src.texts (owns_below HONx_2.out bA (fun g hg => owns_lt HONx_2.out hg))) h63 h47 hbs ?_)
  intro v1 w3 hown1 hgrow
  have hown2 : w3.ownsRow w2.heap.size 9 1 v1 n1 (xs.map Value.string) := by first | exact hown1 | (rw [Nat.zero_add, List.nil_append] at hown1; exact hown1) | simpa using hown1
  clear hown1
  clear cv1_1 Acv1_1 Afcv1_1
  have hb3 : Below w.heap.size w (w3) := (hb2.trans (bA.mono hb2.size)).grown hgrow (Nat.le_trans hb2.size hbs) (fun g hg => Nat.le_trans hb2.size (owns_ge hown0 hg))
  have HONx_3 : Hid ((w3).ownsRow B 9 1 (.slice oNx n1 pNx) n1 (xs.map Value.string)) := owns_same HONx_2.out (fun g hg => (hgrow.block g (Nat.lt_of_lt_of_le (owns_lt HONx_2.out hg) bA.size) (fun e => by have h1 := owns_lt HONx_2.out hg; simp [Value.ownBlock] at e; omega)).trans (bA.block g (owns_lt HONx_2.out hg)))
  have HOVx_3 : Hid ((w3).ownsRow B 9 1 (.slice oVx n2 pVx) n2 (ys.map Value.string)) := owns_same HOVx_2.out (fun g hg => (hgrow.block g (Nat.lt_of_lt_of_le (owns_lt HOVx_2.out hg) bA.size) (fun e => by have h1 := owns_lt HOVx_2.out hg; simp [Value.ownBlock] at e; omega)).trans (bA.block g (owns_lt HOVx_2.out hg)))
  have HOFx_3 : Hid ((w3).ownsRow B 132 2 (.slice oFx n3 pFx) n3 (flatF fs)) := owns_same HOFx_2.out (fun g hg => (hgrow.block g (Nat.lt_of_lt_of_le (owns_lt HOFx_2.out hg) bA.size) (fun e => by have h1 := owns_lt HOFx_2.out hg; simp [Value.ownBlock] at e; omega)).trans (bA.block g (owns_lt HOFx_2.out hg)))
  have HBv1_3 : Hid ((w3).heap[qv1]? = some (.cells #[.string p, .slice oNx n1 pNx, .slice oVx n2 pVx, .int .i64 st, .slice oFx n3 pFx, .string b, .int .i64 t] 50)) := (hgrow.block _ (Nat.lt_of_lt_of_le (Array.getElem?_eq_some_iff.1 HBv1_2.out).1 bA.size) (fun e => by have h1 := (Array.getElem?_eq_some_iff.1 HBv1_2.out).1; simp [Value.ownBlock] at e; omega)).trans (blk_below HBv1_2.out bA)
  have HBv2_3 : Hid ((w3).heap[qv2]? = some (.cells #[.string ⟨#[]⟩, .slice none 0 0, .slice none 0 0, .int .i64 0, .slice none 0 0, .string ⟨#[]⟩, .int .i64 0] 50)) := (hgrow.block _ (Nat.lt_of_lt_of_le (Array.getElem?_eq_some_iff.1 HBv2_2.out).1 bA.size) (fun e => by have h1 := (Array.getElem?_eq_some_iff.1 HBv2_2.out).1; simp [Value.ownBlock] at e; omega)).trans (blk_below HBv2_2.out bA)
  obtain ⟨oE1p, pE1p, rfl⟩ := slice_of_owns hown2
  have HOE1p_3 : Hid ((w3).ownsRow w.heap.size 9 1 (.slice oE1p n1 pE1p) n1 (xs.map Value.string)) := owns_wide hown2 hb2.size
  have HIE1p : Hid (∀ g, (Value.ownBlock (.slice oE1p n1 pE1p)) = some g → g < w3.heap.size) := fun g hg => owns_lt hown2 hg
  clear hb2 HONx_2 HOVx_2 HOFx_2 HBv1_2 HBv2_2 hown2 hgrow h63 h47 hbs hown0 bA
  have cv1_1 : (w3).cell? ⟨qv1, 1, none⟩ = some (.slice oNx n1 pNx) := (cell_of HBv1_3.out 1).trans rfl
  have fcv1_1 : (w3).frozen? ⟨qv1, 1, none⟩ = false := frozen_of HBv1_3.out 1
  go_upto_region 2 with fail
  obtain ⟨w4, hW4⟩ : ∃ W, W = (w3).setCell ⟨qv1, 1, none⟩ (.slice oE1p n1 pE1p) := ⟨_, rfl⟩
  rw [← hW4]
  have hb4 : Below w.heap.size w (w4) := by rw [hW4]; exact (hb3.setCell (p := ⟨qv1, 1, none⟩) HGv1.out _)
  have HM4 : Hid ((w3).heap.size ≤ w4.heap.size) := by show _ ≤ _; rw [hW4]; simp
  have HONx_4 := hsetR hW4 (own_ne HONx_3.out HBv1_3.out (by decide)) HONx_3
  have HOVx_4 := hsetR hW4 (own_ne HOVx_3.out HBv1_3.out (by decide)) HOVx_3
  have HOFx_4 := hsetR hW4 (own_ne HOFx_3.out HBv1_3.out (by decide)) HOFx_3
  have HOE1p_4 := hsetR hW4 (own_ne HOE1p_3.out HBv1_3.out (by decide)) HOE1p_3
  have HBv2_4 := hset hW4 HNv1v2.out.symm HBv2_3
  have HBv1_4 : Hid ((w4).heap[qv1]? = some (.cells #[.string p, .slice oE1p n1 pE1p, .slice oVx n2 pVx, .int .i64 st, .slice oFx n3 pFx, .string b, .int .i64 t] 50)) := by show _ = _; rw [hW4]; have h := heap_set _ _ 1 _ _ _ (.slice oE1p n1 pE1p) HBv1_3.out; simpa using h
  clear hb3 HONx_3 HOVx_3 HOFx_3 HOE1p_3 HBv1_3 HBv2_3 hW4
  clear cv1_1 fcv1_1
  have cv1_2 : (w4).cell? ⟨qv1, 2, none⟩ = some (.slice oVx n2 pVx) := (cell_of HBv1_4.out 2).trans rfl
  have Acv1_2 : ∀ o, ((w4).alloc o).cell? ⟨qv1, 2, none⟩ = some (.slice oVx n2 pVx) := fun o => (cell_of (blk_below HBv1_4.out ((Below.refl _ _).alloc (Nat.le_refl _) o)) 2).trans rfl
  have Afcv1_2 : ∀ o, ((w4).alloc o).frozen? ⟨qv1, 2, none⟩ = false := fun o => frozen_of (blk_below HBv1_4.out ((Below.refl _ _).alloc (Nat.le_refl _) o)) 2
  have bA : Below w4.heap.size w4 (w4.alloc (.cells #[] 9)) := (Below.refl _ _).alloc (Nat.le_refl _) _
  have hown0 : (w4.alloc (.cells #[] 9)).ownsRow w4.heap.size 9 1 (.slice (some ⟨w4.heap.size, 0, none⟩) 0 0) 0 [] := ⟨rfl, .inr ⟨_, 0, #[], rfl, Nat.le_refl _, heap_alloc_new _ _, Nat.le_refl _, Nat.zero_le _, rfl, rfl⟩⟩
  have h63 : 0 + n2 ≤ maxLen := by unfold maxLen; omega
  have h47 : (0 + n2) * 16 ≤ 140737488355328 := by omega
  have hbs : w4.heap.size ≤ (w4.alloc (.cells #[] 9)).heap.size := bA.size
  go_wp2_with (at_builtin; refine wpList_append_src (by rfl) _ _ _ (by rfl) w4.heap.size 9 i0s (.string ⟨#[]⟩) 1 16 Tryz.underlying22 his hz0s hz1s hz2s rfl (by decide) _ _ _ (by rfl) hown0 _ _ _ (by rfl) (Src.texts (owns_below HOVx_4.out bA (fun g hg => owns_lt HOVx_4.out hg))) h63 h47 hbs ?_)
  intro v1 w5 hown1 hgrow
  have hown2 : w5.ownsRow w4.heap.size 9 1 v1 n2 (ys.map Value.string) := by first | exact hown1 | (rw [Nat.zero_add, List.nil_append] at hown1; exact hown1) | simpa using hown1
  clear hown1
  clear cv1_2 Acv1_2 Afcv1_2
  have hb5 : Below w.heap.size w (w5) := (hb4.trans (bA.mono hb4.size)).grown hgrow (Nat.le_trans hb4.size hbs) (fun g hg => Nat.le_trans hb4.size (owns_ge hown0 hg))
  have HM5 : Hid ((w4).heap.size ≤ w5.heap.size) := Nat.le_trans bA.size hgrow.size
  have HONx_5 : Hid ((w5).ownsRow B 9 1 (.slice oNx n1 pNx) n1 (xs.map Value.string)) := owns_same HONx_4.out (fun g hg => (hgrow.block g (Nat.lt_of_lt_of_le (owns_lt HONx_4.out hg) bA.size) (fun e => by have h1 := owns_lt HONx_4.out hg; simp [Value.ownBlock] at e; omega)).trans (bA.block g (owns_lt HONx_4.out hg)))
  have HOVx_5 : Hid ((w5).ownsRow B 9 1 (.slice oVx n2 pVx) n2 (ys.map Value.string)) := owns_same HOVx_4.out (fun g hg => (hgrow.block g (Nat.lt_of_lt_of_le (owns_lt HOVx_4.out hg) bA.size) (fun e => by have h1 := owns_lt HOVx_4.out hg; simp [Value.ownBlock] at e; omega)).trans (bA.block g (owns_lt HOVx_4.out hg)))
  have HOFx_5 : Hid ((w5).ownsRow B 132 2 (.slice oFx n3 pFx) n3 (flatF fs)) := owns_same HOFx_4.out (fun g hg => (hgrow.block g (Nat.lt_of_lt_of_le (owns_lt HOFx_4.out hg) bA.size) (fun e => by have h1 := owns_lt HOFx_4.out hg; simp [Value.ownBlock] at e; omega)).trans (bA.block g (owns_lt HOFx_4.out hg)))
  have HOE1p_5 : Hid ((w5).ownsRow w.heap.size 9 1 (.slice oE1p n1 pE1p) n1 (xs.map Value.string)) := owns_same HOE1p_4.out (fun g hg => (hgrow.block g (Nat.lt_of_lt_of_le (owns_lt HOE1p_4.out hg) bA.size) (fun e => by have h1 := owns_lt HOE1p_4.out hg; simp [Value.ownBlock] at e; omega)).trans (bA.block g (owns_lt HOE1p_4.out hg)))
  have HBv1_5 : Hid ((w5).heap[qv1]? = some (.cells #[.string p, .slice oE1p n1 pE1p, .slice oVx n2 pVx, .int .i64 st, .slice oFx n3 pFx, .string b, .int .i64 t] 50)) := (hgrow.block _ (Nat.lt_of_lt_of_le (Array.getElem?_eq_some_iff.1 HBv1_4.out).1 bA.size) (fun e => by have h1 := (Array.getElem?_eq_some_iff.1 HBv1_4.out).1; simp [Value.ownBlock] at e; omega)).trans (blk_below HBv1_4.out bA)
  have HBv2_5 : Hid ((w5).heap[qv2]? = some (.cells #[.string ⟨#[]⟩, .slice none 0 0, .slice none 0 0, .int .i64 0, .slice none 0 0, .string ⟨#[]⟩, .int .i64 0] 50)) := (hgrow.block _ (Nat.lt_of_lt_of_le (Array.getElem?_eq_some_iff.1 HBv2_4.out).1 bA.size) (fun e => by have h1 := (Array.getElem?_eq_some_iff.1 HBv2_4.out).1; simp [Value.ownBlock] at e; omega)).trans (blk_below HBv2_4.out bA)
  obtain ⟨oE2p, pE2p, rfl⟩ := slice_of_owns hown2
  have HOE2p_5 : Hid ((w5).ownsRow w.heap.size 9 1 (.slice oE2p n2 pE2p) n2 (ys.map Value.string)) := owns_wide hown2 hb4.size
  have LOE2p : Hid (∀ g, (Value.ownBlock (.slice oE2p n2 pE2p)) = some g → w4.heap.size ≤ g) := fun g hg => owns_ge hown2 hg
  clear hb4 HONx_4 HOVx_4 HOFx_4 HOE1p_4 HBv1_4 HBv2_4 hown2 hgrow h63 h47 hbs hown0 bA
  have cv1_2 : (w5).cell? ⟨qv1, 2, none⟩ = some (.slice oVx n2 pVx) := (cell_of HBv1_5.out 2).trans rfl
  have fcv1_2 : (w5).frozen? ⟨qv1, 2, none⟩ = false := frozen_of HBv1_5.out 2
  go_upto_region 3 with fail
  obtain ⟨w6, hW6⟩ : ∃ W, W = (w5).setCell ⟨qv1, 2, none⟩ (.slice oE2p n2 pE2p) := ⟨_, rfl⟩
  rw [← hW6]
  have hb6 : Below w.heap.size w (w6) := by rw [hW6]; exact (hb5.setCell (p := ⟨qv1, 2, none⟩) HGv1.out _)
  have HONx_6 := hsetR hW6 (own_ne HONx_5.out HBv1_5.out (by decide)) HONx_5
  have HOVx_6 := hsetR hW6 (own_ne HOVx_5.out HBv1_5.out (by decide)) HOVx_5
  have HOFx_6 := hsetR hW6 (own_ne HOFx_5.out HBv1_5.out (by decide)) HOFx_5
  have HOE1p_6 := hsetR hW6 (own_ne HOE1p_5.out HBv1_5.out (by decide)) HOE1p_5
  have HOE2p_6 := hsetR hW6 (own_ne HOE2p_5.out HBv1_5.out (by decide)) HOE2p_5
  have HBv2_6 := hset hW6 HNv1v2.out.symm HBv2_5
  have HBv1_6 : Hid ((w6).heap[qv1]? = some (.cells #[.string p, .slice oE1p n1 pE1p, .slice oE2p n2 pE2p, .int .i64 st, .slice oFx n3 pFx, .string b, .int .i64 t] 50)) := by show _ = _; rw [hW6]; have h := heap_set _ _ 2 _ _ _ (.slice oE2p n2 pE2p) HBv1_5.out; simpa using h
  clear hb5 HONx_5 HOVx_5 HOFx_5 HOE1p_5 HOE2p_5 HBv1_5 HBv2_5 hW6
  clear cv1_2 fcv1_2
  have cv1_3 : (w6).cell? ⟨qv1, 3, none⟩ = some (.int .i64 st) := (cell_of HBv1_6.out 3).trans rfl
  have cv1_4 : (w6).cell? ⟨qv1, 4, none⟩ = some (.slice oFx n3 pFx) := (cell_of HBv1_6.out 4).trans rfl
  have cv1_5 : (w6).cell? ⟨qv1, 5, none⟩ = some (.string b) := (cell_of HBv1_6.out 5).trans rfl
  go_wp2_with fail
  refine (l9Resp_any st _ b n3 B fs _ (FieldsV.of_owns HOFx_6.out) hn3).mono ?_
  rintro e w7 ⟨vf, rfl, ownG, bw⟩
  rw [HFL.out] at ownG
  obtain ⟨oG, pG, rfl⟩ := slice_of_owns ownG
  have hb7 := hbt hb6 bw
  have HONx_7 := hown HONx_6 bw
  have HOVx_7 := hown HOVx_6 bw
  have HOFx_7 := hown HOFx_6 bw
  have HOE1p_7 := hown HOE1p_6 bw
  have HOE2p_7 := hown HOE2p_6 bw
  have HBv1_7 := hblk HBv1_6 bw
  have HBv2_7 := hblk HBv2_6 bw
  have HOG_7 : Hid ((w7).ownsRow w.heap.size 132 2 (.slice oG n3 pG) n3 (flatF fs)) := owns_wide ownG hb6.size
  clear ownG
  clear hb6 HONx_6 HOVx_6 HOFx_6 HOE1p_6 HOE2p_6 HBv1_6 HBv2_6 bw
  clear cv1_3 cv1_4 cv1_5
  have cv1_3 : (w7).cell? ⟨qv1, 3, none⟩ = some (.int .i64 st) := (cell_of HBv1_7.out 3).trans rfl
  have fcv1_3 : (w7).frozen? ⟨qv1, 3, none⟩ = false := frozen_of HBv1_7.out 3
  have cv1_4 : (w7).cell? ⟨qv1, 4, none⟩ = some (.slice oFx n3 pFx) := (cell_of HBv1_7.out 4).trans rfl
  have fcv1_4 : (w7).frozen? ⟨qv1, 4, none⟩ = false := frozen_of HBv1_7.out 4
  have cv1_5 : (w7).cell? ⟨qv1, 5, none⟩ = some (.string b) := (cell_of HBv1_7.out 5).trans rfl
  have fcv1_5 : (w7).frozen? ⟨qv1, 5, none⟩ = false := frozen_of HBv1_7.out 5
  go_upto_region 4 with fail
  obtain ⟨w8, hW8⟩ : ∃ W, W = (w7).setCell ⟨qv1, 3, none⟩ (.int .i64 st) := ⟨_, rfl⟩
  rw [← hW8]
  have hb8 : Below w.heap.size w (w8) := by rw [hW8]; exact (hb7.setCell (p := ⟨qv1, 3, none⟩) HGv1.out _)
  have HONx_8 := hsetR hW8 (own_ne HONx_7.out HBv1_7.out (by decide)) HONx_7
  have HOVx_8 := hsetR hW8 (own_ne HOVx_7.out HBv1_7.out (by decide)) HOVx_7
  have HOFx_8 := hsetR hW8 (own_ne HOFx_7.out HBv1_7.out (by decide)) HOFx_7
  have HOE1p_8 := hsetR hW8 (own_ne HOE1p_7.out HBv1_7.out (by decide)) HOE1p_7
  have HOE2p_8 := hsetR hW8 (own_ne HOE2p_7.out HBv1_7.out (by decide)) HOE2p_7
  have HOG_8 := hsetR hW8 (own_ne HOG_7.out HBv1_7.out (by decide)) HOG_7
  have HBv2_8 := hset hW8 HNv1v2.out.symm HBv2_7
  have HBv1_8 : Hid ((w8).heap[qv1]? = some (.cells #[.string p, .slice oE1p n1 pE1p, .slice oE2p n2 pE2p, .int .i64 st, .slice oFx n3 pFx, .string b, .int .i64 t] 50)) := by show _ = _; rw [hW8]; have h := heap_set _ _ 3 _ _ _ (.int .i64 st) HBv1_7.out; simpa using h
  clear hb7 HONx_7 HOVx_7 HOFx_7 HOE1p_7 HOE2p_7 HOG_7 HBv1_7 HBv2_7 hW8
  obtain ⟨w9, hW9⟩ : ∃ W, W = (w8).setCell ⟨qv1, 4, none⟩ (.slice oG n3 pG) := ⟨_, rfl⟩
  rw [← hW9]
  have hb9 : Below w.heap.size w (w9) := by rw [hW9]; exact (hb8.setCell (p := ⟨qv1, 4, none⟩) HGv1.out _)
  have HONx_9 := hsetR hW9 (own_ne HONx_8.out HBv1_8.out (by decide)) HONx_8
  have HOVx_9 := hsetR hW9 (own_ne HOVx_8.out HBv1_8.out (by decide)) HOVx_8
  have HOFx_9 := hsetR hW9 (own_ne HOFx_8.out HBv1_8.out (by decide)) HOFx_8
  have HOE1p_9 := hsetR hW9 (own_ne HOE1p_8.out HBv1_8.out (by decide)) HOE1p_8
  have HOE2p_9 := hsetR hW9 (own_ne HOE2p_8.out HBv1_8.out (by decide)) HOE2p_8
  have HOG_9 := hsetR hW9 (own_ne HOG_8.out HBv1_8.out (by decide)) HOG_8
  have HBv2_9 := hset hW9 HNv1v2.out.symm HBv2_8
  have HBv1_9 : Hid ((w9).heap[qv1]? = some (.cells #[.string p, .slice oE1p n1 pE1p, .slice oE2p n2 pE2p, .int .i64 st, .slice oG n3 pG, .string b, .int .i64 t] 50)) := by show _ = _; rw [hW9]; have h := heap_set _ _ 4 _ _ _ (.slice oG n3 pG) HBv1_8.out; simpa using h
  clear hb8 HONx_8 HOVx_8 HOFx_8 HOE1p_8 HOE2p_8 HOG_8 HBv1_8 HBv2_8 hW9
  obtain ⟨w10, hW10⟩ : ∃ W, W = (w9).setCell ⟨qv1, 5, none⟩ (.string b) := ⟨_, rfl⟩
  rw [← hW10]
  have hb10 : Below w.heap.size w (w10) := by rw [hW10]; exact (hb9.setCell (p := ⟨qv1, 5, none⟩) HGv1.out _)
  have HONx_10 := hsetR hW10 (own_ne HONx_9.out HBv1_9.out (by decide)) HONx_9
  have HOVx_10 := hsetR hW10 (own_ne HOVx_9.out HBv1_9.out (by decide)) HOVx_9
  have HOFx_10 := hsetR hW10 (own_ne HOFx_9.out HBv1_9.out (by decide)) HOFx_9
  have HOE1p_10 := hsetR hW10 (own_ne HOE1p_9.out HBv1_9.out (by decide)) HOE1p_9
  have HOE2p_10 := hsetR hW10 (own_ne HOE2p_9.out HBv1_9.out (by decide)) HOE2p_9
  have HOG_10 := hsetR hW10 (own_ne HOG_9.out HBv1_9.out (by decide)) HOG_9
  have HBv2_10 := hset hW10 HNv1v2.out.symm HBv2_9
  have HBv1_10 : Hid ((w10).heap[qv1]? = some (.cells #[.string p, .slice oE1p n1 pE1p, .slice oE2p n2 pE2p, .int .i64 st, .slice oG n3 pG, .string b, .int .i64 t] 50)) := by show _ = _; rw [hW10]; have h := heap_set _ _ 5 _ _ _ (.string b) HBv1_9.out; simpa using h
  clear hb9 HONx_9 HOVx_9 HOFx_9 HOE1p_9 HOE2p_9 HOG_9 HBv1_9 HBv2_9 hW10
  clear cv1_3 fcv1_3 cv1_4 fcv1_4 cv1_5 fcv1_5
  have cv1_0 : (w10).cell? ⟨qv1, 0, none⟩ = some (.string p) := (cell_of HBv1_10.out 0).trans rfl
  have cv1_1 : (w10).cell? ⟨qv1, 1, none⟩ = some (.slice oE1p n1 pE1p) := (cell_of HBv1_10.out 1).trans rfl
  have cv1_2 : (w10).cell? ⟨qv1, 2, none⟩ = some (.slice oE2p n2 pE2p) := (cell_of HBv1_10.out 2).trans rfl
  have cv1_3 : (w10).cell? ⟨qv1, 3, none⟩ = some (.int .i64 st) := (cell_of HBv1_10.out 3).trans rfl
  have cv1_4 : (w10).cell? ⟨qv1, 4, none⟩ = some (.slice oG n3 pG) := (cell_of HBv1_10.out 4).trans rfl
  have cv1_5 : (w10).cell? ⟨qv1, 5, none⟩ = some (.string b) := (cell_of HBv1_10.out 5).trans rfl
  have cv1_6 : (w10).cell? ⟨qv1, 6, none⟩ = some (.int .i64 t) := (cell_of HBv1_10.out 6).trans rfl
  have cv2_0 : (w10).cell? ⟨qv2, 0, none⟩ = some (.string ⟨#[]⟩) := (cell_of HBv2_10.out 0).trans rfl
  have fcv2_0 : (w10).frozen? ⟨qv2, 0, none⟩ = false := frozen_of HBv2_10.out 0
  have cv2_1 : (w10).cell? ⟨qv2, 1, none⟩ = some (.slice none 0 0) := (cell_of HBv2_10.out 1).trans rfl
  have fcv2_1 : (w10).frozen? ⟨qv2, 1, none⟩ = false := frozen_of HBv2_10.out 1
  have cv2_2 : (w10).cell? ⟨qv2, 2, none⟩ = some (.slice none 0 0) := (cell_of HBv2_10.out 2).trans rfl
  have fcv2_2 : (w10).frozen? ⟨qv2, 2, none⟩ = false := frozen_of HBv2_10.out 2
  have cv2_3 : (w10).cell? ⟨qv2, 3, none⟩ = some (.int .i64 0) := (cell_of HBv2_10.out 3).trans rfl
  have fcv2_3 : (w10).frozen? ⟨qv2, 3, none⟩ = false := frozen_of HBv2_10.out 3
  have cv2_4 : (w10).cell? ⟨qv2, 4, none⟩ = some (.slice none 0 0) := (cell_of HBv2_10.out 4).trans rfl
  have fcv2_4 : (w10).frozen? ⟨qv2, 4, none⟩ = false := frozen_of HBv2_10.out 4
  have cv2_5 : (w10).cell? ⟨qv2, 5, none⟩ = some (.string ⟨#[]⟩) := (cell_of HBv2_10.out 5).trans rfl
  have fcv2_5 : (w10).frozen? ⟨qv2, 5, none⟩ = false := frozen_of HBv2_10.out 5
  have cv2_6 : (w10).cell? ⟨qv2, 6, none⟩ = some (.int .i64 0) := (cell_of HBv2_10.out 6).trans rfl
  have fcv2_6 : (w10).frozen? ⟨qv2, 6, none⟩ = false := frozen_of HBv2_10.out 6
  go_wp2_with fail
  obtain ⟨w11, hW11⟩ : ∃ W, W = (w10).setCell ⟨qv2, 0, none⟩ (.string p) := ⟨_, rfl⟩
  rw [← hW11]
  have hb11 : Below w.heap.size w (w11) := by rw [hW11]; exact (hb10.setCell (p := ⟨qv2, 0, none⟩) HGv2.out _)
  have HONx_11 := hsetR hW11 (own_ne HONx_10.out HBv2_10.out (by decide)) HONx_10
  have HOVx_11 := hsetR hW11 (own_ne HOVx_10.out HBv2_10.out (by decide)) HOVx_10
  have HOFx_11 := hsetR hW11 (own_ne HOFx_10.out HBv2_10.out (by decide)) HOFx_10
  have HOE1p_11 := hsetR hW11 (own_ne HOE1p_10.out HBv2_10.out (by decide)) HOE1p_10
  have HOE2p_11 := hsetR hW11 (own_ne HOE2p_10.out HBv2_10.out (by decide)) HOE2p_10
  have HOG_11 := hsetR hW11 (own_ne HOG_10.out HBv2_10.out (by decide)) HOG_10
  have HBv1_11 := hset hW11 HNv1v2.out HBv1_10
  have HBv2_11 : Hid ((w11).heap[qv2]? = some (.cells #[.string p, .slice none 0 0, .slice none 0 0, .int .i64 0, .slice none 0 0, .string ⟨#[]⟩, .int .i64 0] 50)) := by show _ = _; rw [hW11]; have h := heap_set _ _ 0 _ _ _ (.string p) HBv2_10.out; simpa using h
  clear hb10 HONx_10 HOVx_10 HOFx_10 HOE1p_10 HOE2p_10 HOG_10 HBv1_10 HBv2_10 hW11
  obtain ⟨w12, hW12⟩ : ∃ W, W = (w11).setCell ⟨qv2, 1, none⟩ (.slice oE1p n1 pE1p) := ⟨_, rfl⟩
  rw [← hW12]
  have hb12 : Below w.heap.size w (w12) := by rw [hW12]; exact (hb11.setCell (p := ⟨qv2, 1, none⟩) HGv2.out _)
  have HONx_12 := hsetR hW12 (own_ne HONx_11.out HBv2_11.out (by decide)) HONx_11
  have HOVx_12 := hsetR hW12 (own_ne HOVx_11.out HBv2_11.out (by decide)) HOVx_11
  have HOFx_12 := hsetR hW12 (own_ne HOFx_11.out HBv2_11.out (by decide)) HOFx_11
  have HOE1p_12 := hsetR hW12 (own_ne HOE1p_11.out HBv2_11.out (by decide)) HOE1p_11
  have HOE2p_12 := hsetR hW12 (own_ne HOE2p_11.out HBv2_11.out (by decide)) HOE2p_11
  have HOG_12 := hsetR hW12 (own_ne HOG_11.out HBv2_11.out (by decide)) HOG_11
  have HBv1_12 := hset hW12 HNv1v2.out HBv1_11
  have HBv2_12 : Hid ((w12).heap[qv2]? = some (.cells #[.string p, .slice oE1p n1 pE1p, .slice none 0 0, .int .i64 0, .slice none 0 0, .string ⟨#[]⟩, .int .i64 0] 50)) := by show _ = _; rw [hW12]; have h := heap_set _ _ 1 _ _ _ (.slice oE1p n1 pE1p) HBv2_11.out; simpa using h
  clear hb11 HONx_11 HOVx_11 HOFx_11 HOE1p_11 HOE2p_11 HOG_11 HBv1_11 HBv2_11 hW12
  obtain ⟨w13, hW13⟩ : ∃ W, W = (w12).setCell ⟨qv2, 2, none⟩ (.slice oE2p n2 pE2p) := ⟨_, rfl⟩
  rw [← hW13]
  have hb13 : Below w.heap.size w (w13) := by rw [hW13]; exact (hb12.setCell (p := ⟨qv2, 2, none⟩) HGv2.out _)
  have HONx_13 := hsetR hW13 (own_ne HONx_12.out HBv2_12.out (by decide)) HONx_12
  have HOVx_13 := hsetR hW13 (own_ne HOVx_12.out HBv2_12.out (by decide)) HOVx_12
  have HOFx_13 := hsetR hW13 (own_ne HOFx_12.out HBv2_12.out (by decide)) HOFx_12
  have HOE1p_13 := hsetR hW13 (own_ne HOE1p_12.out HBv2_12.out (by decide)) HOE1p_12
  have HOE2p_13 := hsetR hW13 (own_ne HOE2p_12.out HBv2_12.out (by decide)) HOE2p_12
  have HOG_13 := hsetR hW13 (own_ne HOG_12.out HBv2_12.out (by decide)) HOG_12
  have HBv1_13 := hset hW13 HNv1v2.out HBv1_12
  have HBv2_13 : Hid ((w13).heap[qv2]? = some (.cells #[.string p, .slice oE1p n1 pE1p, .slice oE2p n2 pE2p, .int .i64 0, .slice none 0 0, .string ⟨#[]⟩, .int .i64 0] 50)) := by show _ = _; rw [hW13]; have h := heap_set _ _ 2 _ _ _ (.slice oE2p n2 pE2p) HBv2_12.out; simpa using h
  clear hb12 HONx_12 HOVx_12 HOFx_12 HOE1p_12 HOE2p_12 HOG_12 HBv1_12 HBv2_12 hW13
  obtain ⟨w14, hW14⟩ : ∃ W, W = (w13).setCell ⟨qv2, 3, none⟩ (.int .i64 st) := ⟨_, rfl⟩
  rw [← hW14]
  have hb14 : Below w.heap.size w (w14) := by rw [hW14]; exact (hb13.setCell (p := ⟨qv2, 3, none⟩) HGv2.out _)
  have HONx_14 := hsetR hW14 (own_ne HONx_13.out HBv2_13.out (by decide)) HONx_13
  have HOVx_14 := hsetR hW14 (own_ne HOVx_13.out HBv2_13.out (by decide)) HOVx_13
  have HOFx_14 := hsetR hW14 (own_ne HOFx_13.out HBv2_13.out (by decide)) HOFx_13
  have HOE1p_14 := hsetR hW14 (own_ne HOE1p_13.out HBv2_13.out (by decide)) HOE1p_13
  have HOE2p_14 := hsetR hW14 (own_ne HOE2p_13.out HBv2_13.out (by decide)) HOE2p_13
  have HOG_14 := hsetR hW14 (own_ne HOG_13.out HBv2_13.out (by decide)) HOG_13
  have HBv1_14 := hset hW14 HNv1v2.out HBv1_13
  have HBv2_14 : Hid ((w14).heap[qv2]? = some (.cells #[.string p, .slice oE1p n1 pE1p, .slice oE2p n2 pE2p, .int .i64 st, .slice none 0 0, .string ⟨#[]⟩, .int .i64 0] 50)) := by show _ = _; rw [hW14]; have h := heap_set _ _ 3 _ _ _ (.int .i64 st) HBv2_13.out; simpa using h
  clear hb13 HONx_13 HOVx_13 HOFx_13 HOE1p_13 HOE2p_13 HOG_13 HBv1_13 HBv2_13 hW14
  obtain ⟨w15, hW15⟩ : ∃ W, W = (w14).setCell ⟨qv2, 4, none⟩ (.slice oG n3 pG) := ⟨_, rfl⟩
  rw [← hW15]
  have hb15 : Below w.heap.size w (w15) := by rw [hW15]; exact (hb14.setCell (p := ⟨qv2, 4, none⟩) HGv2.out _)
  have HONx_15 := hsetR hW15 (own_ne HONx_14.out HBv2_14.out (by decide)) HONx_14
  have HOVx_15 := hsetR hW15 (own_ne HOVx_14.out HBv2_14.out (by decide)) HOVx_14
  have HOFx_15 := hsetR hW15 (own_ne HOFx_14.out HBv2_14.out (by decide)) HOFx_14
  have HOE1p_15 := hsetR hW15 (own_ne HOE1p_14.out HBv2_14.out (by decide)) HOE1p_14
  have HOE2p_15 := hsetR hW15 (own_ne HOE2p_14.out HBv2_14.out (by decide)) HOE2p_14
  have HOG_15 := hsetR hW15 (own_ne HOG_14.out HBv2_14.out (by decide)) HOG_14
  have HBv1_15 := hset hW15 HNv1v2.out HBv1_14
  have HBv2_15 : Hid ((w15).heap[qv2]? = some (.cells #[.string p, .slice oE1p n1 pE1p, .slice oE2p n2 pE2p, .int .i64 st, .slice oG n3 pG, .string ⟨#[]⟩, .int .i64 0] 50)) := by show _ = _; rw [hW15]; have h := heap_set _ _ 4 _ _ _ (.slice oG n3 pG) HBv2_14.out; simpa using h
  clear hb14 HONx_14 HOVx_14 HOFx_14 HOE1p_14 HOE2p_14 HOG_14 HBv1_14 HBv2_14 hW15
  obtain ⟨w16, hW16⟩ : ∃ W, W = (w15).setCell ⟨qv2, 5, none⟩ (.string b) := ⟨_, rfl⟩
  rw [← hW16]
  have hb16 : Below w.heap.size w (w16) := by rw [hW16]; exact (hb15.setCell (p := ⟨qv2, 5, none⟩) HGv2.out _)
  have HONx_16 := hsetR hW16 (own_ne HONx_15.out HBv2_15.out (by decide)) HONx_15
  have HOVx_16 := hsetR hW16 (own_ne HOVx_15.out HBv2_15.out (by decide)) HOVx_15
  have HOFx_16 := hsetR hW16 (own_ne HOFx_15.out HBv2_15.out (by decide)) HOFx_15
  have HOE1p_16 := hsetR hW16 (own_ne HOE1p_15.out HBv2_15.out (by decide)) HOE1p_15
  have HOE2p_16 := hsetR hW16 (own_ne HOE2p_15.out HBv2_15.out (by decide)) HOE2p_15
  have HOG_16 := hsetR hW16 (own_ne HOG_15.out HBv2_15.out (by decide)) HOG_15
  have HBv1_16 := hset hW16 HNv1v2.out HBv1_15
  have HBv2_16 : Hid ((w16).heap[qv2]? = some (.cells #[.string p, .slice oE1p n1 pE1p, .slice oE2p n2 pE2p, .int .i64 st, .slice oG n3 pG, .string b, .int .i64 0] 50)) := by show _ = _; rw [hW16]; have h := heap_set _ _ 5 _ _ _ (.string b) HBv2_15.out; simpa using h
  clear hb15 HONx_15 HOVx_15 HOFx_15 HOE1p_15 HOE2p_15 HOG_15 HBv1_15 HBv2_15 hW16
  obtain ⟨w17, hW17⟩ : ∃ W, W = (w16).setCell ⟨qv2, 6, none⟩ (.int .i64 t) := ⟨_, rfl⟩
  rw [← hW17]
  have hb17 : Below w.heap.size w (w17) := by rw [hW17]; exact (hb16.setCell (p := ⟨qv2, 6, none⟩) HGv2.out _)
  have HONx_17 := hsetR hW17 (own_ne HONx_16.out HBv2_16.out (by decide)) HONx_16
  have HOVx_17 := hsetR hW17 (own_ne HOVx_16.out HBv2_16.out (by decide)) HOVx_16
  have HOFx_17 := hsetR hW17 (own_ne HOFx_16.out HBv2_16.out (by decide)) HOFx_16
  have HOE1p_17 := hsetR hW17 (own_ne HOE1p_16.out HBv2_16.out (by decide)) HOE1p_16
  have HOE2p_17 := hsetR hW17 (own_ne HOE2p_16.out HBv2_16.out (by decide)) HOE2p_16
  have HOG_17 := hsetR hW17 (own_ne HOG_16.out HBv2_16.out (by decide)) HOG_16
  have HBv1_17 := hset hW17 HNv1v2.out HBv1_16
  have HBv2_17 : Hid ((w17).heap[qv2]? = some (.cells #[.string p, .slice oE1p n1 pE1p, .slice oE2p n2 pE2p, .int .i64 st, .slice oG n3 pG, .string b, .int .i64 t] 50)) := by show _ = _; rw [hW17]; have h := heap_set _ _ 6 _ _ _ (.int .i64 t) HBv2_16.out; simpa using h
  clear hb16 HONx_16 HOVx_16 HOFx_16 HOE1p_16 HOE2p_16 HOG_16 HBv1_16 HBv2_16 hW17
  have kv2_0 : (w17).cell? ⟨qv2, 0, none⟩ = some (.string p) := (cell_of HBv2_17.out 0).trans rfl
  have kv2_1 : (w17).cell? ⟨qv2, 1, none⟩ = some (.slice oE1p n1 pE1p) := (cell_of HBv2_17.out 1).trans rfl
  have kv2_2 : (w17).cell? ⟨qv2, 2, none⟩ = some (.slice oE2p n2 pE2p) := (cell_of HBv2_17.out 2).trans rfl
  have kv2_3 : (w17).cell? ⟨qv2, 3, none⟩ = some (.int .i64 st) := (cell_of HBv2_17.out 3).trans rfl
  have kv2_4 : (w17).cell? ⟨qv2, 4, none⟩ = some (.slice oG n3 pG) := (cell_of HBv2_17.out 4).trans rfl
  have kv2_5 : (w17).cell? ⟨qv2, 5, none⟩ = some (.string b) := (cell_of HBv2_17.out 5).trans rfl
  have kv2_6 : (w17).cell? ⟨qv2, 6, none⟩ = some (.int .i64 t) := (cell_of HBv2_17.out 6).trans rfl
  refine bodyPost_ret (v := .agg #[.string p, .slice oE1p n1 pE1p, .slice oE2p n2 pE2p, .int .i64 st, .slice oG n3 pG, .string b, .int .i64 t]) (by simp [results, Tryz.results40, go_sem, kv2_0, kv2_1, kv2_2, kv2_3, kv2_4, kv2_5, kv2_6]) rfl ?_
  exact ⟨_, _, _, rfl, ⟨HOE1p_17.out, HOE2p_17.out, HOG_17.out, fun g hg e => by have h1 := LOE2p.out g e; have h2 := HIE1p.out g hg; have := HM4.out; have := HM5.out; omega⟩, hb17⟩

end Go.Proofs.YtcipbkkpkhameaaGreat

namespace Go.Proofs.YtcipbkkpkhameaaGreat
open Go.RowKit
open Go.Lib hiding intOf

/-- A call answers the last known one that is looked for, in memory of its own; or nothing. -/
def FindIs (s : ShD) (p : ByteArray) (gs : List (ByteArray × ByteArray)) (w : World) (e : Ending) (w' : World) : Prop :=
  (∃ (i : Nat) (u1 u2 u3 : Value), ShelfP s ∧ FoundAt s p gs i ∧ e = .returned (.tuple #[.agg #[.string (kpAt s.ks i).p, u1, u2, .int .i64 (kpAt s.ks i).st, u3, .string (kpAt s.ks i).b, .int .i64 (kpAt s.ks i).t], .bool true]) ∧ ObjO w' w.heap.size u1 (kpAt s.ks i).xs.length (kpAt s.ks i).xs u2 (kpAt s.ks i).ys.length (kpAt s.ks i).ys u3 (kpAt s.ks i).fs.length (kpAt s.ks i).fs ∧ Below w.heap.size w w') ∨
  ((ShelfP s → ∀ i, ¬ FoundAt s p gs i) ∧ e = .returned (.tuple #[.agg #[.string ⟨#[]⟩, .slice none 0 0, .slice none 0 0, .int .i64 0, .slice none 0 0, .string ⟨#[]⟩, .int .i64 0], .bool false]) ∧ Below w.heap.size w w')
/-- None of those from a place on is looked for. -/
def NoneFrom (s : ShD) (p : ByteArray) (gs : List (ByteArray × ByteArray)) (j : Nat) : Prop := ∀ m, j ≤ m → m < s.ks.length → ¬ FindK s.bl p gs (kpAt s.ks m)
theorem NoneFrom.none {s : ShD} {p : ByteArray} {gs : List (ByteArray × ByteArray)} (h : NoneFrom s p gs 0) : ∀ i, ¬ FoundAt s p gs i := fun i hf => h i (Nat.zero_le _) hf.1 hf.2.1
theorem NoneFrom.found {s : ShD} {p : ByteArray} {gs : List (ByteArray × ByteArray)} {i : Nat} (h : NoneFrom s p gs (i + 1)) (hi : i < s.ks.length) (hf : FindK s.bl p gs (kpAt s.ks i)) : FoundAt s p gs i := ⟨hi, hf, fun j h1 h2 => h j h1 h2⟩
theorem NoneFrom.step {s : ShD} {p : ByteArray} {gs : List (ByteArray × ByteArray)} {i : Nat} (h : NoneFrom s p gs (i + 1)) (hf : ¬ FindK s.bl p gs (kpAt s.ks i)) : NoneFrom s p gs i := fun m h1 h2 => by
  by_cases e : m = i
  · subst e; exact hf
  · exact h m (by omega) h2
theorem specSuits_k (k : KpD) (v1 v2 v3 : Value) (v : Value) (n base : Nat) (gs : List (ByteArray × ByteArray)) (w : World) (h : KpRead w k v1 v2 v3) (hs : KpSmall k) (hv : FieldsV w base v n gs) (hn : n ≤ 1048576) :
    Calls Tryz.prog 38 #[v1, v2, v] w fun e w' => BoolIs (suitsP k.xs k.ys gs = true) w e w' := by
  obtain ⟨B, h⟩ := h
  have ho : ObjO w B v1 k.xs.length k.xs v2 k.ys.length k.ys v3 k.fs.length k.fs := rows_objO h
  obtain ⟨o1, c1, rfl⟩ := slice_of_owns ho.names
  obtain ⟨o2, c2, rfl⟩ := slice_of_owns ho.vals
  refine (specSuits_any o1 o2 _ c1 _ c2 k.xs k.ys v n base gs w (texts_view ho.names) (by have := hs.2.1.1; omega) (texts_view ho.vals) hv (by omega)).mono ?_
  rintro e w1 ⟨rfl, hb⟩
  exact ⟨_, rfl, Iff.rfl, hb⟩
set_option maxHeartbeats 8000000 in
set_option maxRecDepth 100000 in
theorem specFind_any (v1 v2 V VB : Value) (kv : List (KpD × Value × Value × Value)) (s : ShD) (B : Nat) (w : World) (h : ShelfO w B v1 v2 V VB kv s) (hz : ShSmall s) (mt : Int) (p : ByteArray) (vQ : Value) (n5 base : Nat) (gs : List (ByteArray × ByteArray)) (bd : ByteArray) (hv : FieldsV w base vQ n5 gs) (bn5 : n5 ≤ 1048576) :
    Calls Tryz.prog 11 #[.agg #[v1, v2, V, VB, .int .i64 s.nx, .int .i64 s.sq], .agg #[.int .i64 mt, .string p, vQ, .string bd]] w fun e w' => FindIs s p gs w e w' := by
  obtain ⟨o1, c1, e1⟩ := slice_of_owns h.disk.cells
  obtain ⟨o2, c2, e2⟩ := slice_of_owns h.disk.pend
  obtain ⟨o3, c3, e3⟩ := slice_of_owns h.kept.row
  obtain ⟨o4, c4, e4⟩ := slice_of_owns h.bans
  subst e1 e2 e3 e4
  obtain ⟨n1, hn1⟩ : ∃ n, n = s.cs.length := ⟨_, rfl⟩
  obtain ⟨n2, hn2⟩ : ∃ n, n = s.ws.length := ⟨_, rfl⟩
  obtain ⟨n3, hn3⟩ : ∃ n, n = kv.length := ⟨_, rfl⟩
  obtain ⟨n4, hn4⟩ : ∃ n, n = s.bl.length := ⟨_, rfl⟩
  rw [← hn1, ← hn2, ← hn3, ← hn4] at h ⊢
  have HLN : Hid (s.cs.length = n1 ∧ s.ws.length = n2 ∧ kv.length = n3 ∧ s.bl.length = n4) := ⟨hn1.symm, hn2.symm, hn3.symm, hn4.symm⟩
  have HKS : Hid (kv.map (·.1) = s.ks) := h.2
  have HZ : Hid (ShSmall s) := hz
  have bn1 : n1 ≤ 1048576 := by rw [hn1]; exact hz.c
  have bn2 : n2 ≤ 1048576 := by rw [hn2]; exact hz.w
  have bn3 : n3 ≤ 1048576 := by rw [hn3, ← List.length_map (f := (·.1)), h.2]; exact hz.k
  have bn4 : n4 ≤ 1048576 := by rw [hn4]; exact hz.b
  have HSH : Hid (∀ W, Below w.heap.size w W → ShelfO W B (.slice o1 n1 c1) (.slice o2 n2 c2) (.slice o3 n3 c3) (.slice o4 n4 c4) kv s) := fun W hb => h.below hb
  have HKP : Hid (∀ W, Below w.heap.size w W → KeptsO W B (.slice o3 n3 c3) kv) := fun W hb => (h.below hb).kept
  have HLK : Hid (kv.length = n3) := hn3.symm
  clear hn1 hn2 hn3 hn4 h hz
  obtain ⟨oQ, cQ, hQ, _⟩ := hv.slice
  subst hQ
  have HFV : Hid (∀ W, Below w.heap.size w W → FieldsV W base (.slice oQ n5 cQ) n5 gs) := fun W hb => hv.below hb
  clear hv
  have hb0 : Below w.heap.size w w := Below.refl _ _
  go_enter Tryz.func11, Tryz.ntmps11
  go_upto_region 1 with fail
  obtain ⟨qv1, hqv1⟩ : ∃ q, q = (w).heap.size := ⟨_, rfl⟩
  obtain ⟨w1, hW1⟩ : ∃ W, W = (w).alloc (.cells #[.slice o1 n1 c1, .slice o2 n2 c2, .slice o3 n3 c3, .slice o4 n4 c4, .int .i64 s.nx, .int .i64 s.sq] 38) := ⟨_, rfl⟩
  have hz1 : (w).heap.size = qv1 := hqv1.symm
  first | rw [← hW1, ← hqv1] | rw [← hW1]
  have hs1 : w1.heap.size = qv1 + 1 := by rw [hW1, ← hz1]; simp
  have bw : Below (w).heap.size (w) w1 := by rw [hW1]; exact (Below.refl _ _).alloc (Nat.le_refl _) _
  have hb1 := hbt hb0 bw
  have HBv1_1 : Hid ((w1).heap[qv1]? = some (.cells #[.slice o1 n1 c1, .slice o2 n2 c2, .slice o3 n3 c3, .slice o4 n4 c4, .int .i64 s.nx, .int .i64 s.sq] 38)) := by show _ = _; rw [hW1, ← hz1]; exact heap_alloc_new _ _
  clear hb0 bw hW1 hz1
  obtain ⟨qv2, hqv2⟩ : ∃ q, q = qv1 + 1 := ⟨_, rfl⟩
  obtain ⟨w2, hW2⟩ : ∃ W, W = (w1).alloc (.cells #[.int .i64 mt, .string p, .slice oQ n5 cQ, .string bd] 54) := ⟨_, rfl⟩
  have hz2 : (w1).heap.size = qv2 := by rw [hqv2]; exact hs1
  first | rw [← hW2, ← hqv2] | rw [← hW2]
  have hs2 : w2.heap.size = qv2 + 1 := by rw [hW2, ← hz2]; simp
  have bw : Below (w1).heap.size (w1) w2 := by rw [hW2]; exact (Below.refl _ _).alloc (Nat.le_refl _) _
  have hb2 := hbt hb1 bw
  have HBv1_2 := hblk HBv1_1 bw
  have HBv2_2 : Hid ((w2).heap[qv2]? = some (.cells #[.int .i64 mt, .string p, .slice oQ n5 cQ, .string bd] 54)) := by show _ = _; rw [hW2, ← hz2]; exact heap_alloc_new _ _
  clear hb1 HBv1_1 bw hW2 hz2
  obtain ⟨qv3, hqv3⟩ : ∃ q, q = qv2 + 1 := ⟨_, rfl⟩
  obtain ⟨w3, hW3⟩ : ∃ W, W = (w2).alloc (.cells #[.string ⟨#[]⟩, .slice none 0 0, .slice none 0 0, .int .i64 0, .slice none 0 0, .string ⟨#[]⟩, .int .i64 0] 50) := ⟨_, rfl⟩
  have hz3 : (w2).heap.size = qv3 := by rw [hqv3]; exact hs2
  first | rw [← hW3, ← hqv3] | rw [← hW3]
  have hs3 : w3.heap.size = qv3 + 1 := by rw [hW3, ← hz3]; simp
  have bw : Below (w2).heap.size (w2) w3 := by rw [hW3]; exact (Below.refl _ _).alloc (Nat.le_refl _) _
  have hb3 := hbt hb2 bw
  have HBv1_3 := hblk HBv1_2 bw
  have HBv2_3 := hblk HBv2_2 bw
  have HNv1v3 : Hid (qv1 ≠ qv3) := fun e => by have h1 := (Array.getElem?_eq_some_iff.1 HBv1_2.out).1; omega
  have HNv2v3 : Hid (qv2 ≠ qv3) := fun e => by have h1 := (Array.getElem?_eq_some_iff.1 HBv2_2.out).1; omega
  have HBv3_3 : Hid ((w3).heap[qv3]? = some (.cells #[.string ⟨#[]⟩, .slice none 0 0, .slice none 0 0, .int .i64 0, .slice none 0 0, .string ⟨#[]⟩, .int .i64 0] 50)) := by show _ = _; rw [hW3, ← hz3]; exact heap_alloc_new _ _
  have HGv3 : Hid (w.heap.size ≤ qv3) := by show _ ≤ _; rw [← hz3]; exact hb2.size
  clear hb2 HBv1_2 HBv2_2 bw hW3 hz3
  clear hs3 hqv3 hs2 hqv2 hs1 hqv1
  have cv1_2 : (w3).cell? ⟨qv1, 2, none⟩ = some (.slice o3 n3 c3) := (cell_of HBv1_3.out 2).trans rfl
  go_wp2_with fail
  clear cv1_2
  go_loopw [6] (fun i wr => ∃ j : Nat, j ≤ n3 ∧ i = .int .i64 ((j : Int) - 1) ∧ Hid (Below w.heap.size w (wr) ∧ (wr).heap[qv1]? = some (.cells #[.slice o1 n1 c1, .slice o2 n2 c2, .slice o3 n3 c3, .slice o4 n4 c4, .int .i64 s.nx, .int .i64 s.sq] 38) ∧ (wr).heap[qv2]? = some (.cells #[.int .i64 mt, .string p, .slice oQ n5 cQ, .string bd] 54) ∧ (wr).heap[qv3]? = some (.cells #[.string ⟨#[]⟩, .slice none 0 0, .slice none 0 0, .int .i64 0, .slice none 0 0, .string ⟨#[]⟩, .int .i64 0] 50)) ∧ Hid (NoneFrom s p gs j)) (fun i _ => (intOf i + 1).toNat)
  case atStart => exact ⟨n3, Nat.le_refl _, rfl, ⟨hb3, HBv1_3.out, HBv2_3.out, HBv3_3.out⟩, fun m h1 h2 => absurd h2 (by rw [← HKS.out, List.length_map, HLK.out]; omega)⟩
  case round =>
    obtain ⟨j, hj, rfl, HW, HN⟩ := hrel
    by_cases hj0 : j = 0
    · have hb4 := HW.out.1
      have HBv1_4 : Hid ((wr).heap[qv1]? = some (.cells #[.slice o1 n1 c1, .slice o2 n2 c2, .slice o3 n3 c3, .slice o4 n4 c4, .int .i64 s.nx, .int .i64 s.sq] 38)) := HW.out.2.1
      have HBv2_4 : Hid ((wr).heap[qv2]? = some (.cells #[.int .i64 mt, .string p, .slice oQ n5 cQ, .string bd] 54)) := HW.out.2.2.1
      have HBv3_4 : Hid ((wr).heap[qv3]? = some (.cells #[.string ⟨#[]⟩, .slice none 0 0, .slice none 0 0, .int .i64 0, .slice none 0 0, .string ⟨#[]⟩, .int .i64 0] 50)) := HW.out.2.2.2
      clear HW hb3 HBv1_3 HBv2_3 HBv3_3
      subst hj0
      rw [show (((0 : Nat) : Int) - 1) = -1 from rfl]
      have cv3_0 : (wr).cell? ⟨qv3, 0, none⟩ = some (.string ⟨#[]⟩) := (cell_of HBv3_4.out 0).trans rfl
      have fcv3_0 : (wr).frozen? ⟨qv3, 0, none⟩ = false := frozen_of HBv3_4.out 0
      have cv3_1 : (wr).cell? ⟨qv3, 1, none⟩ = some (.slice none 0 0) := (cell_of HBv3_4.out 1).trans rfl
      have fcv3_1 : (wr).frozen? ⟨qv3, 1, none⟩ = false := frozen_of HBv3_4.out 1
      have cv3_2 : (wr).cell? ⟨qv3, 2, none⟩ = some (.slice none 0 0) := (cell_of HBv3_4.out 2).trans rfl
      have fcv3_2 : (wr).frozen? ⟨qv3, 2, none⟩ = false := frozen_of HBv3_4.out 2
      have cv3_3 : (wr).cell? ⟨qv3, 3, none⟩ = some (.int .i64 0) := (cell_of HBv3_4.out 3).trans rfl
      have fcv3_3 : (wr).frozen? ⟨qv3, 3, none⟩ = false := frozen_of HBv3_4.out 3
      have cv3_4 : (wr).cell? ⟨qv3, 4, none⟩ = some (.slice none 0 0) := (cell_of HBv3_4.out 4).trans rfl
      have fcv3_4 : (wr).frozen? ⟨qv3, 4, none⟩ = false := frozen_of HBv3_4.out 4
      have cv3_5 : (wr).cell? ⟨qv3, 5, none⟩ = some (.string ⟨#[]⟩) := (cell_of HBv3_4.out 5).trans rfl
      have fcv3_5 : (wr).frozen? ⟨qv3, 5, none⟩ = false := frozen_of HBv3_4.out 5
      have cv3_6 : (wr).cell? ⟨qv3, 6, none⟩ = some (.int .i64 0) := (cell_of HBv3_4.out 6).trans rfl
      have fcv3_6 : (wr).frozen? ⟨qv3, 6, none⟩ = false := frozen_of HBv3_4.out 6
      go_wp2_with fail
      obtain ⟨w5, hW5⟩ : ∃ W, W = (wr).setCell ⟨qv3, 0, none⟩ (.string ⟨#[]⟩) := ⟨_, rfl⟩
      rw [← hW5]
      have hb5 : Below w.heap.size w (w5) := by rw [hW5]; exact (hb4.setCell (p := ⟨qv3, 0, none⟩) HGv3.out _)
      have HM5 : Hid ((wr).heap.size ≤ w5.heap.size) := by show _ ≤ _; rw [hW5]; simp
      have HBv1_5 := hset hW5 HNv1v3.out HBv1_4
      have HBv2_5 := hset hW5 HNv2v3.out HBv2_4
      have HBv3_5 : Hid ((w5).heap[qv3]? = some (.cells #[.string ⟨#[]⟩, .slice none 0 0, .slice none 0 0, .int .i64 0, .slice none 0 0, .string ⟨#[]⟩, .int .i64 0] 50)) := by show _ = _; rw [hW5]; have h := heap_set _ _ 0 _ _ _ (.string ⟨#[]⟩) HBv3_4.out; simpa using h
      clear hb4 HBv1_4 HBv2_4 HBv3_4 hW5
      obtain ⟨w6, hW6⟩ : ∃ W, W = (w5).setCell ⟨qv3, 1, none⟩ (.slice none 0 0) := ⟨_, rfl⟩
      rw [← hW6]
      have hb6 : Below w.heap.size w (w6) := by rw [hW6]; exact (hb5.setCell (p := ⟨qv3, 1, none⟩) HGv3.out _)
      have HM6 : Hid ((w5).heap.size ≤ w6.heap.size) := by show _ ≤ _; rw [hW6]; simp
      have HBv1_6 := hset hW6 HNv1v3.out HBv1_5
      have HBv2_6 := hset hW6 HNv2v3.out HBv2_5
      have HBv3_6 : Hid ((w6).heap[qv3]? = some (.cells #[.string ⟨#[]⟩, .slice none 0 0, .slice none 0 0, .int .i64 0, .slice none 0 0, .string ⟨#[]⟩, .int .i64 0] 50)) := by show _ = _; rw [hW6]; have h := heap_set _ _ 1 _ _ _ (.slice none 0 0) HBv3_5.out; simpa using h
      clear hb5 HBv1_5 HBv2_5 HBv3_5 hW6
      obtain ⟨w7, hW7⟩ : ∃ W, W = (w6).setCell ⟨qv3, 2, none⟩ (.slice none 0 0) := ⟨_, rfl⟩
      rw [← hW7]
      have hb7 : Below w.heap.size w (w7) := by rw [hW7]; exact (hb6.setCell (p := ⟨qv3, 2, none⟩) HGv3.out _)
      have HM7 : Hid ((w6).heap.size ≤ w7.heap.size) := by show _ ≤ _; rw [hW7]; simp
      have HBv1_7 := hset hW7 HNv1v3.out HBv1_6
      have HBv2_7 := hset hW7 HNv2v3.out HBv2_6
      have HBv3_7 : Hid ((w7).heap[qv3]? = some (.cells #[.string ⟨#[]⟩, .slice none 0 0, .slice none 0 0, .int .i64 0, .slice none 0 0, .string ⟨#[]⟩, .int .i64 0] 50)) := by show _ = _; rw [hW7]; have h := heap_set _ _ 2 _ _ _ (.slice none 0 0) HBv3_6.out; simpa using h
      clear hb6 HBv1_6 HBv2_6 HBv3_6 hW7
      obtain ⟨w8, hW8⟩ : ∃ W, W = (w7).setCell ⟨qv3, 3, none⟩ (.int .i64 0) := ⟨_, rfl⟩
      rw [← hW8]
      have hb8 : Below w.heap.size w (w8) := by rw [hW8]; exact (hb7.setCell (p := ⟨qv3, 3, none⟩) HGv3.out _)
      have HM8 : Hid ((w7).heap.size ≤ w8.heap.size) := by show _ ≤ _; rw [hW8]; simp
      have HBv1_8 := hset hW8 HNv1v3.out HBv1_7
      have HBv2_8 := hset hW8 HNv2v3.out HBv2_7
      have HBv3_8 : Hid ((w8).heap[qv3]? = some (.cells #[.string ⟨#[]⟩, .slice none 0 0, .slice none 0 0, .int .i64 0, .slice none 0 0, .string ⟨#[]⟩, .int .i64 0] 50)) := by show _ = _; rw [hW8]; have h := heap_set _ _ 3 _ _ _ (.int .i64 0) HBv3_7.out; simpa using h
      clear hb7 HBv1_7 HBv2_7 HBv3_7 hW8
      obtain ⟨w9, hW9⟩ : ∃ W, W = (w8).setCell ⟨qv3, 4, none⟩ (.slice none 0 0) := ⟨_, rfl⟩
      rw [← hW9]
      have hb9 : Below w.heap.size w (w9) := by rw [hW9]; exact (hb8.setCell (p := ⟨qv3, 4, none⟩) HGv3.out _)
      have HM9 : Hid ((w8).heap.size ≤ w9.heap.size) := by show _ ≤ _; rw [hW9]; simp
      have HBv1_9 := hset hW9 HNv1v3.out HBv1_8
      have HBv2_9 := hset hW9 HNv2v3.out HBv2_8
      have HBv3_9 : Hid ((w9).heap[qv3]? = some (.cells #[.string ⟨#[]⟩, .slice none 0 0, .slice none 0 0, .int .i64 0, .slice none 0 0, .string ⟨#[]⟩, .int .i64 0] 50)) := by show _ = _; rw [hW9]; have h := heap_set _ _ 4 _ _ _ (.slice none 0 0) HBv3_8.out; simpa using h
      clear hb8 HBv1_8 HBv2_8 HBv3_8 hW9
      obtain ⟨w10, hW10⟩ : ∃ W, W = (w9).setCell ⟨qv3, 5, none⟩ (.string ⟨#[]⟩) := ⟨_, rfl⟩
      rw [← hW10]
      have hb10 : Below w.heap.size w (w10) := by rw [hW10]; exact (hb9.setCell (p := ⟨qv3, 5, none⟩) HGv3.out _)
      have HM10 : Hid ((w9).heap.size ≤ w10.heap.size) := by show _ ≤ _; rw [hW10]; simp
      have HBv1_10 := hset hW10 HNv1v3.out HBv1_9
      have HBv2_10 := hset hW10 HNv2v3.out HBv2_9
      have HBv3_10 : Hid ((w10).heap[qv3]? = some (.cells #[.string ⟨#[]⟩, .slice none 0 0, .slice none 0 0, .int .i64 0, .slice none 0 0, .string ⟨#[]⟩, .int .i64 0] 50)) := by show _ = _; rw [hW10]; have h := heap_set _ _ 5 _ _ _ (.string ⟨#[]⟩) HBv3_9.out; simpa using h
      clear hb9 HBv1_9 HBv2_9 HBv3_9 hW10
      obtain ⟨w11, hW11⟩ : ∃ W, W = (w10).setCell ⟨qv3, 6, none⟩ (.int .i64 0) := ⟨_, rfl⟩
      rw [← hW11]
      have hb11 : Below w.heap.size w (w11) := by rw [hW11]; exact (hb10.setCell (p := ⟨qv3, 6, none⟩) HGv3.out _)
      have HM11 : Hid ((w10).heap.size ≤ w11.heap.size) := by show _ ≤ _; rw [hW11]; simp
      have HBv1_11 := hset hW11 HNv1v3.out HBv1_10
      have HBv2_11 := hset hW11 HNv2v3.out HBv2_10
      have HBv3_11 : Hid ((w11).heap[qv3]? = some (.cells #[.string ⟨#[]⟩, .slice none 0 0, .slice none 0 0, .int .i64 0, .slice none 0 0, .string ⟨#[]⟩, .int .i64 0] 50)) := by show _ = _; rw [hW11]; have h := heap_set _ _ 6 _ _ _ (.int .i64 0) HBv3_10.out; simpa using h
      clear hb10 HBv1_10 HBv2_10 HBv3_10 hW11
      have kv3_0 : (w11).cell? ⟨qv3, 0, none⟩ = some (.string ⟨#[]⟩) := (cell_of HBv3_11.out 0).trans rfl
      have kv3_1 : (w11).cell? ⟨qv3, 1, none⟩ = some (.slice none 0 0) := (cell_of HBv3_11.out 1).trans rfl
      have kv3_2 : (w11).cell? ⟨qv3, 2, none⟩ = some (.slice none 0 0) := (cell_of HBv3_11.out 2).trans rfl
      have kv3_3 : (w11).cell? ⟨qv3, 3, none⟩ = some (.int .i64 0) := (cell_of HBv3_11.out 3).trans rfl
      have kv3_4 : (w11).cell? ⟨qv3, 4, none⟩ = some (.slice none 0 0) := (cell_of HBv3_11.out 4).trans rfl
      have kv3_5 : (w11).cell? ⟨qv3, 5, none⟩ = some (.string ⟨#[]⟩) := (cell_of HBv3_11.out 5).trans rfl
      have kv3_6 : (w11).cell? ⟨qv3, 6, none⟩ = some (.int .i64 0) := (cell_of HBv3_11.out 6).trans rfl
      refine bodyPost_ret (v := .tuple #[.agg #[.string ⟨#[]⟩, .slice none 0 0, .slice none 0 0, .int .i64 0, .slice none 0 0, .string ⟨#[]⟩, .int .i64 0], .bool false]) (by simp [results, Tryz.results11, go_sem, kv3_0, kv3_1, kv3_2, kv3_3, kv3_4, kv3_5, kv3_6]) rfl ?_
      exact .inr ⟨fun _ => HN.out.none, rfl, hb11⟩
    · have hb4 := HW.out.1
      have HBv1_4 : Hid ((wr).heap[qv1]? = some (.cells #[.slice o1 n1 c1, .slice o2 n2 c2, .slice o3 n3 c3, .slice o4 n4 c4, .int .i64 s.nx, .int .i64 s.sq] 38)) := HW.out.2.1
      have HBv2_4 : Hid ((wr).heap[qv2]? = some (.cells #[.int .i64 mt, .string p, .slice oQ n5 cQ, .string bd] 54)) := HW.out.2.2.1
      have HBv3_4 : Hid ((wr).heap[qv3]? = some (.cells #[.string ⟨#[]⟩, .slice none 0 0, .slice none 0 0, .int .i64 0, .slice none 0 0, .string ⟨#[]⟩, .int .i64 0] 50)) := HW.out.2.2.2
      clear HW hb3 HBv1_3 HBv2_3 HBv3_3
      obtain ⟨i, rfl⟩ : ∃ i, j = i + 1 := ⟨j - 1, by omega⟩
      rw [show (((i + 1 : Nat) : Int) - 1) = (i : Int) by omega]
      clear hj0
      have hlt : (i : Int) < (n3 : Int) := by omega
      have hge : (0 : Int) ≤ (i : Int) := by omega
      have hil : ¬ n3 ≤ i := by omega
      have cv1_0 : (wr).cell? ⟨qv1, 0, none⟩ = some (.slice o1 n1 c1) := (cell_of HBv1_4.out 0).trans rfl
      have cv1_1 : (wr).cell? ⟨qv1, 1, none⟩ = some (.slice o2 n2 c2) := (cell_of HBv1_4.out 1).trans rfl
      have cv1_2 : (wr).cell? ⟨qv1, 2, none⟩ = some (.slice o3 n3 c3) := (cell_of HBv1_4.out 2).trans rfl
      have cv1_3 : (wr).cell? ⟨qv1, 3, none⟩ = some (.slice o4 n4 c4) := (cell_of HBv1_4.out 3).trans rfl
      have cv1_4 : (wr).cell? ⟨qv1, 4, none⟩ = some (.int .i64 s.nx) := (cell_of HBv1_4.out 4).trans rfl
      have cv1_5 : (wr).cell? ⟨qv1, 5, none⟩ = some (.int .i64 s.sq) := (cell_of HBv1_4.out 5).trans rfl
      go_wp2_with fail
      refine (specShelfOk_any _ _ _ _ kv s B _ (by have h := (HSH.out _ hb4); exact h) HZ.out).mono ?_
      rintro e w5 ⟨us, rfl, hus, bw⟩
      have hb5 := hbt hb4 bw
      have HM5 : Hid ((wr).heap.size ≤ (w5).heap.size) := bw.size
      have HBv1_5 := hblk HBv1_4 bw
      have HBv2_5 := hblk HBv2_4 bw
      have HBv3_5 := hblk HBv3_4 bw
      clear hb4 HBv1_4 HBv2_4 HBv3_4 bw
      clear cv1_0 cv1_1 cv1_2 cv1_3 cv1_4 cv1_5
      cases us with
      | false =>
        have HNus : Hid (¬ (ShelfP s)) := fun h => nomatch hus.2 h
        clear hus
        have cv3_0 : (w5).cell? ⟨qv3, 0, none⟩ = some (.string ⟨#[]⟩) := (cell_of HBv3_5.out 0).trans rfl
        have fcv3_0 : (w5).frozen? ⟨qv3, 0, none⟩ = false := frozen_of HBv3_5.out 0
        have cv3_1 : (w5).cell? ⟨qv3, 1, none⟩ = some (.slice none 0 0) := (cell_of HBv3_5.out 1).trans rfl
        have fcv3_1 : (w5).frozen? ⟨qv3, 1, none⟩ = false := frozen_of HBv3_5.out 1
        have cv3_2 : (w5).cell? ⟨qv3, 2, none⟩ = some (.slice none 0 0) := (cell_of HBv3_5.out 2).trans rfl
        have fcv3_2 : (w5).frozen? ⟨qv3, 2, none⟩ = false := frozen_of HBv3_5.out 2
        have cv3_3 : (w5).cell? ⟨qv3, 3, none⟩ = some (.int .i64 0) := (cell_of HBv3_5.out 3).trans rfl
        have fcv3_3 : (w5).frozen? ⟨qv3, 3, none⟩ = false := frozen_of HBv3_5.out 3
        have cv3_4 : (w5).cell? ⟨qv3, 4, none⟩ = some (.slice none 0 0) := (cell_of HBv3_5.out 4).trans rfl
        have fcv3_4 : (w5).frozen? ⟨qv3, 4, none⟩ = false := frozen_of HBv3_5.out 4
        have cv3_5 : (w5).cell? ⟨qv3, 5, none⟩ = some (.string ⟨#[]⟩) := (cell_of HBv3_5.out 5).trans rfl
        have fcv3_5 : (w5).frozen? ⟨qv3, 5, none⟩ = false := frozen_of HBv3_5.out 5
        have cv3_6 : (w5).cell? ⟨qv3, 6, none⟩ = some (.int .i64 0) := (cell_of HBv3_5.out 6).trans rfl
        have fcv3_6 : (w5).frozen? ⟨qv3, 6, none⟩ = false := frozen_of HBv3_5.out 6
        go_wp2_with fail
        obtain ⟨w6, hW6⟩ : ∃ W, W = (w5).setCell ⟨qv3, 0, none⟩ (.string ⟨#[]⟩) := ⟨_, rfl⟩
        rw [← hW6]
        have hb6 : Below w.heap.size w (w6) := by rw [hW6]; exact (hb5.setCell (p := ⟨qv3, 0, none⟩) HGv3.out _)
        have HM6 : Hid ((w5).heap.size ≤ w6.heap.size) := by show _ ≤ _; rw [hW6]; simp
        have HBv1_6 := hset hW6 HNv1v3.out HBv1_5
        have HBv2_6 := hset hW6 HNv2v3.out HBv2_5
        have HBv3_6 : Hid ((w6).heap[qv3]? = some (.cells #[.string ⟨#[]⟩, .slice none 0 0, .slice none 0 0, .int .i64 0, .slice none 0 0, .string ⟨#[]⟩, .int .i64 0] 50)) := by show _ = _; rw [hW6]; have h := heap_set _ _ 0 _ _ _ (.string ⟨#[]⟩) HBv3_5.out; simpa using h
        clear hb5 HBv1_5 HBv2_5 HBv3_5 hW6
        obtain ⟨w7, hW7⟩ : ∃ W, W = (w6).setCell ⟨qv3, 1, none⟩ (.slice none 0 0) := ⟨_, rfl⟩
        rw [← hW7]
        have hb7 : Below w.heap.size w (w7) := by rw [hW7]; exact (hb6.setCell (p := ⟨qv3, 1, none⟩) HGv3.out _)
        have HM7 : Hid ((w6).heap.size ≤ w7.heap.size) := by show _ ≤ _; rw [hW7]; simp
        have HBv1_7 := hset hW7 HNv1v3.out HBv1_6
        have HBv2_7 := hset hW7 HNv2v3.out HBv2_6
        have HBv3_7 : Hid ((w7).heap[qv3]? = some (.cells #[.string ⟨#[]⟩, .slice none 0 0, .slice none 0 0, .int .i64 0, .slice none 0 0, .string ⟨#[]⟩, .int .i64 0] 50)) := by show _ = _; rw [hW7]; have h := heap_set _ _ 1 _ _ _ (.slice none 0 0) HBv3_6.out; simpa using h
        clear hb6 HBv1_6 HBv2_6 HBv3_6 hW7
        obtain ⟨w8, hW8⟩ : ∃ W, W = (w7).setCell ⟨qv3, 2, none⟩ (.slice none 0 0) := ⟨_, rfl⟩
        rw [← hW8]
        have hb8 : Below w.heap.size w (w8) := by rw [hW8]; exact (hb7.setCell (p := ⟨qv3, 2, none⟩) HGv3.out _)
        have HM8 : Hid ((w7).heap.size ≤ w8.heap.size) := by show _ ≤ _; rw [hW8]; simp
        have HBv1_8 := hset hW8 HNv1v3.out HBv1_7
        have HBv2_8 := hset hW8 HNv2v3.out HBv2_7
        have HBv3_8 : Hid ((w8).heap[qv3]? = some (.cells #[.string ⟨#[]⟩, .slice none 0 0, .slice none 0 0, .int .i64 0, .slice none 0 0, .string ⟨#[]⟩, .int .i64 0] 50)) := by show _ = _; rw [hW8]; have h := heap_set _ _ 2 _ _ _ (.slice none 0 0) HBv3_7.out; simpa using h
        clear hb7 HBv1_7 HBv2_7 HBv3_7 hW8
        obtain ⟨w9, hW9⟩ : ∃ W, W = (w8).setCell ⟨qv3, 3, none⟩ (.int .i64 0) := ⟨_, rfl⟩
        rw [← hW9]
        have hb9 : Below w.heap.size w (w9) := by rw [hW9]; exact (hb8.setCell (p := ⟨qv3, 3, none⟩) HGv3.out _)
        have HM9 : Hid ((w8).heap.size ≤ w9.heap.size) := by show _ ≤ _; rw [hW9]; simp
        have HBv1_9 := hset hW9 HNv1v3.out HBv1_8
        have HBv2_9 := hset hW9 HNv2v3.out HBv2_8
        have HBv3_9 : Hid ((w9).heap[qv3]? = some (.cells #[.string ⟨#[]⟩, .slice none 0 0, .slice none 0 0, .int .i64 0, .slice none 0 0, .string ⟨#[]⟩, .int .i64 0] 50)) := by show _ = _; rw [hW9]; have h := heap_set _ _ 3 _ _ _ (.int .i64 0) HBv3_8.out; simpa using h
        clear hb8 HBv1_8 HBv2_8 HBv3_8 hW9
        obtain ⟨w10, hW10⟩ : ∃ W, W = (w9).setCell ⟨qv3, 4, none⟩ (.slice none 0 0) := ⟨_, rfl⟩
        rw [← hW10]
        have hb10 : Below w.heap.size w (w10) := by rw [hW10]; exact (hb9.setCell (p := ⟨qv3, 4, none⟩) HGv3.out _)
        have HM10 : Hid ((w9).heap.size ≤ w10.heap.size) := by show _ ≤ _; rw [hW10]; simp
        have HBv1_10 := hset hW10 HNv1v3.out HBv1_9
        have HBv2_10 := hset hW10 HNv2v3.out HBv2_9
        have HBv3_10 : Hid ((w10).heap[qv3]? = some (.cells #[.string ⟨#[]⟩, .slice none 0 0, .slice none 0 0, .int .i64 0, .slice none 0 0, .string ⟨#[]⟩, .int .i64 0] 50)) := by show _ = _; rw [hW10]; have h := heap_set _ _ 4 _ _ _ (.slice none 0 0) HBv3_9.out; simpa using h
        clear hb9 HBv1_9 HBv2_9 HBv3_9 hW10
        obtain ⟨w11, hW11⟩ : ∃ W, W = (w10).setCell ⟨qv3, 5, none⟩ (.string ⟨#[]⟩) := ⟨_, rfl⟩
        rw [← hW11]
        have hb11 : Below w.heap.size w (w11) := by rw [hW11]; exact (hb10.setCell (p := ⟨qv3, 5, none⟩) HGv3.out _)
        have HM11 : Hid ((w10).heap.size ≤ w11.heap.size) := by show _ ≤ _; rw [hW11]; simp
        have HBv1_11 := hset hW11 HNv1v3.out HBv1_10
        have HBv2_11 := hset hW11 HNv2v3.out HBv2_10
        have HBv3_11 : Hid ((w11).heap[qv3]? = some (.cells #[.string ⟨#[]⟩, .slice none 0 0, .slice none 0 0, .int .i64 0, .slice none 0 0, .string ⟨#[]⟩, .int .i64 0] 50)) := by show _ = _; rw [hW11]; have h := heap_set _ _ 5 _ _ _ (.string ⟨#[]⟩) HBv3_10.out; simpa using h
        clear hb10 HBv1_10 HBv2_10 HBv3_10 hW11
        obtain ⟨w12, hW12⟩ : ∃ W, W = (w11).setCell ⟨qv3, 6, none⟩ (.int .i64 0) := ⟨_, rfl⟩
        rw [← hW12]
        have hb12 : Below w.heap.size w (w12) := by rw [hW12]; exact (hb11.setCell (p := ⟨qv3, 6, none⟩) HGv3.out _)
        have HM12 : Hid ((w11).heap.size ≤ w12.heap.size) := by show _ ≤ _; rw [hW12]; simp
        have HBv1_12 := hset hW12 HNv1v3.out HBv1_11
        have HBv2_12 := hset hW12 HNv2v3.out HBv2_11
        have HBv3_12 : Hid ((w12).heap[qv3]? = some (.cells #[.string ⟨#[]⟩, .slice none 0 0, .slice none 0 0, .int .i64 0, .slice none 0 0, .string ⟨#[]⟩, .int .i64 0] 50)) := by show _ = _; rw [hW12]; have h := heap_set _ _ 6 _ _ _ (.int .i64 0) HBv3_11.out; simpa using h
        clear hb11 HBv1_11 HBv2_11 HBv3_11 hW12
        have kv3_0 : (w12).cell? ⟨qv3, 0, none⟩ = some (.string ⟨#[]⟩) := (cell_of HBv3_12.out 0).trans rfl
        have kv3_1 : (w12).cell? ⟨qv3, 1, none⟩ = some (.slice none 0 0) := (cell_of HBv3_12.out 1).trans rfl
        have kv3_2 : (w12).cell? ⟨qv3, 2, none⟩ = some (.slice none 0 0) := (cell_of HBv3_12.out 2).trans rfl
        have kv3_3 : (w12).cell? ⟨qv3, 3, none⟩ = some (.int .i64 0) := (cell_of HBv3_12.out 3).trans rfl
        have kv3_4 : (w12).cell? ⟨qv3, 4, none⟩ = some (.slice none 0 0) := (cell_of HBv3_12.out 4).trans rfl
        have kv3_5 : (w12).cell? ⟨qv3, 5, none⟩ = some (.string ⟨#[]⟩) := (cell_of HBv3_12.out 5).trans rfl
        have kv3_6 : (w12).cell? ⟨qv3, 6, none⟩ = some (.int .i64 0) := (cell_of HBv3_12.out 6).trans rfl
        refine bodyPost_ret (v := .tuple #[.agg #[.string ⟨#[]⟩, .slice none 0 0, .slice none 0 0, .int .i64 0, .slice none 0 0, .string ⟨#[]⟩, .int .i64 0], .bool false]) (by simp [results, Tryz.results11, go_sem, kv3_0, kv3_1, kv3_2, kv3_3, kv3_4, kv3_5, kv3_6]) rfl ?_
        exact .inr ⟨fun h => absurd h HNus.out, rfl, hb12⟩
      | true =>
        have HYus : Hid (ShelfP s) := hus.1 rfl
        clear hus
        obtain ⟨g3, p3, hV, _, _⟩ := (HKP.out _ hb5).look i (by rw [HLK.out]; omega)
        rw [HLK.out] at hV
        injection hV with hV1 hV2 hV3
        subst hV1 hV3
        clear hV2
        obtain ⟨xX, hxX⟩ : ∃ x, x = kvAt kv i := ⟨_, rfl⟩
        have HMx : Hid (xX ∈ kv) := by show _ ∈ _; rw [hxX]; exact kvAt_mem kv i (by rw [HLK.out]; omega)
        have HEx : Hid (kpAt s.ks i = xX.1) := by show _ = _; rw [hxX, ← HKS.out]; exact (kvAt_fst kv i (by rw [HLK.out]; omega)).symm
        have HTKx : Hid (kv.take (i + 1) = kv.take i ++ [xX]) := by show _ = _; rw [hxX]; exact kvAt_take kv i (by rw [HLK.out]; omega)
        have HKx : Hid (∀ W, Below w.heap.size w W → KpAt W g3 i xX) := fun W hb => by
          obtain ⟨g', p', hV, _, hc⟩ := (HKP.out W hb).look i (by rw [HLK.out]; omega)
          injection hV with hV1 _ _
          cases hV1
          rw [hxX]
          exact hc
        clear hxX
        obtain ⟨x, kuv1, kuv2, kuv3⟩ := xX
        obtain ⟨ku1, kuc1, hu⟩ := slice_of_owns ((HKP.out _ hb5).names HMx.out)
        have hu' : kuv1 = .slice ku1 x.xs.length kuc1 := hu
        subst hu'
        clear hu
        obtain ⟨ku2, kuc2, hu⟩ := slice_of_owns ((HKP.out _ hb5).vals HMx.out)
        have hu' : kuv2 = .slice ku2 x.ys.length kuc2 := hu
        subst hu'
        clear hu
        obtain ⟨ku3, kuc3, hu⟩ := slice_of_owns ((HKP.out _ hb5).flds HMx.out)
        have hu' : kuv3 = .slice ku3 x.fs.length kuc3 := hu
        subst hu'
        clear hu
        have r0x := (HKx.out _ hb5).c0
        have r1x := (HKx.out _ hb5).c1
        have r2x := (HKx.out _ hb5).c2
        have r3x := (HKx.out _ hb5).c3
        have r4x := (HKx.out _ hb5).c4
        have r5x := (HKx.out _ hb5).c5
        have r6x := (HKx.out _ hb5).c6
        have r7x := (HKx.out _ hb5).c7
        have r8x := (HKx.out _ hb5).c8
        dsimp only at r0x r1x r2x r3x r4x r5x r6x r7x r8x
        have cv1_2 : (w5).cell? ⟨qv1, 2, none⟩ = some (.slice (some ⟨g3, 0, none⟩) n3 c3) := (cell_of HBv1_5.out 2).trans rfl
        have Acv1_2 : ∀ o, ((w5).alloc o).cell? ⟨qv1, 2, none⟩ = some (.slice (some ⟨g3, 0, none⟩) n3 c3) := fun o => (cell_of (blk_below HBv1_5.out ((Below.refl _ _).alloc (Nat.le_refl _) o)) 2).trans rfl
        have Afcv1_2 : ∀ o, ((w5).alloc o).frozen? ⟨qv1, 2, none⟩ = false := fun o => frozen_of (blk_below HBv1_5.out ((Below.refl _ _).alloc (Nat.le_refl _) o)) 2
        go_upto_region 5 with fail
        obtain ⟨qv4, hqv4⟩ : ∃ q, q = (w5).heap.size := ⟨_, rfl⟩
        obtain ⟨w6, hW6⟩ : ∃ W, W = (w5).alloc (.cells #[.string x.p, .slice ku1 x.xs.length kuc1, .slice ku2 x.ys.length kuc2, .int .i64 x.st, .slice ku3 x.fs.length kuc3, .string x.b, .int .i64 x.t] 50) := ⟨_, rfl⟩
        have hz6 : (w5).heap.size = qv4 := hqv4.symm
        first | rw [← hW6, ← hqv4] | rw [← hW6]
        have hs6 : w6.heap.size = qv4 + 1 := by rw [hW6, ← hz6]; simp
        have bw : Below (w5).heap.size (w5) w6 := by rw [hW6]; exact (Below.refl _ _).alloc (Nat.le_refl _) _
        have hb6 := hbt hb5 bw
        have HM6 : Hid ((w5).heap.size ≤ (w6).heap.size) := bw.size
        have HBv1_6 := hblk HBv1_5 bw
        have HBv2_6 := hblk HBv2_5 bw
        have HBv3_6 := hblk HBv3_5 bw
        have HNv3v4 : Hid (qv3 ≠ qv4) := fun e => by have h1 := (Array.getElem?_eq_some_iff.1 HBv3_5.out).1; omega
        have HBv4_6 : Hid ((w6).heap[qv4]? = some (.cells #[.string x.p, .slice ku1 x.xs.length kuc1, .slice ku2 x.ys.length kuc2, .int .i64 x.st, .slice ku3 x.fs.length kuc3, .string x.b, .int .i64 x.t] 50)) := by show _ = _; rw [hW6, ← hz6]; exact heap_alloc_new _ _
        clear hb5 HBv1_5 HBv2_5 HBv3_5 bw hW6 hz6
        clear hs6 hqv4
        clear r0x r1x r2x r3x r4x r5x r6x r7x r8x cv1_2 Acv1_2 Afcv1_2
        by_cases hc1 : x.p = p
        · have hc1b : ((x.p).toList == (p).toList) = true := (text_beq _ _).2 hc1
          have HPT : Hid ((x.p = p)) := hc1
          clear hc1
          have cv2_1 : (w6).cell? ⟨qv2, 1, none⟩ = some (.string p) := (cell_of HBv2_6.out 1).trans rfl
          have cv2_2 : (w6).cell? ⟨qv2, 2, none⟩ = some (.slice oQ n5 cQ) := (cell_of HBv2_6.out 2).trans rfl
          have cv4_0 : (w6).cell? ⟨qv4, 0, none⟩ = some (.string x.p) := (cell_of HBv4_6.out 0).trans rfl
          have cv4_1 : (w6).cell? ⟨qv4, 1, none⟩ = some (.slice ku1 x.xs.length kuc1) := (cell_of HBv4_6.out 1).trans rfl
          have cv4_2 : (w6).cell? ⟨qv4, 2, none⟩ = some (.slice ku2 x.ys.length kuc2) := (cell_of HBv4_6.out 2).trans rfl
          go_wp2_with fail
          refine (specSuits_k x _ _ _ _ n5 base gs _ ((HKP.out _ hb6).read HMx.out) (HZ.out.kv HKS.out HMx.out) (HFV.out _ hb6) bn5).mono ?_
          rintro e w7 ⟨uu, rfl, huu, bw⟩
          have hb7 := hbt hb6 bw
          have HM7 : Hid ((w6).heap.size ≤ (w7).heap.size) := bw.size
          have HBv1_7 := hblk HBv1_6 bw
          have HBv2_7 := hblk HBv2_6 bw
          have HBv3_7 := hblk HBv3_6 bw
          have HBv4_7 := hblk HBv4_6 bw
          clear hb6 HBv1_6 HBv2_6 HBv3_6 HBv4_6 bw
          clear cv2_1 cv2_2 cv4_0 cv4_1 cv4_2
          cases uu with
          | false =>
            have HNuu : Hid (¬ (suitsP x.xs x.ys gs = true)) := fun h => nomatch huu.2 h
            clear huu
            have HN2 : Hid (NoneFrom s p gs i) := HN.out.step (fun h => by rw [HEx.out] at h; exact HNuu.out h.2.1)
            go_wp2_with fail
            go_roundw
            case rel => exact ⟨i, by omega, by go_num, ⟨hb7, HBv1_7.out, HBv2_7.out, HBv3_7.out⟩, HN2⟩
            case measure => simp [intOf]
          | true =>
            have HYuu : Hid (suitsP x.xs x.ys gs = true) := huu.1 rfl
            clear huu
            have cv1_3 : (w7).cell? ⟨qv1, 3, none⟩ = some (.slice o4 n4 c4) := (cell_of HBv1_7.out 3).trans rfl
            have cv4_0 : (w7).cell? ⟨qv4, 0, none⟩ = some (.string x.p) := (cell_of HBv4_7.out 0).trans rfl
            have cv4_1 : (w7).cell? ⟨qv4, 1, none⟩ = some (.slice ku1 x.xs.length kuc1) := (cell_of HBv4_7.out 1).trans rfl
            have cv4_2 : (w7).cell? ⟨qv4, 2, none⟩ = some (.slice ku2 x.ys.length kuc2) := (cell_of HBv4_7.out 2).trans rfl
            have cv4_3 : (w7).cell? ⟨qv4, 3, none⟩ = some (.int .i64 x.st) := (cell_of HBv4_7.out 3).trans rfl
            have cv4_4 : (w7).cell? ⟨qv4, 4, none⟩ = some (.slice ku3 x.fs.length kuc3) := (cell_of HBv4_7.out 4).trans rfl
            have cv4_5 : (w7).cell? ⟨qv4, 5, none⟩ = some (.string x.b) := (cell_of HBv4_7.out 5).trans rfl
            have cv4_6 : (w7).cell? ⟨qv4, 6, none⟩ = some (.int .i64 x.t) := (cell_of HBv4_7.out 6).trans rfl
            go_wp2_with fail
            refine (specHitsAny_k _ n4 _ s.bl x _ _ _ _ (by have hd := (HSH.out _ hb7).bans; rw [HLN.out.2.2.2] at hd; exact ban_view hd) (by omega) HZ.out.bm ((HKP.out _ hb7).read HMx.out) (HZ.out.kv HKS.out HMx.out)).mono ?_
            rintro e w8 ⟨uh, rfl, huh, bw⟩
            have hb8 := hbt hb7 bw
            have HM8 : Hid ((w7).heap.size ≤ (w8).heap.size) := bw.size
            have HBv1_8 := hblk HBv1_7 bw
            have HBv2_8 := hblk HBv2_7 bw
            have HBv3_8 := hblk HBv3_7 bw
            have HBv4_8 := hblk HBv4_7 bw
            clear hb7 HBv1_7 HBv2_7 HBv3_7 HBv4_7 bw
            clear cv1_3 cv4_0 cv4_1 cv4_2 cv4_3 cv4_4 cv4_5 cv4_6
            cases uh with
            | false =>
              have HNuh : Hid (¬ (AnyK s.bl x)) := fun h => nomatch huh.2 h
              clear huh
              have cv4_0 : (w8).cell? ⟨qv4, 0, none⟩ = some (.string x.p) := (cell_of HBv4_8.out 0).trans rfl
              have cv4_1 : (w8).cell? ⟨qv4, 1, none⟩ = some (.slice ku1 x.xs.length kuc1) := (cell_of HBv4_8.out 1).trans rfl
              have cv4_2 : (w8).cell? ⟨qv4, 2, none⟩ = some (.slice ku2 x.ys.length kuc2) := (cell_of HBv4_8.out 2).trans rfl
              have cv4_3 : (w8).cell? ⟨qv4, 3, none⟩ = some (.int .i64 x.st) := (cell_of HBv4_8.out 3).trans rfl
              have cv4_4 : (w8).cell? ⟨qv4, 4, none⟩ = some (.slice ku3 x.fs.length kuc3) := (cell_of HBv4_8.out 4).trans rfl
              have cv4_5 : (w8).cell? ⟨qv4, 5, none⟩ = some (.string x.b) := (cell_of HBv4_8.out 5).trans rfl
              have cv4_6 : (w8).cell? ⟨qv4, 6, none⟩ = some (.int .i64 x.t) := (cell_of HBv4_8.out 6).trans rfl
              go_wp2_with fail
              refine (l10Copy_any x.p _ x.xs _ x.ys x.st _ x.fs x.b x.t _ _ _ B _ (rows_objO ((HKP.out _ hb8).obj HMx.out)) (by have := (HZ.out.kv HKS.out HMx.out).2.1.1; dsimp only at this ⊢; omega) (by have := (HZ.out.kv HKS.out HMx.out).2.2.1.1; dsimp only at this ⊢; omega) (by have := (HZ.out.kv HKS.out HMx.out).2.2.2.1; dsimp only at this ⊢; omega)).mono ?_
              rintro e w9 ⟨va, vb, vc, rfl, ⟨ownNN, ownVV, ownFF, hne⟩, bw⟩
              dsimp only at ownNN ownVV ownFF ⊢
              obtain ⟨oNN, pNN, rfl⟩ := slice_of_owns ownNN
              obtain ⟨oVV, pVV, rfl⟩ := slice_of_owns ownVV
              obtain ⟨oFF, pFF, rfl⟩ := slice_of_owns ownFF
              have APX : Hid (∀ j, (Value.slice oNN x.xs.length pNN).ownBlock = some j → (Value.slice oVV x.ys.length pVV).ownBlock ≠ some j) := hne
              clear hne
              have hb9 := hbt hb8 bw
              have HM9 : Hid ((w8).heap.size ≤ (w9).heap.size) := bw.size
              have HBv1_9 := hblk HBv1_8 bw
              have HBv2_9 := hblk HBv2_8 bw
              have HBv3_9 := hblk HBv3_8 bw
              have HBv4_9 := hblk HBv4_8 bw
              have HONN_9 : Hid ((w9).ownsRow w.heap.size 9 1 (.slice oNN x.xs.length pNN) x.xs.length (x.xs.map Value.string)) := owns_wide ownNN hb8.size
              clear ownNN
              have HOVV_9 : Hid ((w9).ownsRow w.heap.size 9 1 (.slice oVV x.ys.length pVV) x.ys.length (x.ys.map Value.string)) := owns_wide ownVV hb8.size
              clear ownVV
              have HOFF_9 : Hid ((w9).ownsRow w.heap.size 132 2 (.slice oFF x.fs.length pFF) x.fs.length (flatF x.fs)) := owns_wide ownFF hb8.size
              clear ownFF
              clear hb8 HBv1_8 HBv2_8 HBv3_8 HBv4_8 bw
              clear cv4_0 cv4_1 cv4_2 cv4_3 cv4_4 cv4_5 cv4_6
              have cv3_0 : (w9).cell? ⟨qv3, 0, none⟩ = some (.string ⟨#[]⟩) := (cell_of HBv3_9.out 0).trans rfl
              have fcv3_0 : (w9).frozen? ⟨qv3, 0, none⟩ = false := frozen_of HBv3_9.out 0
              have cv3_1 : (w9).cell? ⟨qv3, 1, none⟩ = some (.slice none 0 0) := (cell_of HBv3_9.out 1).trans rfl
              have fcv3_1 : (w9).frozen? ⟨qv3, 1, none⟩ = false := frozen_of HBv3_9.out 1
              have cv3_2 : (w9).cell? ⟨qv3, 2, none⟩ = some (.slice none 0 0) := (cell_of HBv3_9.out 2).trans rfl
              have fcv3_2 : (w9).frozen? ⟨qv3, 2, none⟩ = false := frozen_of HBv3_9.out 2
              have cv3_3 : (w9).cell? ⟨qv3, 3, none⟩ = some (.int .i64 0) := (cell_of HBv3_9.out 3).trans rfl
              have fcv3_3 : (w9).frozen? ⟨qv3, 3, none⟩ = false := frozen_of HBv3_9.out 3
              have cv3_4 : (w9).cell? ⟨qv3, 4, none⟩ = some (.slice none 0 0) := (cell_of HBv3_9.out 4).trans rfl
              have fcv3_4 : (w9).frozen? ⟨qv3, 4, none⟩ = false := frozen_of HBv3_9.out 4
              have cv3_5 : (w9).cell? ⟨qv3, 5, none⟩ = some (.string ⟨#[]⟩) := (cell_of HBv3_9.out 5).trans rfl
              have fcv3_5 : (w9).frozen? ⟨qv3, 5, none⟩ = false := frozen_of HBv3_9.out 5
              have cv3_6 : (w9).cell? ⟨qv3, 6, none⟩ = some (.int .i64 0) := (cell_of HBv3_9.out 6).trans rfl
              have fcv3_6 : (w9).frozen? ⟨qv3, 6, none⟩ = false := frozen_of HBv3_9.out 6
              go_wp2_with fail
              obtain ⟨w10, hW10⟩ : ∃ W, W = (w9).setCell ⟨qv3, 0, none⟩ (.string x.p) := ⟨_, rfl⟩
              rw [← hW10]
              have hb10 : Below w.heap.size w (w10) := by rw [hW10]; exact (hb9.setCell (p := ⟨qv3, 0, none⟩) HGv3.out _)
              have HM10 : Hid ((w9).heap.size ≤ w10.heap.size) := by show _ ≤ _; rw [hW10]; simp
              have HONN_10 := hsetR hW10 (own_ne HONN_9.out HBv3_9.out (by decide)) HONN_9
              have HOVV_10 := hsetR hW10 (own_ne HOVV_9.out HBv3_9.out (by decide)) HOVV_9
              have HOFF_10 := hsetR hW10 (own_ne HOFF_9.out HBv3_9.out (by decide)) HOFF_9
              have HBv1_10 := hset hW10 HNv1v3.out HBv1_9
              have HBv2_10 := hset hW10 HNv2v3.out HBv2_9
              have HBv4_10 := hset hW10 HNv3v4.out.symm HBv4_9
              have HBv3_10 : Hid ((w10).heap[qv3]? = some (.cells #[.string x.p, .slice none 0 0, .slice none 0 0, .int .i64 0, .slice none 0 0, .string ⟨#[]⟩, .int .i64 0] 50)) := by show _ = _; rw [hW10]; have h := heap_set _ _ 0 _ _ _ (.string x.p) HBv3_9.out; simpa using h
              clear hb9 HONN_9 HOVV_9 HOFF_9 HBv1_9 HBv2_9 HBv3_9 HBv4_9 hW10
              obtain ⟨w11, hW11⟩ : ∃ W, W = (w10).setCell ⟨qv3, 1, none⟩ (.slice oNN x.xs.length pNN) := ⟨_, rfl⟩
              rw [← hW11]
              have hb11 : Below w.heap.size w (w11) := by rw [hW11]; exact (hb10.setCell (p := ⟨qv3, 1, none⟩) HGv3.out _)
              have HM11 : Hid ((w10).heap.size ≤ w11.heap.size) := by show _ ≤ _; rw [hW11]; simp
              have HONN_11 := hsetR hW11 (own_ne HONN_10.out HBv3_10.out (by decide)) HONN_10
              have HOVV_11 := hsetR hW11 (own_ne HOVV_10.out HBv3_10.out (by decide)) HOVV_10
              have HOFF_11 := hsetR hW11 (own_ne HOFF_10.out HBv3_10.out (by decide)) HOFF_10
              have HBv1_11 := hset hW11 HNv1v3.out HBv1_10
              have HBv2_11 := hset hW11 HNv2v3.out HBv2_10
              have HBv4_11 := hset hW11 HNv3v4.out.symm HBv4_10
              have HBv3_11 : Hid ((w11).heap[qv3]? = some (.cells #[.string x.p, .slice oNN x.xs.length pNN, .slice none 0 0, .int .i64 0, .slice none 0 0, .string ⟨#[]⟩, .int .i64 0] 50)) := by show _ = _; rw [hW11]; have h := heap_set _ _ 1 _ _ _ (.slice oNN x.xs.length pNN) HBv3_10.out; simpa using h
              clear hb10 HONN_10 HOVV_10 HOFF_10 HBv1_10 HBv2_10 HBv3_10 HBv4_10 hW11
              obtain ⟨w12, hW12⟩ : ∃ W, W = (w11).setCell ⟨qv3, 2, none⟩ (.slice oVV x.ys.length pVV) := ⟨_, rfl⟩
              rw [← hW12]
              have hb12 : Below w.heap.size w (w12) := by rw [hW12]; exact (hb11.setCell (p := ⟨qv3, 2, none⟩) HGv3.out _)
              have HM12 : Hid ((w11).heap.size ≤ w12.heap.size) := by show _ ≤ _; rw [hW12]; simp
              have HONN_12 := hsetR hW12 (own_ne HONN_11.out HBv3_11.out (by decide)) HONN_11
              have HOVV_12 := hsetR hW12 (own_ne HOVV_11.out HBv3_11.out (by decide)) HOVV_11
              have HOFF_12 := hsetR hW12 (own_ne HOFF_11.out HBv3_11.out (by decide)) HOFF_11
              have HBv1_12 := hset hW12 HNv1v3.out HBv1_11
              have HBv2_12 := hset hW12 HNv2v3.out HBv2_11
              have HBv4_12 := hset hW12 HNv3v4.out.symm HBv4_11
              have HBv3_12 : Hid ((w12).heap[qv3]? = some (.cells #[.string x.p, .slice oNN x.xs.length pNN, .slice oVV x.ys.length pVV, .int .i64 0, .slice none 0 0, .string ⟨#[]⟩, .int .i64 0] 50)) := by show _ = _; rw [hW12]; have h := heap_set _ _ 2 _ _ _ (.slice oVV x.ys.length pVV) HBv3_11.out; simpa using h
              clear hb11 HONN_11 HOVV_11 HOFF_11 HBv1_11 HBv2_11 HBv3_11 HBv4_11 hW12
              obtain ⟨w13, hW13⟩ : ∃ W, W = (w12).setCell ⟨qv3, 3, none⟩ (.int .i64 x.st) := ⟨_, rfl⟩
              rw [← hW13]
              have hb13 : Below w.heap.size w (w13) := by rw [hW13]; exact (hb12.setCell (p := ⟨qv3, 3, none⟩) HGv3.out _)
              have HONN_13 := hsetR hW13 (own_ne HONN_12.out HBv3_12.out (by decide)) HONN_12
              have HOVV_13 := hsetR hW13 (own_ne HOVV_12.out HBv3_12.out (by decide)) HOVV_12
              have HOFF_13 := hsetR hW13 (own_ne HOFF_12.out HBv3_12.out (by decide)) HOFF_12
              have HBv1_13 := hset hW13 HNv1v3.out HBv1_12
              have HBv2_13 := hset hW13 HNv2v3.out HBv2_12
              have HBv4_13 := hset hW13 HNv3v4.out.symm HBv4_12
              have HBv3_13 : Hid ((w13).heap[qv3]? = some (.cells #[.string x.p, .slice oNN x.xs.length pNN, .slice oVV x.ys.length pVV, .int .i64 x.st, .slice none 0 0, .string ⟨#[]⟩, .int .i64 0] 50)) := by show _ = _; rw [hW13]; have h := heap_set _ _ 3 _ _ _ (.int .i64 x.st) HBv3_12.out; simpa using h
              clear hb12 HONN_12 HOVV_12 HOFF_12 HBv1_12 HBv2_12 HBv3_12 HBv4_12 hW13
              obtain ⟨w14, hW14⟩ : ∃ W, W = (w13).setCell ⟨qv3, 4, none⟩ (.slice oFF x.fs.length pFF) := ⟨_, rfl⟩
              rw [← hW14]
              have hb14 : Below w.heap.size w (w14) := by rw [hW14]; exact (hb13.setCell (p := ⟨qv3, 4, none⟩) HGv3.out _)
              have HONN_14 := hsetR hW14 (own_ne HONN_13.out HBv3_13.out (by decide)) HONN_13
              have HOVV_14 := hsetR hW14 (own_ne HOVV_13.out HBv3_13.out (by decide)) HOVV_13
              have HOFF_14 := hsetR hW14 (own_ne HOFF_13.out HBv3_13.out (by decide)) HOFF_13
              have HBv1_14 := hset hW14 HNv1v3.out HBv1_13
              have HBv2_14 := hset hW14 HNv2v3.out HBv2_13
              have HBv4_14 := hset hW14 HNv3v4.out.symm HBv4_13
              have HBv3_14 : Hid ((w14).heap[qv3]? = some (.cells #[.string x.p, .slice oNN x.xs.length pNN, .slice oVV x.ys.length pVV, .int .i64 x.st, .slice oFF x.fs.length pFF, .string ⟨#[]⟩, .int .i64 0] 50)) := by show _ = _; rw [hW14]; have h := heap_set _ _ 4 _ _ _ (.slice oFF x.fs.length pFF) HBv3_13.out; simpa using h
              clear hb13 HONN_13 HOVV_13 HOFF_13 HBv1_13 HBv2_13 HBv3_13 HBv4_13 hW14
              obtain ⟨w15, hW15⟩ : ∃ W, W = (w14).setCell ⟨qv3, 5, none⟩ (.string x.b) := ⟨_, rfl⟩
              rw [← hW15]
              have hb15 : Below w.heap.size w (w15) := by rw [hW15]; exact (hb14.setCell (p := ⟨qv3, 5, none⟩) HGv3.out _)
              have HONN_15 := hsetR hW15 (own_ne HONN_14.out HBv3_14.out (by decide)) HONN_14
              have HOVV_15 := hsetR hW15 (own_ne HOVV_14.out HBv3_14.out (by decide)) HOVV_14
              have HOFF_15 := hsetR hW15 (own_ne HOFF_14.out HBv3_14.out (by decide)) HOFF_14
              have HBv1_15 := hset hW15 HNv1v3.out HBv1_14
              have HBv2_15 := hset hW15 HNv2v3.out HBv2_14
              have HBv4_15 := hset hW15 HNv3v4.out.symm HBv4_14
              have HBv3_15 : Hid ((w15).heap[qv3]? = some (.cells #[.string x.p, .slice oNN x.xs.length pNN, .slice oVV x.ys.length pVV, .int .i64 x.st, .slice oFF x.fs.length pFF, .string x.b, .int .i64 0] 50)) := by show _ = _; rw [hW15]; have h := heap_set _ _ 5 _ _ _ (.string x.b) HBv3_14.out; simpa using h
              clear hb14 HONN_14 HOVV_14 HOFF_14 HBv1_14 HBv2_14 HBv3_14 HBv4_14 hW15
              obtain ⟨w16, hW16⟩ : ∃ W, W = (w15).setCell ⟨qv3, 6, none⟩ (.int .i64 x.t) := ⟨_, rfl⟩
              rw [← hW16]
              have hb16 : Below w.heap.size w (w16) := by rw [hW16]; exact (hb15.setCell (p := ⟨qv3, 6, none⟩) HGv3.out _)
              have HONN_16 := hsetR hW16 (own_ne HONN_15.out HBv3_15.out (by decide)) HONN_15
              have HOVV_16 := hsetR hW16 (own_ne HOVV_15.out HBv3_15.out (by decide)) HOVV_15
              have HOFF_16 := hsetR hW16 (own_ne HOFF_15.out HBv3_15.out (by decide)) HOFF_15
              have HBv1_16 := hset hW16 HNv1v3.out HBv1_15
              have HBv2_16 := hset hW16 HNv2v3.out HBv2_15
              have HBv4_16 := hset hW16 HNv3v4.out.symm HBv4_15
              have HBv3_16 : Hid ((w16).heap[qv3]? = some (.cells #[.string x.p, .slice oNN x.xs.length pNN, .slice oVV x.ys.length pVV, .int .i64 x.st, .slice oFF x.fs.length pFF, .string x.b, .int .i64 x.t] 50)) := by show _ = _; rw [hW16]; have h := heap_set _ _ 6 _ _ _ (.int .i64 x.t) HBv3_15.out; simpa using h
              clear hb15 HONN_15 HOVV_15 HOFF_15 HBv1_15 HBv2_15 HBv3_15 HBv4_15 hW16
              have kv3_0 : (w16).cell? ⟨qv3, 0, none⟩ = some (.string x.p) := (cell_of HBv3_16.out 0).trans rfl
              have kv3_1 : (w16).cell? ⟨qv3, 1, none⟩ = some (.slice oNN x.xs.length pNN) := (cell_of HBv3_16.out 1).trans rfl
              have kv3_2 : (w16).cell? ⟨qv3, 2, none⟩ = some (.slice oVV x.ys.length pVV) := (cell_of HBv3_16.out 2).trans rfl
              have kv3_3 : (w16).cell? ⟨qv3, 3, none⟩ = some (.int .i64 x.st) := (cell_of HBv3_16.out 3).trans rfl
              have kv3_4 : (w16).cell? ⟨qv3, 4, none⟩ = some (.slice oFF x.fs.length pFF) := (cell_of HBv3_16.out 4).trans rfl
              have kv3_5 : (w16).cell? ⟨qv3, 5, none⟩ = some (.string x.b) := (cell_of HBv3_16.out 5).trans rfl
              have kv3_6 : (w16).cell? ⟨qv3, 6, none⟩ = some (.int .i64 x.t) := (cell_of HBv3_16.out 6).trans rfl
              refine bodyPost_ret (v := .tuple #[.agg #[.string x.p, .slice oNN x.xs.length pNN, .slice oVV x.ys.length pVV, .int .i64 x.st, .slice oFF x.fs.length pFF, .string x.b, .int .i64 x.t], .bool true]) (by simp [results, Tryz.results11, go_sem, kv3_0, kv3_1, kv3_2, kv3_3, kv3_4, kv3_5, kv3_6]) rfl ?_
              refine .inl ⟨i, .slice oNN x.xs.length pNN, .slice oVV x.ys.length pVV, .slice oFF x.fs.length pFF, HYus.out, HN.out.found (by rw [← HKS.out, List.length_map, HLK.out]; omega) (by rw [HEx.out]; exact ⟨HPT.out, HYuu.out, HNuh.out⟩), ?_⟩
              rw [HEx.out]
              exact ⟨rfl, ⟨HONN_16.out, HOVV_16.out, HOFF_16.out, APX.out⟩, hb16⟩
            | true =>
              have HYuh : Hid (AnyK s.bl x) := huh.1 rfl
              clear huh
              have HN2 : Hid (NoneFrom s p gs i) := HN.out.step (fun h => by rw [HEx.out] at h; exact h.2.2 HYuh.out)
              go_wp2_with fail
              go_roundw
              case rel => exact ⟨i, by omega, by go_num, ⟨hb8, HBv1_8.out, HBv2_8.out, HBv3_8.out⟩, HN2⟩
              case measure => simp [intOf]
        · have hc1b : ((x.p).toList == (p).toList) = false := text_beq_no hc1
          have HPT : Hid (¬ (x.p = p)) := hc1
          clear hc1
          have cv2_1 : (w6).cell? ⟨qv2, 1, none⟩ = some (.string p) := (cell_of HBv2_6.out 1).trans rfl
          have cv4_0 : (w6).cell? ⟨qv4, 0, none⟩ = some (.string x.p) := (cell_of HBv4_6.out 0).trans rfl
          have HN2 : Hid (NoneFrom s p gs i) := HN.out.step (fun h => by rw [HEx.out] at h; exact HPT.out h.1)
          go_wp2_with fail
          go_roundw
          case rel => exact ⟨i, by omega, by go_num, ⟨hb6, HBv1_6.out, HBv2_6.out, HBv3_6.out⟩, HN2⟩
          case measure => simp [intOf]

end Go.Proofs.YtcipbkkpkhameaaGreat

namespace Go.Proofs.YtcipbkkpkhameaaGreat
open Go.RowKit
open Go.Lib hiding intOf

/-- What is found, or nothing. -/
def FoundG (k : KpD) (fb : Bool) (w : World) (e : Ending) (w' : World) : Prop :=
  ∃ v1 v2 v3, e = .returned (.tuple #[.agg #[.string k.p, v1, v2, .int .i64 k.st, v3, .string k.b, .int .i64 k.t], .bool fb]) ∧ ObjO w' w.heap.size v1 k.xs.length k.xs v2 k.ys.length k.ys v3 k.fs.length k.fs ∧ Below w.heap.size w w'
/-- It is that one that is found, or there is none. -/
def IsFound (s : ShD) (p : ByteArray) (gs : List (ByteArray × ByteArray)) (k : KpD) (fb : Bool) : Prop := (fb = true ∧ ShelfP s ∧ ∃ i, FoundAt s p gs i ∧ k = kpAt s.ks i) ∨ (fb = false ∧ k = zeroK ∧ ∀ i, ¬ (ShelfP s ∧ FoundAt s p gs i))
theorem findG {s : ShD} {p : ByteArray} {gs : List (ByteArray × ByteArray)} {k : KpD} {fb : Bool} {prog : Program} {f : FuncId} {args : Array Value} {w : World} (hK : IsFound s p gs k fb) (h : Calls prog f args w fun e w' => FindIs s p gs w e w') : Calls prog f args w fun e w' => FoundG k fb w e w' :=
  h.mono fun e w' h2 => by
    rcases hK with ⟨rfl, hs, i, hf, rfl⟩ | ⟨rfl, rfl, hn⟩
    · rcases h2 with ⟨j, v1, v2, v3, _, h3, h4, h5, h6⟩ | ⟨h3, _⟩
      · rw [hf.uniq h3]
        exact ⟨v1, v2, v3, h4, h5, h6⟩
      · exact absurd hf (h3 hs i)
    · rcases h2 with ⟨j, v1, v2, v3, h1, h3, _⟩ | ⟨_, h3, h4⟩
      · exact absurd ⟨h1, h3⟩ (hn j)
      · exact ⟨_, _, _, h3, nilOS _ _, h4⟩
theorem IsFound.small {s : ShD} {p : ByteArray} {gs : List (ByteArray × ByteArray)} {k : KpD} {fb : Bool} (h : IsFound s p gs k fb) (hs : ShSmall s) : k.xs.length ≤ 1048576 ∧ k.ys.length ≤ 1048576 ∧ k.fs.length ≤ 1048576 := by
  rcases h with ⟨_, _, i, hf, rfl⟩ | ⟨_, rfl, _⟩
  · have h2 := hs.ks _ (kpAt_mem s.ks i hf.1)
    exact ⟨h2.2.1.1, h2.2.2.1.1, h2.2.2.2.1⟩
  · decide

end Go.Proofs.YtcipbkkpkhameaaGreat

namespace Go.Proofs.YtcipbkkpkhameaaGreat
open Go.RowKit
open Go.Lib hiding intOf

/-- One that is known, as a value. -/
def kpX (x : KpD × Value × Value × Value) : Value := .agg #[.string x.1.p, x.2.1, x.2.2.1, .int .i64 x.1.st, x.2.2.2, .string x.1.b, .int .i64 x.1.t, .int .i64 x.1.a, .int .i64 x.1.q]
/-- An element of the map is told as itself. -/
def mpR (v : Value) : Option (DataW Value × List MemPlace) := some (.held v, [])
/-- No two in one cell. -/
def ApartA (kv : List (KpD × Value × Value × Value)) : Prop := kv.Pairwise (fun x y => x.1.a ≠ y.1.a)
/-- The map holds just these, each at its cell. -/
def MapIs (D : DataW Value) (kv : List (KpD × Value × Value × Value)) : Prop := (∀ a : Int, Maps.has D (.int .i64 a) = true ↔ ∃ x ∈ kv, x.1.a = a) ∧ ∀ x ∈ kv, ∀ z, D.atKey (.int .i64 x.1.a) z = .held (kpX x)
theorem lit_ne {a b : Int} (h : a ≠ b) : (Lit.int .i64 a) ≠ Lit.int .i64 b := fun e => h (by injection e)
theorem MapIs.nil : MapIs (.map []) [] := ⟨fun a => by simp [Maps.has], fun x hx => by simp at hx⟩
theorem has_put_int {D : DataW Value} (hD : Maps.IsMap D) (a b : Int) (d : DataW Value) : Maps.has (D.put (.int .i64 b) d) (.int .i64 a) = (decide (a = b) || Maps.has D (.int .i64 a)) := by
  by_cases h : a = b
  · subst h
    rw [Maps.has_put_same hD (show WideAt.IsKeyLit (.int .i64 _) from trivial)]
    simp
  · rw [Maps.has_put_other (lit_ne h), decide_eq_false h]
    rfl
/-- One more at a cell that is free. -/
theorem MapIs.put {D : DataW Value} {kv : List (KpD × Value × Value × Value)} (h : MapIs D kv) (hD : Maps.IsMap D) (y : KpD × Value × Value × Value) (hy : ∀ x ∈ kv, x.1.a ≠ y.1.a) : MapIs (D.put (.int .i64 y.1.a) (.held (kpX y))) (kv ++ [y]) := by
  refine ⟨fun a => ?_, fun x hx z => ?_⟩
  · rw [has_put_int hD, Bool.or_eq_true, decide_eq_true_iff, h.1 a]
    constructor
    · rintro (rfl | ⟨x, hx, e⟩)
      · exact ⟨y, by simp, rfl⟩
      · exact ⟨x, by simp [hx], e⟩
    · rintro ⟨x, hx, e⟩
      rcases List.mem_append.1 hx with hx | hx
      · exact .inr ⟨x, hx, e⟩
      · rw [List.mem_singleton.1 hx] at e
        exact .inl e.symm
  · rcases List.mem_append.1 hx with hx | hx
    · rw [Maps.atKey_put_other (lit_ne (hy x hx))]
      exact h.2 x hx z
    · rw [List.mem_singleton.1 hx]
      exact Maps.atKey_put_same hD (show WideAt.IsKeyLit (.int .i64 _) from trivial) _ _
/-- What a map tells of how many there are. -/
structure MapN (D : DataW Value) (kv : List (KpD × Value × Value × Value)) : Prop where
  tidy : Maps.Tidy D
  has : ∀ a : Int, Maps.has D (.int .i64 a) = true ↔ ∃ x ∈ kv, x.1.a = a
  le : Maps.size D ≤ kv.length
  eq : Maps.size D = kv.length ↔ ApartA kv
  is : ApartA kv → MapIs D kv
theorem MapN.nil : MapN (.map []) [] := ⟨Maps.tidy_empty, MapIs.nil.1, Nat.le_refl _, ⟨fun _ => List.Pairwise.nil, fun _ => rfl⟩, fun _ => MapIs.nil⟩
theorem apart_snoc {kv : List (KpD × Value × Value × Value)} {y : KpD × Value × Value × Value} : ApartA (kv ++ [y]) ↔ ApartA kv ∧ ∀ x ∈ kv, x.1.a ≠ y.1.a := by
  unfold ApartA
  rw [List.pairwise_append]
  simp
theorem MapN.put {D : DataW Value} {kv : List (KpD × Value × Value × Value)} (h : MapN D kv) (y : KpD × Value × Value × Value) : MapN (D.put (.int .i64 y.1.a) (.held (kpX y))) (kv ++ [y]) := by
  have hD := h.tidy.isMap
  have hs := Maps.size_put (k := .int .i64 y.1.a) h.tidy (.held (kpX y))
  have hle := h.le
  refine ⟨h.tidy.put (show WideAt.IsKeyLit (.int .i64 _) from trivial) _, fun a => ?_, ?_, ?_, fun ha => ?_⟩
  · rw [has_put_int hD, Bool.or_eq_true, decide_eq_true_iff, h.has a]
    constructor
    · rintro (rfl | ⟨x, hx, e⟩)
      · exact ⟨y, by simp, rfl⟩
      · exact ⟨x, by simp [hx], e⟩
    · rintro ⟨x, hx, e⟩
      rcases List.mem_append.1 hx with hx | hx
      · exact .inr ⟨x, hx, e⟩
      · rw [List.mem_singleton.1 hx] at e
        exact .inl e.symm
  · rw [hs, List.length_append, List.length_singleton]
    split <;> omega
  · rw [hs, List.length_append, List.length_singleton, apart_snoc, ← h.eq]
    by_cases e : Maps.has D (.int .i64 y.1.a) = true
    · rw [if_pos e]
      obtain ⟨x, hx, ex⟩ := (h.has _).1 e
      constructor
      · intro h1; omega
      · rintro ⟨_, h2⟩; exact absurd ex (h2 x hx)
    · rw [if_neg e]
      constructor
      · intro h1; exact ⟨by omega, fun x hx ex => e ((h.has _).2 ⟨x, hx, ex⟩)⟩
      · rintro ⟨h1, _⟩; omega
  · obtain ⟨h1, h2⟩ := apart_snoc.1 ha
    exact (h.is h1).put hD y h2
theorem run_makeMap_hint {P : Program} {t k e : TypeId} (hu : P.underlying t = some (.map k e)) (n : Int) (w : World) : (Instr.makeMap t (some (.int .i64 n))).run P w = .ok (.map (some w.heap.size)) (w.alloc (.map #[] 0)) := by
  simp [Instr.makeMap, run_underlying hu, asInt, asIntOf, Result.andThen]
theorem map_below {P : Program} {k : TypeId} {R : Value → Option (DataW Value × List MemPlace)} {w w' : World} {b n : Nat} {D : DataW Value} (h : w.ownsMap P k R b n D) (hb : Below w.heap.size w w') : w'.ownsMap P k R b n D := by
  have hlt := h.lt
  obtain ⟨es, clock, h1, h2⟩ := h
  exact ⟨es, clock, (hb.block b hlt).trans h1, h2⟩
theorem map_ne {P : Program} {k : TypeId} {R : Value → Option (DataW Value × List MemPlace)} {w : World} {b n q : Nat} {D : DataW Value} {cs : Array Value} {T : TypeId} {fr : Nat × Nat} (h : w.ownsMap P k R b n D) (hq : w.heap[q]? = some (.cells cs T fr)) : b ≠ q := by
  obtain ⟨es, clock, h1, _⟩ := h
  intro e
  subst e
  rw [h1] at hq
  cases hq
theorem map_blk {P : Program} {k : TypeId} {R : Value → Option (DataW Value × List MemPlace)} {w w' : World} {b n q : Nat} {D : DataW Value} {cs : Array Value} {T : TypeId} {fr : Nat × Nat} (h : w.ownsMap P k R b n D) (hq : w.heap[q]? = some (.cells cs T fr)) (hg : w.grownBy w' (some b)) : w'.heap[q]? = some (.cells cs T fr) :=
  (hg.block q (Array.getElem?_eq_some_iff.1 hq).1 (fun e => map_ne h hq (Option.some.inj e).symm)).trans hq
theorem row_blk {w : World} {base : Nat} {T : TypeId} {z n : Nat} {v : Value} {c : List Value} (h : w.ownsRow base T z v n c) {g : Nat} (hg : v.ownBlock = some g) : ∃ cs fr, w.heap[g]? = some (.cells cs T fr) := by
  rcases h.2 with ⟨e, _⟩ | ⟨g', cap, cur, e, _, h1, _⟩
  · rw [e] at hg; cases hg
  · rw [e] at hg
    have e2 : some g' = some g := hg
    rw [← Option.some.inj e2]
    exact ⟨_, _, h1⟩
/-- The keys' type. -/
theorem keyInt : Maps.Keyed Tryz.prog 3 := Maps.int_keyed Tryz.underlying3
theorem key_wf {a : Int} (h0 : 0 ≤ a) (h1 : a ≤ 1000) : keyOf Tryz.prog 3 (.int .i64 a) = some (.int .i64 a) := Maps.keyOf_int_mk Tryz.underlying3 (WalkArith.wf_i64 (by omega))
/-- A map of what is known, in a block of one's own. -/
def KnownO (w : World) (b n : Nat) (D : DataW Value) : Prop := w.ownsMap Tryz.prog 3 mpR b n D
/-- A call answers a map of its own that holds these. -/
def KnownIs (kv : List (KpD × Value × Value × Value)) (w : World) (e : Ending) (w' : World) : Prop := ∃ (b n : Nat) (D : DataW Value), e = .returned (.map (some b)) ∧ n ≤ kv.length ∧ KnownO w' b n D ∧ MapN D kv ∧ w.heap.size ≤ b ∧ Below w.heap.size w w'

end Go.Proofs.YtcipbkkpkhameaaGreat

namespace Go.Proofs.YtcipbkkpkhameaaGreat
open Go.RowKit
open Go.Lib hiding intOf

/-- Texts as an array's cells. -/
def cellsA (l : List ByteArray) : Array Value := (l.map Value.string).toArray
/-- Twenty empty texts. -/
def noneA : List ByteArray := List.replicate 20 ⟨#[]⟩
/-- The cells with one written. -/
def withP (l : List ByteArray) (x : Int) (t : ByteArray) : List ByteArray := if 0 ≤ x ∧ x < 20 then l.set x.toNat t else l
/-- A call answers an array of texts. -/
def ArrIs (l : List ByteArray) (w : World) (e : Ending) (w' : World) : Prop := e = .returned (.agg (cellsA l)) ∧ Below w.heap.size w w'
theorem cellsA_size (l : List ByteArray) : (cellsA l).size = l.length := by simp [cellsA]
theorem cellsA_at (l : List ByteArray) (i : Nat) (h : i < l.length) : (cellsA l)[i]? = some (.string (textAt l i)) := by
  unfold cellsA
  rw [List.getElem?_toArray, List.getElem?_map, getElem_textAt l i h]
  rfl
theorem cellsA_set (l : List ByteArray) (i : Nat) (t : ByteArray) : (cellsA l).setIfInBounds i (.string t) = cellsA (l.set i t) := by
  unfold cellsA
  rw [List.setIfInBounds_toArray, List.map_set]
theorem noneA_len : noneA.length = 20 := rfl
theorem noneA_cells : cellsA noneA = #[.string ⟨#[]⟩, .string ⟨#[]⟩, .string ⟨#[]⟩, .string ⟨#[]⟩, .string ⟨#[]⟩, .string ⟨#[]⟩, .string ⟨#[]⟩, .string ⟨#[]⟩, .string ⟨#[]⟩, .string ⟨#[]⟩, .string ⟨#[]⟩, .string ⟨#[]⟩, .string ⟨#[]⟩, .string ⟨#[]⟩, .string ⟨#[]⟩, .string ⟨#[]⟩, .string ⟨#[]⟩, .string ⟨#[]⟩, .string ⟨#[]⟩, .string ⟨#[]⟩] := rfl
theorem withP_len (l : List ByteArray) (x : Int) (t : ByteArray) : (withP l x t).length = l.length := by
  unfold withP
  split
  · exact List.length_set
  · rfl
theorem infoA {l : List ByteArray} (h : l.length = 20) : (Tryz.prog.info? 153).map (·.size) = some (cellsA l).size := by
  rw [cellsA_size, h]
  kernel_rfl
theorem cellsA_one (l : List ByteArray) : (cellsA l).all (·.oneCell') = true := by
  unfold cellsA
  rw [List.all_toArray, List.all_eq_true]
  intro v hv
  obtain ⟨a, _, rfl⟩ := List.mem_map.1 hv
  rfl
theorem below_setRow {B : Nat} {a w : World} (h : Below B a w) (g : Nat) (cs : Array Value) (hg : B ≤ g) : Below B a (w.setRow g cs) :=
  h.trans ⟨rfl, rfl, rfl, by simp, fun k hk => setRow_other w g k cs (by omega)⟩
theorem new1 {w : World} {A B C : Obj} : (((w.alloc A).alloc B).alloc C).heap[w.heap.size]? = some A := blk_alloc (blk_alloc (heap_alloc_new w A) B) C
theorem new2 {w : World} {A B C : Obj} : (((w.alloc A).alloc B).alloc C).heap[w.heap.size + 1]? = some B := blk_alloc (heap_alloc2_new w A B) C
theorem new3 {w : World} {A B C : Obj} : (((w.alloc A).alloc B).alloc C).heap[w.heap.size + 1 + 1]? = some C := by
  have h := heap_alloc_new ((w.alloc A).alloc B) C
  have e : ((w.alloc A).alloc B).heap.size = w.heap.size + 1 + 1 := by simp
  rwa [e] at h
theorem new_below {w : World} {A B C : Obj} : Below w.heap.size w (((w.alloc A).alloc B).alloc C) :=
  (((Below.refl _ _).alloc (Nat.le_refl _) _).alloc (by simp) _).alloc (by simp; omega) _

set_option maxHeartbeats 4000000 in
theorem with_any (l : List ByteArray) (hl : l.length = 20) (x : Int) (t : ByteArray) (w : World) :
    Calls Tryz.prog 106 #[.agg (cellsA l), .agg #[.int .i64 x, .string t]] w fun e w' => ArrIs (withP l x t) w e w' := by
  have HL : Hid (l.length = 20) := hl
  have HLW : Hid ((withP l x t).length = 20) := (withP_len l x t).trans hl
  clear hl
  go_enter Tryz.func106, Tryz.ntmps106
  go_upto_region 1 with fail
  obtain ⟨w3, hw3⟩ : ∃ W, W = ((w.alloc (.cells (cellsA l) 153)).alloc (.cells #[.int .i64 x, .string t] 110)).alloc (.cells #[.string ⟨#[]⟩, .string ⟨#[]⟩, .string ⟨#[]⟩, .string ⟨#[]⟩, .string ⟨#[]⟩, .string ⟨#[]⟩, .string ⟨#[]⟩, .string ⟨#[]⟩, .string ⟨#[]⟩, .string ⟨#[]⟩, .string ⟨#[]⟩, .string ⟨#[]⟩, .string ⟨#[]⟩, .string ⟨#[]⟩, .string ⟨#[]⟩, .string ⟨#[]⟩, .string ⟨#[]⟩, .string ⟨#[]⟩, .string ⟨#[]⟩, .string ⟨#[]⟩] 153) := ⟨_, rfl⟩
  rw [← hw3]
  have HBW : Hid (Below w.heap.size w w3) := by rw [hw3]; exact new_below
  have hA : w3.heap[w.heap.size]? = some (.cells (cellsA l) 153) := by rw [hw3]; exact new1
  have hB : w3.heap[w.heap.size + 1]? = some (.cells #[.int .i64 x, .string t] 110) := by rw [hw3]; exact new2
  have hC : w3.heap[w.heap.size + 1 + 1]? = some (.cells (cellsA noneA) 153) := by rw [hw3]; exact new3
  obtain ⟨q, hq⟩ : ∃ q, q = w.heap.size := ⟨_, rfl⟩
  have HQ : Hid (w.heap.size ≤ q) := by rw [hq]; exact Nat.le_refl _
  rw [← hq] at hA hB hC
  rw [← hq]
  have HA : Hid (w3.heap[q]? = some (.cells (cellsA l) 153)) := hA
  have HC : Hid (w3.heap[q + 1 + 1]? = some (.cells (cellsA noneA) 153)) := hC
  have c0 := (cell_of hB 0)
  have c1 := (cell_of hB 1)
  simp only [List.getElem?_toArray, List.getElem?_cons_zero, List.getElem?_cons_succ] at c0 c1
  clear hw3 hA hB hC hq
  by_cases h0 : 0 ≤ x
  · by_cases h1 : x < 20
    · have HE : Hid (withP l x t = l.set x.toNat t) := by unfold withP; rw [Hid, if_pos ⟨h0, h1⟩]
      have c2 : w3.cell? ⟨q, x.toNat, none⟩ = some (.string (textAt l x.toNat)) := (cell_of HA.out _).trans (cellsA_at l _ (by rw [HL.out]; omega))
      have c3 := frozen_of HA.out x.toNat
      go_upto_region 3 with fail
      obtain ⟨w4, hw4⟩ : ∃ W, W = w3.setCell ⟨q, x.toNat, none⟩ (.string t) := ⟨_, rfl⟩
      rw [← hw4]
      have HA4 : Hid (w4.heap[q]? = some (.cells (cellsA (withP l x t)) 153)) := by
        rw [Hid, hw4, HE.out, ← cellsA_set]
        exact heap_setCell_same w3 q _ _ 153 _ HA.out
      have HC4 : Hid (w4.heap[q + 1 + 1]? = some (.cells (cellsA noneA) 153)) := by
        rw [Hid, hw4, heap_setCell_other w3 _ _ _ (by simp; omega)]
        exact HC.out
      have HB4 : Hid (Below w.heap.size w w4) := by rw [hw4]; exact HBW.out.setCell HQ.out _
      clear hw4 HA HC HBW c0 c1 c2 c3 h0 h1
      go_wp2_with (first | refine wpList_load_row rfl 153 _ rfl q rfl 153 _ (0, 0) _ HA4.out Tryz.underlying153 rfl (infoA HLW.out) ?_ | refine wpList_store_row rfl 153 _ _ rfl (q + 1 + 1) _ rfl rfl 153 _ HC4.out (infoA HLW.out) (by rw [cellsA_size, cellsA_size, HLW.out, noneA_len]) (cellsA_one _) ?_)
      exact bodyPost_ret (v := .agg (cellsA (withP l x t))) (results_cell_row Tryz.results106 _ _ (q + 1 + 1) 153 _ (0, 0) _ rfl (setRow_heap _ _ _ _ _ _ HC4.out) Tryz.underlying153 rfl (infoA HLW.out)) rfl ⟨rfl, below_setRow HB4.out _ _ (Nat.le_trans HQ.out (by omega))⟩
    · have HE : Hid (withP l x t = l) := by unfold withP; rw [Hid, if_neg (fun h => h1 h.2)]
      go_upto_region 3 with fail
      clear c0 c1 h0 h1
      rw [← HE.out] at HA
      go_wp2_with (first | refine wpList_load_row rfl 153 _ rfl q rfl 153 _ (0, 0) _ HA.out Tryz.underlying153 rfl (infoA HLW.out) ?_ | refine wpList_store_row rfl 153 _ _ rfl (q + 1 + 1) _ rfl rfl 153 _ HC.out (infoA HLW.out) (by rw [cellsA_size, cellsA_size, HLW.out, noneA_len]) (cellsA_one _) ?_)
      exact bodyPost_ret (v := .agg (cellsA (withP l x t))) (results_cell_row Tryz.results106 _ _ (q + 1 + 1) 153 _ (0, 0) _ rfl (setRow_heap _ _ _ _ _ _ HC.out) Tryz.underlying153 rfl (infoA HLW.out)) rfl ⟨rfl, below_setRow HBW.out _ _ (Nat.le_trans HQ.out (by omega))⟩
  · have HE : Hid (withP l x t = l) := by unfold withP; rw [Hid, if_neg (fun h => h0 h.1)]
    go_upto_region 3 with fail
    clear c0 c1 h0
    rw [← HE.out] at HA
    go_wp2_with (first | refine wpList_load_row rfl 153 _ rfl q rfl 153 _ (0, 0) _ HA.out Tryz.underlying153 rfl (infoA HLW.out) ?_ | refine wpList_store_row rfl 153 _ _ rfl (q + 1 + 1) _ rfl rfl 153 _ HC.out (infoA HLW.out) (by rw [cellsA_size, cellsA_size, HLW.out, noneA_len]) (cellsA_one _) ?_)
    exact bodyPost_ret (v := .agg (cellsA (withP l x t))) (results_cell_row Tryz.results106 _ _ (q + 1 + 1) 153 _ (0, 0) _ rfl (setRow_heap _ _ _ _ _ _ HC.out) Tryz.underlying153 rfl (infoA HLW.out)) rfl ⟨rfl, below_setRow HBW.out _ _ (Nat.le_trans HQ.out (by omega))⟩

end Go.Proofs.YtcipbkkpkhameaaGreat

namespace Go.Proofs.YtcipbkkpkhameaaGreat
open Go.RowKit
open Go.Lib hiding intOf

/-- Every write is to a cell. -/
def AllIn (ws : List (Int × ByteArray)) : Prop := ∀ x ∈ ws, 0 ≤ x.1 ∧ x.1 ≤ 19
theorem guardA : Tryz.prog.eqGuardType Tryz.prog.depth 153 = false := by kernel_rfl
theorem equalA (xs ys : List ByteArray) (hx : xs.length = 20) (hy : ys.length = 20) (w : World) :
    (Op.equalIn 10000 153 (.agg (cellsA xs)) (.agg (cellsA ys))).run Tryz.prog w = .ok ((List.range' 0 20 1).all (fun i => (textAt xs i).toList == (textAt ys i).toList)) w := by
  rw [show (10000 : Nat) = 9999 + 1 from rfl, Op.equalIn]
  simp only [Sem.run_bind, run_underlying Tryz.underlying153, Result.andThen_ok, Tryz.sizeOf9, Std.Legacy.Range.forIn_eq_forIn_range', Std.Legacy.Range.size, Nat.sub_zero, Nat.add_sub_cancel, Nat.div_one]
  have hl : ∀ i ∈ List.range' 0 20 1, i < 20 := fun i hi => by simpa using (List.mem_range'_1.1 hi).2
  generalize List.range' 0 20 1 = l at hl ⊢
  induction l with
  | nil => simp
  | cons i l ih =>
    have hi : i < 20 := hl i (by simp)
    have px : ∀ zs : List ByteArray, zs.length = 20 → (part 9 (cellsA zs) (i * 1)).run Tryz.prog w = .ok (.string (textAt zs i)) w := fun zs hz => by
      simp [part, Tryz.isAgg9, cellsA_at zs i (by omega)]
    have pe : (Op.equalIn 9999 9 (.string (textAt xs i)) (.string (textAt ys i))).run Tryz.prog w = .ok ((textAt xs i).toList == (textAt ys i).toList) w := run_equalIn_string w 9998 9 _ _ Tryz.underlying9
    simp only [List.forIn_cons, Sem.run_bind, px xs hx, px ys hy, pe, Result.andThen_ok, List.all_cons]
    cases hb : ((textAt xs i).toList == (textAt ys i).toList)
    · simp
    · simp only [Bool.not_true, Bool.false_eq_true, if_false, Sem.run_pure, Result.andThen_ok, Bool.true_and]
      exact ih fun j hj => hl j (by simp [hj])
theorem neqA (xs ys : List ByteArray) (hx : xs.length = 20) (hy : ys.length = 20) (w : World) :
    (binOp .neq 153 (.agg (cellsA xs)) (.agg (cellsA ys))).run Tryz.prog w = .ok (.bool (!((List.range' 0 20 1).all (fun i => (textAt xs i).toList == (textAt ys i).toList)))) w := by
  rw [run_neq_struct, equalA xs ys hx hy]
  rfl
theorem neq_in (x : Int) (h : 0 ≤ x ∧ x ≤ 19) (w : World) : (binOp .neq 153 (.agg (cellsA (withP noneA x ⟨#[120]⟩))) (.agg #[.string ⟨#[]⟩, .string ⟨#[]⟩, .string ⟨#[]⟩, .string ⟨#[]⟩, .string ⟨#[]⟩, .string ⟨#[]⟩, .string ⟨#[]⟩, .string ⟨#[]⟩, .string ⟨#[]⟩, .string ⟨#[]⟩, .string ⟨#[]⟩, .string ⟨#[]⟩, .string ⟨#[]⟩, .string ⟨#[]⟩, .string ⟨#[]⟩, .string ⟨#[]⟩, .string ⟨#[]⟩, .string ⟨#[]⟩, .string ⟨#[]⟩, .string ⟨#[]⟩])).run Tryz.prog w = .ok (.bool true) w := by
  have h1 := neqA (withP noneA x ⟨#[120]⟩) noneA (withP_len _ _ _) rfl w
  rw [noneA_cells] at h1
  rw [h1]
  have h2 : textAt (withP noneA x ⟨#[120]⟩) x.toNat = ⟨#[120]⟩ := by
    unfold withP
    rw [if_pos ⟨h.1, by omega⟩, textAt_set, if_pos ⟨rfl, by rw [noneA_len]; omega⟩]
  have h3 : textAt noneA x.toNat = ⟨#[]⟩ := by
    unfold textAt noneA
    rw [List.getD_eq_getElem?_getD, List.getElem?_replicate, if_pos (by omega)]
    rfl
  have h4 : ((List.range' 0 20 1).all (fun i => (textAt (withP noneA x ⟨#[120]⟩) i).toList == (textAt noneA i).toList)) = false := by
    rw [List.all_eq_false]
    refine ⟨x.toNat, List.mem_range'_1.2 ⟨by omega, by omega⟩, ?_⟩
    rw [h2, h3, ← beq_toListBytes]
    decide
  rw [h4]
  rfl
theorem neq_out (x : Int) (h : ¬ (0 ≤ x ∧ x ≤ 19)) (w : World) : (binOp .neq 153 (.agg (cellsA (withP noneA x ⟨#[120]⟩))) (.agg #[.string ⟨#[]⟩, .string ⟨#[]⟩, .string ⟨#[]⟩, .string ⟨#[]⟩, .string ⟨#[]⟩, .string ⟨#[]⟩, .string ⟨#[]⟩, .string ⟨#[]⟩, .string ⟨#[]⟩, .string ⟨#[]⟩, .string ⟨#[]⟩, .string ⟨#[]⟩, .string ⟨#[]⟩, .string ⟨#[]⟩, .string ⟨#[]⟩, .string ⟨#[]⟩, .string ⟨#[]⟩, .string ⟨#[]⟩, .string ⟨#[]⟩, .string ⟨#[]⟩])).run Tryz.prog w = .ok (.bool false) w := by
  have e : withP noneA x ⟨#[120]⟩ = noneA := by unfold withP; rw [if_neg (fun h2 => h ⟨h2.1, by omega⟩)]
  have h1 := neqA noneA noneA rfl rfl w
  rw [e]
  rw [noneA_cells] at h1 ⊢
  rw [h1]
  have h4 : ((List.range' 0 20 1).all (fun i => (textAt noneA i).toList == (textAt noneA i).toList)) = true := by
    rw [List.all_eq_true]
    exact fun i _ => by simp
  rw [h4]
  rfl

set_option maxHeartbeats 4000000 in
theorem isCell_any (x : Int) (w : World) :
    Calls Tryz.prog 73 #[.int .i64 x] w fun e w' => BoolIs (0 ≤ x ∧ x ≤ 19) w e w' := by
  have hgb := guardA
  by_cases h : 0 ≤ x ∧ x ≤ 19
  · have hqe := neq_in x h
    have HH : Hid (0 ≤ x ∧ x ≤ 19) := h
    clear h
    go_enter Tryz.func73, Tryz.ntmps73
    go_wp2_with fail
    refine (with_any noneA rfl x ⟨#[120]⟩ _).mono ?_
    rintro e w1 ⟨rfl, bw⟩
    have HBW : Hid (Below w.heap.size w w1) := bw
    clear bw
    go_wp2_with fail
    go_ret
    exact ⟨true, rfl, ⟨fun _ => HH.out, fun _ => rfl⟩, HBW.out⟩
  · have hqe := neq_out x h
    have HH : Hid (¬ (0 ≤ x ∧ x ≤ 19)) := h
    clear h
    go_enter Tryz.func73, Tryz.ntmps73
    go_wp2_with fail
    refine (with_any noneA rfl x ⟨#[120]⟩ _).mono ?_
    rintro e w1 ⟨rfl, bw⟩
    have HBW : Hid (Below w.heap.size w w1) := bw
    clear bw
    go_wp2_with fail
    go_ret
    exact BoolIs.no HH.out HBW.out

set_option maxHeartbeats 4000000 in
theorem allToCells_any (o : Option Addr) (n c : Nat) (ws : List (Int × ByteArray)) (w : World) (h : WriteA w o n ws) (hn : n ≤ 2000000) :
    Calls Tryz.prog 72 #[.slice o n c] w fun e w' => BoolIs (AllIn ws) w e w' := by
  have HW : Hid (WriteA w o n ws) := h
  clear h
  go_enter Tryz.func72, Tryz.ntmps72
  go_wp2_with fail
  go_loopw [7] (fun i wr => ∃ j : Nat, j ≤ n ∧ i = .int .i64 (j : Int) ∧ Hid (Below w.heap.size w wr) ∧ Hid (∀ x ∈ ws.take j, 0 ≤ x.1 ∧ x.1 ≤ 19)) (fun i _ => n - (intOf i).toNat)
  case atStart => exact ⟨0, Nat.zero_le _, rfl, Below.refl _ _, fun x hx => by simp at hx⟩
  case round =>
    obtain ⟨j, hj, rfl, HB, HN⟩ := hrel
    by_cases hlt : (j : Int) < (n : Int)
    · have hjx : j < ws.length := by rw [HW.out.1]; omega
      obtain ⟨g, rfl, hg, r0, r1⟩ := (HW.out.below HB.out).2 j (by omega)
      obtain ⟨y, hy⟩ : ∃ y, y = writeAt ws j := ⟨_, rfl⟩
      have HM : Hid (y ∈ ws) := by show _ ∈ _; rw [hy]; exact writeAt_mem ws j hjx
      have HTK : Hid (ws.take (j + 1) = ws.take j ++ [y]) := by show _ = _; rw [hy]; exact take_writeAt ws j hjx
      rw [← hy] at r0 r1
      obtain ⟨y0, y1⟩ := y
      simp only at r0 r1
      clear hy hjx
      go_wp2_with fail
      refine (isCell_any y0 _).mono ?_
      rintro e w4 ⟨b, rfl, hb, bw⟩
      have HBW : Hid (Below w.heap.size w w4) := (HB.out.alloc HB.out.size _).trans (bw.mono (Nat.le_trans HB.out.size (by simp)))
      clear bw r0 r1
      cases b with
      | true =>
        have HY : Hid (0 ≤ y0 ∧ y0 ≤ 19) := hb.1 rfl
        clear hb
        go_wp2_with fail
        go_roundw
        case rel =>
          refine ⟨j + 1, by omega, by go_num, HBW, fun x hx => ?_⟩
          rw [HTK.out] at hx
          rcases List.mem_append.1 hx with hx | hx
          · exact HN.out x hx
          · rw [List.mem_singleton.1 hx]; exact HY.out
        case measure => simp [intOf]; omega
      | false =>
        have HY : Hid (¬ (0 ≤ y0 ∧ y0 ≤ 19)) := fun h => nomatch hb.2 h
        clear hb
        go_wp2_with fail
        go_ret
        exact BoolIs.no (fun h => HY.out (h _ HM.out)) HBW.out
    · have HAL : Hid (AllIn ws) := fun x hx => HN.out x (by rw [List.take_of_length_le (by rw [HW.out.1]; omega)]; exact hx)
      clear HN
      go_wp2_with fail
      go_ret
      exact ⟨true, rfl, ⟨fun _ => HAL.out, fun _ => rfl⟩, HB.out⟩

set_option maxHeartbeats 4000000 in
theorem copiedTexts_any (o : Option Addr) (n c : Nat) (xs : List ByteArray) (w : World) (h : TextsA w o n xs) (hn : n ≤ 2000000) (hz : ∀ i, i < n → (textAt xs i).size ≤ 1048576) :
    Calls Tryz.prog 91 #[.slice o n c] w fun e w' => ∃ v, e = .returned v ∧ w'.ownsRow w.heap.size 9 1 v n (xs.map Value.string) ∧ Below w.heap.size w w' := by
  obtain ⟨i0, hi, hz0, hz1, hz2⟩ := info_parts info9
  obtain ⟨M, hM⟩ : ∃ M, M = madeCells (Value.string ⟨#[]⟩).cells (((n : Nat) : Int).toNat * i0.size) := ⟨_, rfl⟩
  have hmk : ∀ W : World, (Instr.makeSlice 22 (.int .i64 (n : Int)) (.int .i64 (n : Int))).run Tryz.prog W = .ok (.slice (some ⟨W.heap.size, 0, none⟩) n n) (W.alloc (.cells M 9)) := fun W => by
    have h := run_make (P := Tryz.prog) W 22 9 i0 (Value.string ⟨#[]⟩) Tryz.underlying22 hi hz0 .i64 .i64 (n : Int) (n : Int) (by omega) (by omega) (by rw [hz2]; omega) (by omega)
    rw [← hM] at h
    simpa using h
  have hMs : M.size = n := by rw [hM, size_madeCells, hz1]; simp
  have HA : Hid (TextsA w o n xs) := h
  have HZ : Hid (∀ i, i < n → (textAt xs i).size ≤ 1048576) := hz
  have HLEN : Hid (xs.length = n) := h.1
  clear hM h hz
  have HP : Hid (PartT (w.alloc (.cells M 9)) w.heap.size n 0 xs) := ⟨M, heap_alloc_new w _, hMs, fun i h => absurd h (by omega)⟩
  go_enter Tryz.func91, Tryz.ntmps91
  go_wp2_with fail
  go_loopw [11] (fun i wr => ∃ k : Nat, k ≤ n ∧ i = .int .i64 (k : Int) ∧ Hid (PartT wr w.heap.size n k xs) ∧ Hid (Below w.heap.size w wr)) (fun i _ => n - (intOf i).toNat)
  case atStart => exact ⟨0, Nat.zero_le _, rfl, HP, (Below.refl _ _).alloc (Nat.le_refl _) _⟩
  case round =>
    obtain ⟨k, hk, rfl, hpr, hbw⟩ := hrel
    by_cases hlt : k < n
    · have hlt2 : (k : Int) < (n : Int) := by omega
      obtain ⟨g, rfl, hg, r0⟩ := (HA.out.below hbw.out).2 k hlt
      obtain ⟨z, hzz⟩ : ∃ z, z = textAt xs k := ⟨_, rfl⟩
      have HZ1 : Hid (z.size ≤ 281474976710656) := by rw [Hid, hzz]; have := HZ.out k hlt; omega
      have HZE : Hid (textAt xs k = z) := hzz.symm
      rw [← hzz] at r0
      clear hzz
      go_wp2_with fail
      refine (clone_any z _ HZ1.out).mono ?_
      rintro e w1 ⟨rfl, bw⟩
      have hp1 : PartT w1 w.heap.size n k xs := by
        obtain ⟨cur, h1, h2, h3⟩ := hpr.out
        exact ⟨cur, blk_below h1 bw, h2, h3⟩
      have HB2 : Hid (Below w.heap.size w w1) := hbw.out.trans (bw.mono hbw.out.size)
      have hput := hp1.put hlt
      rw [HZE.out] at hput
      have HPUT : Hid (PartT (w1.setCell ⟨w.heap.size, k, none⟩ (.string z)) w.heap.size n (k + 1) xs) := hput
      obtain ⟨u0, hu0, f0⟩ : ∃ u, w1.cell? ⟨w.heap.size, k, none⟩ = some u ∧ w1.frozen? ⟨w.heap.size, k, none⟩ = false := by
        obtain ⟨cur, h1, h2, _⟩ := hp1
        refine ⟨cur[k]'(by omega), ?_, by simp [World.frozen?, h1]⟩
        simp only [World.cell?, h1]
        simp [show k < cur.size by omega]
      clear bw hp1 hput r0
      go_wp2_with fail
      go_roundw
      case rel => exact ⟨k + 1, by omega, by go_num, HPUT, HB2.out.setCell (Nat.le_refl _) _⟩
      case measure => simp [intOf]; omega
    · obtain rfl : k = n := by omega
      go_wp2_with fail
      go_ret
      exact ⟨_, rfl, (hpr.out.row HLEN.out (Nat.le_refl _) (by unfold maxLen; omega)).owns, hbw.out⟩

end Go.Proofs.YtcipbkkpkhameaaGreat
