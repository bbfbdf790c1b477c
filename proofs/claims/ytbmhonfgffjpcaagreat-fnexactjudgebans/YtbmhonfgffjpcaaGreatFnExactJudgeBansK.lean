/- What the proof of FnExactJudgeBans leans on: contracts of the program's and the specification's functions, and plain facts (part 11 of 11). -/
import Derived.Test.YtbmhonfgffjpcaaGreatFnExactJudgeBansJ
set_option maxHeartbeats 16000000
set_option maxRecDepth 100000
namespace Go.Proofs.YtbmhonfgffjpcaaGreat
open Go.RowKit
open Go.Lib hiding intOf
theorem specJudgeBans_any (v1 v2 V VB F E R : Value) (kv : List (KpD × Value × Value × Value)) (fv : List FlV) (ev : List SeV) (rv : List RpV) (c : CaD) (B : Nat) (w : World) (h : CacheO w B v1 v2 V VB F E R kv fv ev rv c) (hz : CaSmall c) :
  Calls Tryz.prog 14 #[.agg #[v1, v2, V, VB, .int .i64 c.s.nx, .int .i64 c.s.sq, F, .int .i64 c.now, E, R]] w fun e w' => BoolIs (JBansP c) w e w' := by
 obtain ⟨o1, c1, rfl⟩ := slice_of_owns h.shelf.disk.cells
 obtain ⟨o2, c2, rfl⟩ := slice_of_owns h.shelf.disk.pend
 obtain ⟨o3, c3, rfl⟩ := h.shelf.kept.len
 obtain ⟨o4, c4, rfl⟩ := slice_of_owns h.shelf.bans
 obtain ⟨o5, c5, rfl⟩ := h.fls.len
 obtain ⟨o6, c6, rfl⟩ := h.ses.len
 obtain ⟨o7, c7, rfl⟩ := h.rps.len
 obtain ⟨n3, hn3⟩ := exq kv.length
 obtain ⟨n4, hn4⟩ := exq (c.s.bl.length)
 obtain ⟨n5, hn5⟩ := exq fv.length
 obtain ⟨n6, hn6⟩ := exq ev.length
 obtain ⟨n7, hn7⟩ := exq rv.length
 rw [← hn3, ← hn4, ← hn5, ← hn6, ← hn7] at h ⊢
 have HLK : Hid (kv.length = n3) := hn3.symm
 have HLB : Hid (c.s.bl.length = n4) := hn4.symm
 have HLF : Hid (fv.length = n5) := hn5.symm
 have HLE : Hid (ev.length = n6) := hn6.symm
 have HLR : Hid (rv.length = n7) := hn7.symm
 have HLC : Hid (c.fl.length = n5 ∧ c.se.length = n6 ∧ c.sn.length = n7 ∧ c.s.ks.length = n3) := ⟨by rw [← h.hf, List.length_map, hn5], by rw [← h.he, List.length_map, hn6], by rw [← h.hr, List.length_map, hn7], by rw [← h.hk, List.length_map, hn3]⟩
 have HFD : Hid (fv.map (·.d) = c.fl) := h.hf
 have HED : Hid (ev.map (·.d) = c.se) := h.he
 have HRD : Hid (rv.map (·.d) = c.sn) := h.hr
 have HKS : Hid (kv.map (·.1) = c.s.ks) := h.hk
 have HZ : Hid (CaSmall c) := hz
 have bn3 : n3 ≤ 1048576 := by rw [← HLC.out.2.2.2]; exact hz.s.k
 have bn4 : n4 ≤ 1048576 := by rw [← HLB.out]; exact hz.s.b
 have bn5 : n5 ≤ 1048576 := by rw [← HLC.out.1]; exact hz.nf
 have bn6 : n6 ≤ 1048576 := by rw [← HLC.out.2.1]; exact hz.ne
 have bn7 : n7 ≤ 1048576 := by rw [← HLC.out.2.2.1]; exact hz.nr
 have HCA : Hid (∀ W, Below w.heap.size w W → CacheO W B (.slice o1 c.s.cs.length c1) (.slice o2 c.s.ws.length c2) (.slice o3 n3 c3) (.slice o4 n4 c4) (.slice o5 n5 c5) (.slice o6 n6 c6) (.slice o7 n7 c7) kv fv ev rv c) := fun W hb => h.below hb
 have HKP : Hid (∀ W, Below w.heap.size w W → KeptsO W B (.slice o3 n3 c3) kv) := fun W hb => (h.below hb).shelf.kept
 have HBN : Hid (∀ W, Below w.heap.size w W → BanA W o4 n4 c.s.bl) := fun W hb => by
  have h1 := (h.below hb).shelf.bans
  rw [HLB.out] at h1
  exact ban_view h1
 have HC4 : Hid (n4 ≤ c4) := by
  have h1 := h.shelf.bans
  rw [HLB.out] at h1
  exact owns_cap h1
 clear hn3 hn4 hn5 hn6 hn7 h hz
 have hb0 : Below w.heap.size w w := Below.refl _ _
 go_enter Tryz.func14, Tryz.ntmps14
 go_upto_region 1 with fail
 obtain ⟨qv1, hqv1⟩ := exq ((w).heap.size)
 obtain ⟨w1, hW1⟩ := exq ((w).alloc (.cells #[.slice o1 c.s.cs.length c1, .slice o2 c.s.ws.length c2, .slice o3 n3 c3, .slice o4 n4 c4, .int .i64 c.s.nx, .int .i64 c.s.sq, .slice o5 n5 c5, .int .i64 c.now, .slice o6 n6 c6, .slice o7 n7 c7] 58))
 have hz1 : (w).heap.size = qv1 := hqv1.symm
 first | rw [← hW1, ← hqv1] | rw [← hW1]
 have hs1 := hsa hW1 hz1
 have bw := bal hW1
 have hb1 := hbt hb0 bw
 have HBv1_1 := hnew hW1 hz1
 clear hb0 bw hW1 hz1
 clear hs1 hqv1
 have cv1_0 := (k10c HBv1_1).1
 have cv1_1 := (k10c HBv1_1).2.1
 have cv1_2 := (k10c HBv1_1).2.2.1
 have cv1_3 := (k10c HBv1_1).2.2.2.1
 have cv1_4 := (k10c HBv1_1).2.2.2.2.1
 have cv1_5 := (k10c HBv1_1).2.2.2.2.2.1
 have cv1_6 := (k10c HBv1_1).2.2.2.2.2.2.1
 have cv1_7 := (k10c HBv1_1).2.2.2.2.2.2.2.1
 have cv1_8 := (k10c HBv1_1).2.2.2.2.2.2.2.2.1
 have cv1_9 := (k10c HBv1_1).2.2.2.2.2.2.2.2.2
 go_wp2_with fail
 refine (specCacheOk_any _ _ _ _ _ _ _ kv fv ev rv c B _ (HCA.out _ hb1) HZ.out).mono ?_
 rintro e w2 ⟨us, rfl, hus, bw⟩
 have hb2 := hbt hb1 bw
 have HBv1_2 := hblk HBv1_1 bw
 clear hb1 HBv1_1 bw
 clear cv1_0 cv1_1 cv1_2 cv1_3 cv1_4 cv1_5 cv1_6 cv1_7 cv1_8 cv1_9
 cases us with
 | false =>
  have HNus : Hid (¬ (CacheP c)) := fun h => nomatch hus.2 h
  clear hus
  go_wp2_with fail
  go_ret
  exact BoolIs.no (fun h => HNus.out h.1) hb2
 | true =>
  have HYus : Hid (CacheP c) := hus.1 rfl
  clear hus
  go_wp2_with fail
  obtain ⟨wA, hwA⟩ := exq w2
  rw [← hwA] at hb2 HBv1_2 ⊢
  clear hwA
  go_loopw [3] (fun i wr => ∃ i' : Nat, i' ≤ n7 ∧ i = .int .i64 (i' : Int) ∧ Hid (Below w.heap.size w (wr) ∧ (wr).heap[qv1]? = some (.cells #[.slice o1 c.s.cs.length c1, .slice o2 c.s.ws.length c2, .slice o3 n3 c3, .slice o4 n4 c4, .int .i64 c.s.nx, .int .i64 c.s.sq, .slice o5 n5 c5, .int .i64 c.now, .slice o6 n6 c6, .slice o7 n7 c7] 58)) ∧ Hid (∀ m, m < i' → (rpAt c.sn m).knd = 1 → UnbanP c (rpAt c.sn m))) (fun i _ => n7 - (intOf i).toNat)
  case atStart => exact ⟨0, Nat.zero_le _, rfl, ⟨hb2, HBv1_2.out⟩, fun m hm => absurd hm (by omega)⟩
  case round =>
   obtain ⟨i, hi, rfl, HW, HN⟩ := hrel
   by_cases hlt : (i : Int) < (n7 : Int)
   ·
    have hb3 := HW.out.1
    have HBv1_3 : Hid ((wr).heap[qv1]? = some (.cells #[.slice o1 c.s.cs.length c1, .slice o2 c.s.ws.length c2, .slice o3 n3 c3, .slice o4 n4 c4, .int .i64 c.s.nx, .int .i64 c.s.sq, .slice o5 n5 c5, .int .i64 c.now, .slice o6 n6 c6, .slice o7 n7 c7] 58)) := HW.out.2
    clear HW hb2 HBv1_2
    obtain ⟨g7, p7, hV, _, _⟩ := (HCA.out _ hb3).rps.look i (by rw [HLR.out]; omega)
    rw [HLR.out] at hV
    injection hV with hV1 hV2 hV3
    subst hV1 hV3
    clear hV2
    obtain ⟨dX, hdX⟩ := exq (rpvAt rv i)
    have HMd : Hid (dX ∈ rv) := by show _ ∈ _; rw [hdX]; exact getD_mem0 _ rv i (by rw [HLR.out]; omega)
    have HEd : Hid (rpAt c.sn i = dX.d) := by show _ = _; rw [hdX, ← HRD.out]; exact getD_map0 _ _ _ rv i (by rw [HLR.out]; omega)
    have HKd : Hid (∀ W, Below w.heap.size w W → RpAt W g7 i dX) := fun W hb => by
     obtain ⟨g', p', hV, _, hc⟩ := (HCA.out W hb).rps.look i (by rw [HLR.out]; omega)
     injection hV with hV1 _ _
     cases hV1
     rw [hdX]
     exact hc
    have HRd : Hid (∀ W, Below w.heap.size w W → RowsO W B (rpR dX)) := fun W hb => (HCA.out W hb).rps.item HMd.out
    have HSd : Hid (RpSmall dX.d) := HZ.out.sn _ (by rw [← HRD.out]; exact List.mem_map.2 ⟨_, HMd.out, rfl⟩)
    clear hdX
    obtain ⟨d, kuv3, kuv6, kuv11, kuv12, kuv14⟩ := dX
    obtain ⟨ku3, kuc3, hu⟩ := slice_of_owns ((HRd.out _ hb3).own (⟨171, 2, kuv3, d.qfs.length, flatF d.qfs⟩ : Rw) (by simp [rpR]))
    obtain rfl : kuv3 = .slice ku3 d.qfs.length kuc3 := hu
    obtain ⟨ku6, kuc6, hu⟩ := slice_of_owns ((HRd.out _ hb3).own (⟨171, 2, kuv6, d.rfs.length, flatF d.rfs⟩ : Rw) (by simp [rpR]))
    obtain rfl : kuv6 = .slice ku6 d.rfs.length kuc6 := hu
    obtain ⟨ku11, kuc11, hu⟩ := slice_of_owns ((HRd.out _ hb3).own (⟨9, 1, kuv11, d.oxs.length, d.oxs.map Value.string⟩ : Rw) (by simp [rpR]))
    obtain rfl : kuv11 = .slice ku11 d.oxs.length kuc11 := hu
    obtain ⟨ku12, kuc12, hu⟩ := slice_of_owns ((HRd.out _ hb3).own (⟨9, 1, kuv12, d.oys.length, d.oys.map Value.string⟩ : Rw) (by simp [rpR]))
    obtain rfl : kuv12 = .slice ku12 d.oys.length kuc12 := hu
    obtain ⟨ku14, kuc14, hu⟩ := slice_of_owns ((HRd.out _ hb3).own (⟨171, 2, kuv14, d.ofs.length, flatF d.ofs⟩ : Rw) (by simp [rpR]))
    obtain rfl : kuv14 = .slice ku14 d.ofs.length kuc14 := hu
    have cv1_9 := (k10c HBv1_3).2.2.2.2.2.2.2.2.2
    have HRGe7 : World.rangeAt (wr) g7 (i * 18) [.int .i64 d.cli, .int .i64 d.qmt, .string d.qpa, .slice ku3 d.qfs.length kuc3, .string d.qbd, .int .i64 d.rst, .slice ku6 d.rfs.length kuc6, .string d.rbd, .int .i64 d.knd, .int .i64 d.tim, .string d.opa, .slice ku11 d.oxs.length kuc11, .slice ku12 d.oys.length kuc12, .int .i64 d.ost, .slice ku14 d.ofs.length kuc14, .string d.obd, .int .i64 d.otm, .int .i64 d.bns] := RpAt.range (HKd.out _ hb3)
    have HIFe7 : (Tryz.prog.info? 68).map (·.size) = some 18 := by kernel_rfl
    have HTHa : World.there ((wr).alloc (.cells #[.int .i64 0, .int .i64 0, .string ⟨#[]⟩, .slice none 0 0, .string ⟨#[]⟩, .int .i64 0, .slice none 0 0, .string ⟨#[]⟩, .int .i64 0, .int .i64 0, .string ⟨#[]⟩, .slice none 0 0, .slice none 0 0, .int .i64 0, .slice none 0 0, .string ⟨#[]⟩, .int .i64 0, .int .i64 0] 68)) (wr).heap.size 0 18 := there_of (heap_alloc_new _ _) rfl
    have HIFa : (Tryz.prog.info? 68).map (·.size) = some 18 := by kernel_rfl
    have HWEa : Hid (((wr).alloc (.cells #[.int .i64 0, .int .i64 0, .string ⟨#[]⟩, .slice none 0 0, .string ⟨#[]⟩, .int .i64 0, .slice none 0 0, .string ⟨#[]⟩, .int .i64 0, .int .i64 0, .string ⟨#[]⟩, .slice none 0 0, .slice none 0 0, .int .i64 0, .slice none 0 0, .string ⟨#[]⟩, .int .i64 0, .int .i64 0] 68)).setCells (wr).heap.size 0 (#[.int .i64 d.cli, .int .i64 d.qmt, .string d.qpa, .slice ku3 d.qfs.length kuc3, .string d.qbd, .int .i64 d.rst, .slice ku6 d.rfs.length kuc6, .string d.rbd, .int .i64 d.knd, .int .i64 d.tim, .string d.opa, .slice ku11 d.oxs.length kuc11, .slice ku12 d.oys.length kuc12, .int .i64 d.ost, .slice ku14 d.ofs.length kuc14, .string d.obd, .int .i64 d.otm, .int .i64 d.bns] : Array Value).toList = (wr).alloc (.cells #[.int .i64 d.cli, .int .i64 d.qmt, .string d.qpa, .slice ku3 d.qfs.length kuc3, .string d.qbd, .int .i64 d.rst, .slice ku6 d.rfs.length kuc6, .string d.rbd, .int .i64 d.knd, .int .i64 d.tim, .string d.opa, .slice ku11 d.oxs.length kuc11, .slice ku12 d.oys.length kuc12, .int .i64 d.ost, .slice ku14 d.ofs.length kuc14, .string d.obd, .int .i64 d.otm, .int .i64 d.bns] 68)) := alloc_whole rfl
    go_upto_region 7 with (first | (refine wpList_load_mid rfl 68 _ rfl g7 (i * 18) rfl [.int .i64 d.cli, .int .i64 d.qmt, .string d.qpa, .slice ku3 d.qfs.length kuc3, .string d.qbd, .int .i64 d.rst, .slice ku6 d.rfs.length kuc6, .string d.rbd, .int .i64 d.knd, .int .i64 d.tim, .string d.opa, .slice ku11 d.oxs.length kuc11, .slice ku12 d.oys.length kuc12, .int .i64 d.ost, .slice ku14 d.ofs.length kuc14, .string d.obd, .int .i64 d.otm, .int .i64 d.bns] _ HRGe7 Tryz.underlying68 rfl HIFe7 ?_) | (refine wpList_store_mid rfl 68 _ _ rfl (wr).heap.size 0 #[.int .i64 d.cli, .int .i64 d.qmt, .string d.qpa, .slice ku3 d.qfs.length kuc3, .string d.qbd, .int .i64 d.rst, .slice ku6 d.rfs.length kuc6, .string d.rbd, .int .i64 d.knd, .int .i64 d.tim, .string d.opa, .slice ku11 d.oxs.length kuc11, .slice ku12 d.oys.length kuc12, .int .i64 d.ost, .slice ku14 d.ofs.length kuc14, .string d.obd, .int .i64 d.otm, .int .i64 d.bns] rfl rfl HTHa HIFa (by simp [Value.oneCell']) ?_; rw [HWEa.out]) | fail)
    clear HTHa HIFa HWEa
    obtain ⟨qv2, hqv2⟩ := exq ((wr).heap.size)
    obtain ⟨w4, hW4⟩ := exq ((wr).alloc (.cells #[.int .i64 d.cli, .int .i64 d.qmt, .string d.qpa, .slice ku3 d.qfs.length kuc3, .string d.qbd, .int .i64 d.rst, .slice ku6 d.rfs.length kuc6, .string d.rbd, .int .i64 d.knd, .int .i64 d.tim, .string d.opa, .slice ku11 d.oxs.length kuc11, .slice ku12 d.oys.length kuc12, .int .i64 d.ost, .slice ku14 d.ofs.length kuc14, .string d.obd, .int .i64 d.otm, .int .i64 d.bns] 68))
    have hz4 : (wr).heap.size = qv2 := hqv2.symm
    first | rw [← hW4, ← hqv2] | rw [← hW4]
    have hs4 := hsa hW4 hz4
    have bw := bal hW4
    have hb4 := hbt hb3 bw
    have HBv1_4 := hblk HBv1_3 bw
    have HBv2_4 := hnew hW4 hz4
    clear hb3 HBv1_3 bw hW4 hz4
    clear hs4 hqv2
    clear cv1_9 HRGe7 HIFe7
    have cv1_3 := (k10c HBv1_4).2.2.2.1
    have cv2_17 : (w4).cell? ⟨qv2, 17, none⟩ = some (.int .i64 d.bns) := (cell_of HBv2_4.out 17).trans rfl
    go_wp2_with fail
    refine (l1Min_any d.bns (n4 : Int) _).mono ?_
    rintro e w5 ⟨rfl, hwe⟩
    have bw : Below (w4).heap.size (w4) w5 := by rw [hwe]; exact Below.refl _ _
    clear hwe
    have hb5 := hbt hb4 bw
    have HM5 := hsz bw
    have HBv1_5 := hblk HBv1_4 bw
    have HBv2_5 := hblk HBv2_4 bw
    clear hb4 HBv1_4 HBv2_4 bw
    clear cv1_3 cv2_17
    go_wp2_with fail
    refine (l1Max_any (min d.bns (n4 : Int)) 0 _).mono ?_
    rintro e w6 ⟨rfl, hwe⟩
    have bw : Below (w5).heap.size (w5) w6 := by rw [hwe]; exact Below.refl _ _
    clear hwe
    obtain ⟨m, hm⟩ := exq (bansN d.bns n4)
    have hmi : max (min d.bns (n4 : Int)) 0 = (m : Int) := by rw [hm]; exact (bansN_spec _ _).symm
    have hm4 : m ≤ n4 := by rw [hm]; exact bansN_le _ _
    have hmc : m ≤ c4 := Nat.le_trans hm4 HC4.out
    have hmc2 : ¬ (c4 < m) := by omega
    rw [hmi]
    have HMN : Hid (m = bansN d.bns c.s.bl.length) := by show _ = _; rw [HLB.out]; exact hm
    clear hm hmi
    have hb6 := hbt hb5 bw
    have HM6 := hsz bw
    have HBv1_6 := hblk HBv1_5 bw
    have HBv2_6 := hblk HBv2_5 bw
    clear hb5 HBv1_5 HBv2_5 bw
    go_upto_region 8 with fail
    refine wp_region_held_drew (S := fun W => W.heap[qv2]? = some (.cells #[.int .i64 d.cli, .int .i64 d.qmt, .string d.qpa, .slice ku3 d.qfs.length kuc3, .string d.qbd, .int .i64 d.rst, .slice ku6 d.rfs.length kuc6, .string d.rbd, .int .i64 d.knd, .int .i64 d.tim, .string d.opa, .slice ku11 d.oxs.length kuc11, .slice ku12 d.oys.length kuc12, .int .i64 d.ost, .slice ku14 d.ofs.length kuc14, .string d.obd, .int .i64 d.otm, .int .i64 d.bns] 68) ∧ W.heap[qv1]? = some (.cells #[.slice o1 c.s.cs.length c1, .slice o2 c.s.ws.length c2, .slice o3 n3 c3, .slice o4 n4 c4, .int .i64 c.s.nx, .int .i64 c.s.sq, .slice o5 n5 c5, .int .i64 c.now, .slice o6 n6 c6, .slice (some ⟨g7, 0, none⟩) n7 c7] 58)) (by kernel_rfl) ⟨HBv2_6.out, HBv1_6.out⟩ (fun _ => ?_)
    obtain ⟨w7, hX⟩ := exq w6.drew
    have bw := bdr hX
    rw [← hX]
    have hb7 := hbt hb6 bw
    have HBv1_7 := hblk HBv1_6 bw
    have HBv2_7 := hblk HBv2_6 bw
    have hS7 := And.intro HBv2_7.out HBv1_7.out
    clear hb6 HBv1_6 HBv2_6 bw hX
    refine tkP 0 (.pointer (some ⟨qv2, 8, none⟩)) 30 rfl rfl hS7 ?_
    go_frame
    refine tkL 1 (.int .i64 d.knd) 31 rfl rfl (Or.inl ⟨by rfl, by intro W hW; obtain ⟨hhv2, hhv1⟩ := hW; have y8 := (cell_of hhv2 8).trans rfl; go_simp⟩) hS7 ?_
    go_frame
    by_cases hc1 : d.knd = 1
    ·
     have hc1b : ((d.knd : Int) == (1 : Int)) = true := by simpa using hc1
     have hc1n : ((d.knd : Int) != (1 : Int)) = false := by simpa using hc1
     have HKN : Hid (d.knd = 1) := hc1
     have hc1H : Hid (d.knd = 1) := hc1
     clear hc1
     refine tkP 2 (.bool true) 32 rfl rfl hS7 ?_
     go_frame
     refine tkP 3 (.bool true) 33 rfl rfl hS7 ?_
     go_frame
     refine tkP 4 (.pointer (some ⟨qv1, 0, none⟩)) 34 rfl rfl hS7 ?_
     go_frame
     refine tkP 5 (.pointer (some ⟨qv1, 3, none⟩)) 35 rfl rfl hS7 ?_
     go_frame
     refine tkL 6 (.slice o4 n4 c4) 36 rfl rfl (Or.inl ⟨by rfl, by intro W hW; obtain ⟨hhv2, hhv1⟩ := hW; have y3 := (cell_of hhv1 3).trans rfl; go_simp⟩) hS7 ?_
     go_frame
     refine tkP 7 (.int .i64 (m : Int)) 37 rfl rfl hS7 ?_
     go_frame
     refine tkP 8 (.slice o4 m c4) 38 rfl rfl hS7 ?_
     go_frame
     refine tkP 9 (.pointer (some ⟨qv2, 10, none⟩)) 39 rfl rfl hS7 ?_
     go_frame
     refine tkL 10 (.agg #[.string d.opa, .slice ku11 d.oxs.length kuc11, .slice ku12 d.oys.length kuc12, .int .i64 d.ost, .slice ku14 d.ofs.length kuc14, .string d.obd, .int .i64 d.otm]) 40 rfl rfl (Or.inl ⟨by rfl, by intro W hW; obtain ⟨hhv2, hhv1⟩ := hW; have y10 := (cell_of hhv2 10).trans rfl; have y11 := (cell_of hhv2 11).trans rfl; have y12 := (cell_of hhv2 12).trans rfl; have y13 := (cell_of hhv2 13).trans rfl; have y14 := (cell_of hhv2 14).trans rfl; have y15 := (cell_of hhv2 15).trans rfl; have y16 := (cell_of hhv2 16).trans rfl; go_simp⟩) hS7 ?_
     go_frame
     refine rd1 11 rfl (fun K hK => ?_)
     go_simp
     refine (specHitsAny_r _ m c4 (c.s.bl.take m) d _ _ _ _ _ B _ ((HBN.out _ hb7).pre hm4) (by omega) (fun x hx => HZ.out.s.bm x (List.mem_of_mem_take hx)) (HRd.out _ hb7) HSd.out).mono ?_
     rintro e w8 ⟨ur, rfl, hur, bw⟩
     have hb8 := hbt hb7 bw
     have HBv1_8 := hblk HBv1_7 bw
     have HBv2_8 := hblk HBv2_7 bw
     clear hb7 HBv1_7 HBv2_7 bw
     have hS8 := And.intro HBv2_8.out HBv1_8.out
     refine hK.out _ _ hS8 (fun _ => ?_)
     clear hK K hS7
     refine tkP 12 (.bool ur) 42 rfl rfl hS8 ?_
     go_frame
     clear hS8
     refine wpAnyH_done (by kernel_rfl) ?_ _
     cases ur with
     | false =>
      have HNur : Hid (¬ (AnyR (c.s.bl.take m) d)) := fun h => nomatch hur.2 h
      clear hur
      have HN2 : Hid (∀ m, m < i + 1 → (rpAt c.sn m).knd = 1 → UnbanP c (rpAt c.sn m)) := fun m' hm' => by
       by_cases e : m' = i
       ·
        subst e
        exact fun _ => by rw [HEd.out]; unfold UnbanP; rw [← HMN.out]; exact HNur.out
       · exact HN.out m' (by omega)
      go_wp2_with fail
      go_roundw
      case rel => exact ⟨i + 1, by omega, by go_num, ⟨hb8, HBv1_8.out⟩, HN2⟩
      case measure => simp [intOf]; omega
     | true =>
      have HYur : Hid (AnyR (c.s.bl.take m) d) := hur.1 rfl
      clear hur
      go_wp2_with fail
      go_ret
      exact BoolIs.no (fun h => by have h1 := h.2.2 i (by rw [HLC.out.2.2.1]; omega) (by rw [HEd.out]; exact HKN.out); rw [HEd.out] at h1; unfold UnbanP at h1; rw [← HMN.out] at h1; exact h1 HYur.out) hb8
    ·
     have hc1b : ((d.knd : Int) == (1 : Int)) = false := by simpa using hc1
     have hc1n : ((d.knd : Int) != (1 : Int)) = true := by simpa using hc1
     have HKN : Hid (¬ d.knd = 1) := hc1
     have hc1H : Hid (¬ (d.knd = 1)) := hc1
     clear hc1
     refine tkP 2 (.bool false) 32 rfl rfl hS7 ?_
     go_frame
     refine tkP 3 (.bool false) 33 rfl rfl hS7 ?_
     go_frame
     refine tkN 4 34 rfl rfl hS7 ?_
     go_frame
     refine tkN 5 35 rfl rfl hS7 ?_
     go_frame
     refine tkN 6 36 rfl rfl hS7 ?_
     go_frame
     refine tkN 7 37 rfl rfl hS7 ?_
     go_frame
     refine tkN 8 38 rfl rfl hS7 ?_
     go_frame
     refine tkN 9 39 rfl rfl hS7 ?_
     go_frame
     refine tkN 10 40 rfl rfl hS7 ?_
     go_frame
     refine tkN 11 41 rfl rfl hS7 ?_
     go_frame
     refine tkP 12 (.bool false) 42 rfl rfl hS7 ?_
     go_frame
     clear hS7
     refine wpAnyH_done (by kernel_rfl) ?_ _
     have HN2 : Hid (∀ m, m < i + 1 → (rpAt c.sn m).knd = 1 → UnbanP c (rpAt c.sn m)) := fun m' hm' => by
      by_cases e : m' = i
      ·
       subst e
       exact fun h1 => by rw [HEd.out] at h1; exact absurd h1 HKN.out
      · exact HN.out m' (by omega)
     go_wp2_with fail
     go_roundw
     case rel => exact ⟨i + 1, by omega, by go_num, ⟨hb7, HBv1_7.out⟩, HN2⟩
     case measure => simp [intOf]; omega
   ·
    have hb3 := HW.out.1
    have HBv1_3 : Hid ((wr).heap[qv1]? = some (.cells #[.slice o1 c.s.cs.length c1, .slice o2 c.s.ws.length c2, .slice o3 n3 c3, .slice o4 n4 c4, .int .i64 c.s.nx, .int .i64 c.s.sq, .slice o5 n5 c5, .int .i64 c.now, .slice o6 n6 c6, .slice o7 n7 c7] 58)) := HW.out.2
    clear HW hb2 HBv1_2
    have HFA : Hid (EachHere (UnbanP c) c.sn) := fun m hm => HN.out m (by rw [HLC.out.2.2.1] at hm; omega)
    clear HN
    have cv1_9 := (k10c HBv1_3).2.2.2.2.2.2.2.2.2
    go_wp2_with fail
    clear cv1_9
    obtain ⟨wB, hwB⟩ := exq wr
    rw [← hwB] at hb3 HBv1_3 ⊢
    clear hwB
    go_loopw [6] (fun i wr => ∃ i' : Nat, i' ≤ n3 ∧ i = .int .i64 (i' : Int) ∧ Hid (Below w.heap.size w (wr) ∧ (wr).heap[qv1]? = some (.cells #[.slice o1 c.s.cs.length c1, .slice o2 c.s.ws.length c2, .slice o3 n3 c3, .slice o4 n4 c4, .int .i64 c.s.nx, .int .i64 c.s.sq, .slice o5 n5 c5, .int .i64 c.now, .slice o6 n6 c6, .slice o7 n7 c7] 58)) ∧ Hid (∀ m, m < i' → ¬ AnyK c.s.bl (kpAt c.s.ks m))) (fun i _ => n3 - (intOf i).toNat)
    case atStart => exact ⟨0, Nat.zero_le _, rfl, ⟨hb3, HBv1_3.out⟩, fun m hm => absurd hm (by omega)⟩
    case round =>
     obtain ⟨i, hi, rfl, HW, HN⟩ := hrel
     by_cases hlt : (i : Int) < (n3 : Int)
     ·
      have hb4 := HW.out.1
      have HBv1_4 : Hid ((wr).heap[qv1]? = some (.cells #[.slice o1 c.s.cs.length c1, .slice o2 c.s.ws.length c2, .slice o3 n3 c3, .slice o4 n4 c4, .int .i64 c.s.nx, .int .i64 c.s.sq, .slice o5 n5 c5, .int .i64 c.now, .slice o6 n6 c6, .slice o7 n7 c7] 58)) := HW.out.2
      clear HW hb3 HBv1_3
      obtain ⟨g3, p3, hV, _, _⟩ := (HKP.out _ hb4).look i (by rw [HLK.out]; omega)
      rw [HLK.out] at hV
      injection hV with hV1 hV2 hV3
      subst hV1 hV3
      clear hV2
      obtain ⟨kX, hkX⟩ := exq (kvAt kv i)
      have HMk : Hid (kX ∈ kv) := by show _ ∈ _; rw [hkX]; exact kvAt_mem kv i (by rw [HLK.out]; omega)
      have HEk : Hid (kpAt c.s.ks i = kX.1) := by show _ = _; rw [hkX, ← HKS.out]; exact (kvAt_fst kv i (by rw [HLK.out]; omega)).symm
      have HTKk : Hid (kv.take (i + 1) = kv.take i ++ [kX]) := by show _ = _; rw [hkX]; exact kvAt_take kv i (by rw [HLK.out]; omega)
      have HKk : Hid (∀ W, Below w.heap.size w W → KpAt W g3 i kX) := fun W hb => by
       obtain ⟨g', p', hV, _, hc⟩ := (HKP.out W hb).look i (by rw [HLK.out]; omega)
       injection hV with hV1 _ _
       cases hV1
       rw [hkX]
       exact hc
      clear hkX
      obtain ⟨k, kzv1, kzv2, kzv3⟩ := kX
      obtain ⟨kz1, kzc1, hu⟩ := slice_of_owns ((HKP.out _ hb4).names HMk.out)
      have hu' : kzv1 = .slice kz1 k.xs.length kzc1 := hu
      subst hu'
      clear hu
      obtain ⟨kz2, kzc2, hu⟩ := slice_of_owns ((HKP.out _ hb4).vals HMk.out)
      have hu' : kzv2 = .slice kz2 k.ys.length kzc2 := hu
      subst hu'
      clear hu
      obtain ⟨kz3, kzc3, hu⟩ := slice_of_owns ((HKP.out _ hb4).flds HMk.out)
      have hu' : kzv3 = .slice kz3 k.fs.length kzc3 := hu
      subst hu'
      clear hu
      have hin : ¬ n3 ≤ i := by omega
      have HEL3 : Hid (∀ W, Below w.heap.size w W → (W.cell? ⟨g3, i * 9, none⟩ = some (.string k.p) ∧ W.cell? ⟨g3, i * 9 + 1, none⟩ = some (.slice kz1 k.xs.length kzc1) ∧ W.cell? ⟨g3, i * 9 + 2, none⟩ = some (.slice kz2 k.ys.length kzc2) ∧ W.cell? ⟨g3, i * 9 + 3, none⟩ = some (.int .i64 k.st) ∧ W.cell? ⟨g3, i * 9 + 4, none⟩ = some (.slice kz3 k.fs.length kzc3) ∧ W.cell? ⟨g3, i * 9 + 5, none⟩ = some (.string k.b) ∧ W.cell? ⟨g3, i * 9 + 6, none⟩ = some (.int .i64 k.t) ∧ W.cell? ⟨g3, i * 9 + 7, none⟩ = some (.int .i64 k.a) ∧ W.cell? ⟨g3, i * 9 + 8, none⟩ = some (.int .i64 k.q))) := fun W hb => by
       have c := HKk.out W hb
       exact ⟨c.c0, c.c1, c.c2, c.c3, c.c4, c.c5, c.c6, c.c7, c.c8⟩
      have cv1_2 := (k10c HBv1_4).2.2.1
      go_upto_region 13 with fail
      clear cv1_2
      refine wp_region_held_drew (S := fun W => W.heap[qv1]? = some (.cells #[.slice o1 c.s.cs.length c1, .slice o2 c.s.ws.length c2, .slice (some ⟨g3, 0, none⟩) n3 c3, .slice o4 n4 c4, .int .i64 c.s.nx, .int .i64 c.s.sq, .slice o5 n5 c5, .int .i64 c.now, .slice o6 n6 c6, .slice o7 n7 c7] 58) ∧ (W.cell? ⟨g3, i * 9, none⟩ = some (.string k.p) ∧ W.cell? ⟨g3, i * 9 + 1, none⟩ = some (.slice kz1 k.xs.length kzc1) ∧ W.cell? ⟨g3, i * 9 + 2, none⟩ = some (.slice kz2 k.ys.length kzc2) ∧ W.cell? ⟨g3, i * 9 + 3, none⟩ = some (.int .i64 k.st) ∧ W.cell? ⟨g3, i * 9 + 4, none⟩ = some (.slice kz3 k.fs.length kzc3) ∧ W.cell? ⟨g3, i * 9 + 5, none⟩ = some (.string k.b) ∧ W.cell? ⟨g3, i * 9 + 6, none⟩ = some (.int .i64 k.t) ∧ W.cell? ⟨g3, i * 9 + 7, none⟩ = some (.int .i64 k.a) ∧ W.cell? ⟨g3, i * 9 + 8, none⟩ = some (.int .i64 k.q))) (by kernel_rfl) ⟨HBv1_4.out, (by first | exact HEL3.out _ hb4 | exact HEL3.out _ hb4.drew)⟩ (fun _ => ?_)
      obtain ⟨w5, hX⟩ := exq wr.drew
      have bw := bdr hX
      rw [← hX]
      have hb5 := hbt hb4 bw
      have HM5 := hsz bw
      have HBv1_5 := hblk HBv1_4 bw
      have hS5 : w5.heap[qv1]? = some (.cells #[.slice o1 c.s.cs.length c1, .slice o2 c.s.ws.length c2, .slice (some ⟨g3, 0, none⟩) n3 c3, .slice o4 n4 c4, .int .i64 c.s.nx, .int .i64 c.s.sq, .slice o5 n5 c5, .int .i64 c.now, .slice o6 n6 c6, .slice o7 n7 c7] 58) ∧ (w5.cell? ⟨g3, i * 9, none⟩ = some (.string k.p) ∧ w5.cell? ⟨g3, i * 9 + 1, none⟩ = some (.slice kz1 k.xs.length kzc1) ∧ w5.cell? ⟨g3, i * 9 + 2, none⟩ = some (.slice kz2 k.ys.length kzc2) ∧ w5.cell? ⟨g3, i * 9 + 3, none⟩ = some (.int .i64 k.st) ∧ w5.cell? ⟨g3, i * 9 + 4, none⟩ = some (.slice kz3 k.fs.length kzc3) ∧ w5.cell? ⟨g3, i * 9 + 5, none⟩ = some (.string k.b) ∧ w5.cell? ⟨g3, i * 9 + 6, none⟩ = some (.int .i64 k.t) ∧ w5.cell? ⟨g3, i * 9 + 7, none⟩ = some (.int .i64 k.a) ∧ w5.cell? ⟨g3, i * 9 + 8, none⟩ = some (.int .i64 k.q)) := ⟨HBv1_5.out, (by first | exact HEL3.out _ hb5 | exact HEL3.out _ hb5.drew)⟩
      clear hb4 HBv1_4 bw hX
      refine tkP 0 (.pointer (some ⟨qv1, 0, none⟩)) 51 rfl rfl hS5 ?_
      go_frame
      refine tkP 1 (.pointer (some ⟨qv1, 3, none⟩)) 52 rfl rfl hS5 ?_
      go_frame
      refine tkL 2 (.slice o4 n4 c4) 53 rfl rfl (Or.inl ⟨by rfl, by intro W hW; obtain ⟨hhv1, hhE_3⟩ := hW; have y3 := (cell_of hhv1 3).trans rfl; go_simp⟩) hS5 ?_
      go_frame
      refine tkP 3 (.pointer (some ⟨qv1, 0, none⟩)) 54 rfl rfl hS5 ?_
      go_frame
      refine tkP 4 (.pointer (some ⟨qv1, 2, none⟩)) 55 rfl rfl hS5 ?_
      go_frame
      refine tkL 5 (.slice (some ⟨g3, 0, none⟩) n3 c3) 56 rfl rfl (Or.inl ⟨by rfl, by intro W hW; obtain ⟨hhv1, hhE_3⟩ := hW; have y2 := (cell_of hhv1 2).trans rfl; go_simp⟩) hS5 ?_
      go_frame
      refine tkP 6 (.int .i64 (i : Int)) 57 rfl rfl hS5 ?_
      go_frame
      refine tkP 7 (.pointer (some ⟨g3, i * 9, none⟩)) 58 rfl rfl hS5 ?_
      go_frame
      refine tkP 8 (.pointer (some ⟨g3, i * 9, none⟩)) 59 rfl rfl hS5 ?_
      go_frame
      refine tkL 9 (.agg #[.string k.p, .slice kz1 k.xs.length kzc1, .slice kz2 k.ys.length kzc2, .int .i64 k.st, .slice kz3 k.fs.length kzc3, .string k.b, .int .i64 k.t]) 60 rfl rfl (Or.inl ⟨by rfl, by intro W hW; obtain ⟨hhv1, hhE_3⟩ := hW; have y0 := hhE_3.1; have y1 := hhE_3.2.1; have y2 := hhE_3.2.2.1; have y3 := hhE_3.2.2.2.1; have y4 := hhE_3.2.2.2.2.1; have y5 := hhE_3.2.2.2.2.2.1; have y6 := hhE_3.2.2.2.2.2.2.1; go_simp⟩) hS5 ?_
      go_frame
      refine rd1 10 rfl (fun K hK => ?_)
      go_simp
      refine (specHitsAny_k _ n4 c4 c.s.bl k _ _ _ _ (HBN.out _ hb5) (by omega) HZ.out.s.bm (KeptsO.read (HKP.out _ hb5) HMk.out) (HZ.out.s.kv HKS.out HMk.out)).mono ?_
      rintro e w6 ⟨uk, rfl, huk, bw⟩
      have hb6 := hbt hb5 bw
      have HM6 := hsz bw
      have HBv1_6 := hblk HBv1_5 bw
      clear hb5 HBv1_5 bw
      have hS6 : w6.heap[qv1]? = some (.cells #[.slice o1 c.s.cs.length c1, .slice o2 c.s.ws.length c2, .slice (some ⟨g3, 0, none⟩) n3 c3, .slice o4 n4 c4, .int .i64 c.s.nx, .int .i64 c.s.sq, .slice o5 n5 c5, .int .i64 c.now, .slice o6 n6 c6, .slice o7 n7 c7] 58) ∧ (w6.cell? ⟨g3, i * 9, none⟩ = some (.string k.p) ∧ w6.cell? ⟨g3, i * 9 + 1, none⟩ = some (.slice kz1 k.xs.length kzc1) ∧ w6.cell? ⟨g3, i * 9 + 2, none⟩ = some (.slice kz2 k.ys.length kzc2) ∧ w6.cell? ⟨g3, i * 9 + 3, none⟩ = some (.int .i64 k.st) ∧ w6.cell? ⟨g3, i * 9 + 4, none⟩ = some (.slice kz3 k.fs.length kzc3) ∧ w6.cell? ⟨g3, i * 9 + 5, none⟩ = some (.string k.b) ∧ w6.cell? ⟨g3, i * 9 + 6, none⟩ = some (.int .i64 k.t) ∧ w6.cell? ⟨g3, i * 9 + 7, none⟩ = some (.int .i64 k.a) ∧ w6.cell? ⟨g3, i * 9 + 8, none⟩ = some (.int .i64 k.q)) := ⟨HBv1_6.out, (by first | exact HEL3.out _ hb6 | exact HEL3.out _ hb6.drew)⟩
      refine hK.out _ _ hS6 (fun _ => ?_)
      clear hK K hS5
      clear hS6
      refine wpAnyH_done (by kernel_rfl) ?_ _
      cases uk with
      | false =>
       have HNuk : Hid (¬ (AnyK c.s.bl k)) := fun h => nomatch huk.2 h
       clear huk
       have HN2 : Hid (∀ m, m < i + 1 → ¬ AnyK c.s.bl (kpAt c.s.ks m)) := fun m' hm' => by
        by_cases e : m' = i
        ·
         subst e
         exact by rw [HEk.out]; exact HNuk.out
        · exact HN.out m' (by omega)
       go_wp2_with fail
       go_roundw
       case rel => exact ⟨i + 1, by omega, by go_num, ⟨hb6, HBv1_6.out⟩, HN2⟩
       case measure => simp [intOf]; omega
      | true =>
       have HYuk : Hid (AnyK c.s.bl k) := huk.1 rfl
       clear huk
       go_wp2_with fail
       go_ret
       exact BoolIs.no (fun h => by have h1 := h.2.1 i (by rw [HLC.out.2.2.2]; omega); rw [HEk.out] at h1; exact h1 HYuk.out) hb6
     ·
      have hb4 := HW.out.1
      have HBv1_4 : Hid ((wr).heap[qv1]? = some (.cells #[.slice o1 c.s.cs.length c1, .slice o2 c.s.ws.length c2, .slice o3 n3 c3, .slice o4 n4 c4, .int .i64 c.s.nx, .int .i64 c.s.sq, .slice o5 n5 c5, .int .i64 c.now, .slice o6 n6 c6, .slice o7 n7 c7] 58)) := HW.out.2
      clear HW hb3 HBv1_3
      have HFB : Hid (NoBanP c) := fun m hm => HN.out m (by rw [HLC.out.2.2.2] at hm; omega)
      clear HN
      have cv1_2 := (k10c HBv1_4).2.2.1
      go_wp2_with fail
      go_ret
      exact BoolIs.yes ⟨HYus.out, HFB.out, HFA.out⟩ hb4
end Go.Proofs.YtbmhonfgffjpcaaGreat
namespace Go.Proofs.YtbmhonfgffjpcaaGreat
open Go.RowKit Go.WideShapes
open Go.Lib hiding intOf
/-- An object's seven cells among the arguments. -/
theorem objCells {H : Type} {enc : TypeId × Value → H} {W : World} {fuel : Nat} {d0 d1 d2 d3 d4 d5 d6 : Value} {x : DataW H × List MemPlace} (hf : DataW.trod enc Tryz.prog W 0 (fun _ => true) true fuel 41 [d0, d1, d2, d3, d4, d5, d6] = some x) :
  ∃ (p : ByteArray) (a1 : Option Addr) (n1 c1 : Nat) (xs : List ByteArray) (a2 : Option Addr) (n2 c2 : Nat) (ys : List ByteArray) (st : Int) (a3 : Option Addr) (n3 c3 : Nat) (fs : List (ByteArray × ByteArray)) (b : ByteArray) (t : Int), (d0 = .string p ∧ d1 = .slice a1 n1 c1 ∧ d2 = .slice a2 n2 c2 ∧ d3 = .int .i64 st ∧ d4 = .slice a3 n3 c3 ∧ d5 = .string b ∧ d6 = .int .i64 t) ∧ ArgT W W.heap.size a1 n1 xs ∧ ArgT W W.heap.size a2 n2 ys ∧ ArgF W W.heap.size a3 n3 fs ∧ n1 ≤ maxLen ∧ n2 ≤ maxLen ∧ n3 ≤ maxLen ∧ (∀ i, i < n1 → (textAt xs i).size ≤ maxLen) ∧ (∀ i, i < n2 → (textAt ys i).size ≤ maxLen) ∧ WalkF n3 fs ∧ p.size ≤ maxLen ∧ b.size ≤ maxLen := by
 obtain ⟨ys, q, _, _, _, hyl, hg⟩ := DataW.trod_struct Tryz.underlying41 hf
 have hcR : Tryz.prog.cellsOf 39 = 3 := by kernel_rfl
 have e3 : Tryz.prog.cellsOf 3 = 1 := by kernel_rfl
 have e9 : Tryz.prog.cellsOf 9 = 1 := by kernel_rfl
 have eL : Tryz.prog.cellsOf 35 = 1 := by kernel_rfl
 have eS : Tryz.prog.cellsOf 22 = 1 := by kernel_rfl
 have g0 := hg 0 _ rfl
 have g1 := hg 1 _ rfl
 have g2 := hg 2 _ rfl
 have g3 := hg 3 _ rfl
 have g4 := hg 4 _ rfl
 simp [e3, e9, eS, hcR] at g0 g1 g2 g3 g4
 have hy5 : ys.length = 5 := hyl
 rw [List.getElem?_eq_getElem (show 0 < ys.length by omega)] at g0
 rw [List.getElem?_eq_getElem (show 1 < ys.length by omega)] at g1
 rw [List.getElem?_eq_getElem (show 2 < ys.length by omega)] at g2
 rw [List.getElem?_eq_getElem (show 3 < ys.length by omega)] at g3
 rw [List.getElem?_eq_getElem (show 4 < ys.length by omega)] at g4
 obtain ⟨zs, q2, _, _, _, hzl, hk⟩ := DataW.trod_struct Tryz.underlying39 g3
 have k0 := hk 0 _ rfl
 have k1 := hk 1 _ rfl
 have k2 := hk 2 _ rfl
 simp [e3, e9, eL] at k0 k1 k2
 have hz3 : zs.length = 3 := hzl
 rw [List.getElem?_eq_getElem (show 0 < zs.length by omega)] at k0
 rw [List.getElem?_eq_getElem (show 1 < zs.length by omega)] at k1
 rw [List.getElem?_eq_getElem (show 2 < zs.length by omega)] at k2
 obtain ⟨p, hp, _, hps⟩ := DataW.trod_string Tryz.underlying9 g0
 obtain ⟨t, ht, _, _⟩ := DataW.trod_int Tryz.underlying3 g4
 obtain ⟨st, hst, _, _⟩ := DataW.trod_int Tryz.underlying3 k0
 obtain ⟨b, hb, _, hbs⟩ := DataW.trod_string Tryz.underlying9 k2
 obtain ⟨a1, n1, c1, rfl⟩ : ∃ a n cap, d1 = .slice a n cap := by
  rcases DataW.trod_slice Tryz.underlying22 g1 with ⟨h, _⟩ | ⟨a, n, cap, _, _, _, _, h, _⟩
  · exact ⟨none, 0, 0, by simpa using h⟩
  · exact ⟨_, n, cap, by simpa using h⟩
 obtain ⟨a2, n2, c2, rfl⟩ : ∃ a n cap, d2 = .slice a n cap := by
  rcases DataW.trod_slice Tryz.underlying22 g2 with ⟨h, _⟩ | ⟨a, n, cap, _, _, _, _, h, _⟩
  · exact ⟨none, 0, 0, by simpa using h⟩
  · exact ⟨_, n, cap, by simpa using h⟩
 obtain ⟨a3, n3, c3, rfl⟩ : ∃ a n cap, d4 = .slice a n cap := by
  rcases DataW.trod_slice Tryz.underlying35 k1 with ⟨h, _⟩ | ⟨a, n, cap, _, _, _, _, h, _⟩
  · exact ⟨none, 0, 0, by simpa using h⟩
  · exact ⟨_, n, cap, by simpa using h⟩
 obtain ⟨xs, x1, x2, x3⟩ := openTexts g1
 obtain ⟨ws, y1, y2, y3⟩ := openTexts g2
 obtain ⟨fs, z1, z2, z3⟩ := openFields k1
 simp only [List.cons.injEq, and_true] at hp ht hst hb
 subst hp ht hst hb
 exact ⟨p, a1, n1, c1, xs, a2, n2, c2, ws, st, a3, n3, c3, fs, b, t, ⟨rfl, rfl, rfl, rfl, rfl, rfl, rfl⟩, x1, y1, z1, x2, y2, z2, x3, y3, z3, hps, hbs⟩
/-- A list of what is kept among the arguments. -/
theorem openKeptS {H : Type} {enc : TypeId × Value → H} {W : World} {fuel : Nat} {a : Option Addr} {n cap : Nat} {x : DataW H × List MemPlace} (h : DataW.trod enc Tryz.prog W 0 (fun _ => true) true fuel 26 [.slice a n cap] = some x) :
  ∃ ks, ArgKept W W.heap.size a n ks ∧ n ≤ maxLen ∧ ∀ k ∈ ks, KpMax k := by
 rcases Go.Deep.open_slice Tryz.underlying26 h with ⟨hcs, _⟩ | ⟨ad, len, c, m, q, Dd, Pl, hcs, _, hl, hm, hmm, _, hx⟩
 ·
  simp at hcs
  obtain ⟨rfl, rfl, rfl⟩ := hcs
  exact ⟨[], ⟨rfl, fun i hi => absurd hi (by omega)⟩, Nat.zero_le _, fun x hx => by simp at hx⟩
 ·
  simp at hcs
  obtain ⟨rfl, rfl, rfl⟩ := hcs
  have hm2 : m = cap := by simpa using hmm
  have ce : Tryz.prog.cellsOf 158 = 9 := by kernel_rfl
  have co : Tryz.prog.cellsOf 41 = 7 := by kernel_rfl
  have ci : Tryz.prog.cellsOf 3 = 1 := by kernel_rfl
  have each : ∀ i, i < n → ∃ y : KpD, (∃ (a1 : Option Addr) (n1 c1 : Nat) (a2 : Option Addr) (n2 c2 : Nat) (a3 : Option Addr) (n3 c3 : Nat), (W.cell? (ad.add (i * 9 + 0)) = some (.string y.p) ∧ W.cell? (ad.add (i * 9 + 1)) = some (.slice a1 n1 c1) ∧ W.cell? (ad.add (i * 9 + 2)) = some (.slice a2 n2 c2) ∧ W.cell? (ad.add (i * 9 + 3)) = some (.int .i64 y.st) ∧ W.cell? (ad.add (i * 9 + 4)) = some (.slice a3 n3 c3) ∧ W.cell? (ad.add (i * 9 + 5)) = some (.string y.b) ∧ W.cell? (ad.add (i * 9 + 6)) = some (.int .i64 y.t) ∧ W.cell? (ad.add (i * 9 + 7)) = some (.int .i64 y.a) ∧ W.cell? (ad.add (i * 9 + 8)) = some (.int .i64 y.q)) ∧ ArgT W W.heap.size a1 n1 y.xs ∧ ArgT W W.heap.size a2 n2 y.ys ∧ ArgF W W.heap.size a3 n3 y.fs) ∧ KpMax y := by
   intro i hi
   obtain ⟨cs', h1, h2⟩ := hx i (by omega)
   rw [ce] at h1
   obtain ⟨_, hlen, hcell⟩ := World.cells?_some h1
   obtain ⟨xs, k, hk, hxy, _, hxl, hf⟩ := DataW.trod_struct Tryz.underlying158 h2
   match xs, hxl, cs', hlen with
   | [x0, x1, x2], _, [v0, v1, v2, v3, v4, v5, v6, v7, v8], _ =>
    have g0 := hf 0 _ rfl
    have g1 := hf 1 _ rfl
    have g2 := hf 2 _ rfl
    simp [ci, co] at g0 g1 g2
    obtain ⟨p, a1, n1, c1, xs, a2, n2, c2, ys, st, a3, n3, c3, fs, b, t, ⟨rfl, rfl, rfl, rfl, rfl, rfl, rfl⟩, w1, w2, w3, m1, m2, m3, s1, s2, s3, s4, s5⟩ := objCells g0
    obtain ⟨ka, e1, _, _⟩ := DataW.trod_int Tryz.underlying3 g1
    obtain ⟨kq, e2, _, _⟩ := DataW.trod_int Tryz.underlying3 g2
    simp only [List.cons.injEq, and_true] at e1 e2
    subst e1 e2
    have c0x := hcell 0 (by omega)
    have c1x := hcell 1 (by omega)
    have c2x := hcell 2 (by omega)
    have c3x := hcell 3 (by omega)
    have c4x := hcell 4 (by omega)
    have c5x := hcell 5 (by omega)
    have c6x := hcell 6 (by omega)
    have c7x := hcell 7 (by omega)
    have c8x := hcell 8 (by omega)
    rw [Go.Deep.add_add] at c0x c1x c2x c3x c4x c5x c6x c7x c8x
    refine ⟨⟨p, xs, ys, st, fs, b, t, ka, kq⟩, ⟨a1, n1, c1, a2, n2, c2, a3, n3, c3, ⟨by simpa using c0x, by simpa using c1x, by simpa using c2x, by simpa using c3x, by simpa using c4x, by simpa using c5x, by simpa using c6x, by simpa using c7x, by simpa using c8x⟩, w1, w2, w3⟩, ?_⟩
    unfold KpMax
    show xs.length ≤ maxLen ∧ ys.length ≤ maxLen ∧ fs.length ≤ maxLen ∧ (∀ i, i < xs.length → (textAt xs i).size ≤ maxLen) ∧ (∀ i, i < ys.length → (textAt ys i).size ≤ maxLen) ∧ WalkF fs.length fs ∧ p.size ≤ maxLen ∧ b.size ≤ maxLen
    rw [w1.len, w2.len, w3.len]
    exact ⟨m1, m2, m3, s1, s2, s3, s4, s5⟩
  haveI : Inhabited KpD := ⟨zeroK⟩
  obtain ⟨q, hq⟩ := Go.Deep.choose_lt each
  have hat : ∀ i, i < n → kpAt ((List.range n).map q) i = q i := fun i hi => by
   unfold kpAt
   rw [List.getD_eq_getElem?_getD, List.getElem?_map, List.getElem?_range hi]
   rfl
  refine ⟨(List.range n).map q, ⟨by simp, fun i hi => ?_⟩, by omega, fun x hx => ?_⟩
  ·
   obtain ⟨⟨a1, n1, c1, a2, n2, c2, a3, n3, c3, cc, w1, w2, w3⟩, _⟩ := hq i hi
   have hsp : ad.spot = none := by
    obtain ⟨⟨_, _, _, _, _, _, _, _, _, c3, _⟩, _⟩ := hq 0 (by omega)
    have := World.cell?_spot c3.1
    simpa [Addr.add] using this
   obtain ⟨b, off, sp⟩ := ad
   simp only at hsp
   subst hsp
   simp only [addr_add] at cc
   rw [hat i hi]
   have hlt := World.block_lt_of_cell? W _ cc.1
   exact ⟨b, off, rfl, hlt, a1, n1, c1, a2, n2, c2, a3, n3, c3, ⟨by simpa [Nat.add_assoc] using cc.1, by simpa [Nat.add_assoc] using cc.2.1, by simpa [Nat.add_assoc] using cc.2.2.1, by simpa [Nat.add_assoc] using cc.2.2.2.1, by simpa [Nat.add_assoc] using cc.2.2.2.2.1, by simpa [Nat.add_assoc] using cc.2.2.2.2.2.1, by simpa [Nat.add_assoc] using cc.2.2.2.2.2.2.1, by simpa [Nat.add_assoc] using cc.2.2.2.2.2.2.2.1, by simpa [Nat.add_assoc] using cc.2.2.2.2.2.2.2.2⟩, w1, w2, w3⟩
  ·
   obtain ⟨i, hi, rfl⟩ := List.mem_map.1 hx
   exact (hq i (List.mem_range.1 hi)).2
end Go.Proofs.YtbmhonfgffjpcaaGreat
namespace Go.Proofs.YtbmhonfgffjpcaaGreat
open Go.RowKit
open Go.Lib hiding intOf
theorem cellsReq {H : Type} {enc : TypeId × Value → H} {W : World} {fuel : Nat} {d0 d1 d2 d3 : Value} {x : DataW H × List MemPlace} (hf : DataW.trod enc Tryz.prog W 0 (fun _ => true) true fuel 37 [d0, d1, d2, d3] = some x) :
  ∃ (mt : Int) (pa : ByteArray) (fs : List (ByteArray × ByteArray)) (bd : ByteArray) (a : Option Addr) (n cap : Nat), (d0 = .int .i64 mt ∧ d1 = .string pa ∧ d2 = .slice a n cap ∧ d3 = .string bd) ∧ ArgF W W.heap.size a n fs ∧ n ≤ maxLen ∧ WalkF n fs ∧ pa.size ≤ maxLen ∧ bd.size ≤ maxLen := by
 obtain ⟨ys, q, _, _, _, hyl, hg⟩ := DataW.trod_struct Tryz.underlying37 hf
 have e3 : Tryz.prog.cellsOf 3 = 1 := by kernel_rfl
 have e9 : Tryz.prog.cellsOf 9 = 1 := by kernel_rfl
 have eL : Tryz.prog.cellsOf 35 = 1 := by kernel_rfl
 have g0 := hg 0 _ rfl
 have g1 := hg 1 _ rfl
 have g2 := hg 2 _ rfl
 have g3 := hg 3 _ rfl
 simp [e3, e9, eL] at g0 g1 g2 g3
 have hyz : ys.length = 4 := hyl
 rw [List.getElem?_eq_getElem (show 0 < ys.length by omega)] at g0
 rw [List.getElem?_eq_getElem (show 1 < ys.length by omega)] at g1
 rw [List.getElem?_eq_getElem (show 2 < ys.length by omega)] at g2
 rw [List.getElem?_eq_getElem (show 3 < ys.length by omega)] at g3
 obtain ⟨mt, hmt, _, _⟩ := DataW.trod_int Tryz.underlying3 g0
 obtain ⟨pa, hpa, _, spa⟩ := DataW.trod_string Tryz.underlying9 g1
 obtain ⟨a, n, cap, rfl⟩ : ∃ a n cap, d2 = .slice a n cap := by
  rcases DataW.trod_slice Tryz.underlying35 g2 with ⟨h, _⟩ | ⟨a, n, cap, _, _, _, _, h, _⟩
  · exact ⟨none, 0, 0, by simpa using h⟩
  · exact ⟨_, n, cap, by simpa using h⟩
 obtain ⟨fs, h1, h2, h3⟩ := openFields g2
 obtain ⟨bd, hbd, _, sbd⟩ := DataW.trod_string Tryz.underlying9 g3
 simp only [List.cons.injEq, and_true] at hmt hpa hbd
 subst hmt hpa hbd
 exact ⟨mt, pa, fs, bd, a, n, cap, ⟨rfl, rfl, rfl, rfl⟩, h1, h2, h3, spa, sbd⟩
theorem cellsResp {H : Type} {enc : TypeId × Value → H} {W : World} {fuel : Nat} {d0 d1 d2 : Value} {x : DataW H × List MemPlace} (hf : DataW.trod enc Tryz.prog W 0 (fun _ => true) true fuel 39 [d0, d1, d2] = some x) :
  ∃ (st : Int) (fs : List (ByteArray × ByteArray)) (bd : ByteArray) (a : Option Addr) (n cap : Nat), (d0 = .int .i64 st ∧ d1 = .slice a n cap ∧ d2 = .string bd) ∧ ArgF W W.heap.size a n fs ∧ n ≤ maxLen ∧ WalkF n fs ∧ bd.size ≤ maxLen := by
 obtain ⟨ys, q, _, _, _, hyl, hg⟩ := DataW.trod_struct Tryz.underlying39 hf
 have e3 : Tryz.prog.cellsOf 3 = 1 := by kernel_rfl
 have e9 : Tryz.prog.cellsOf 9 = 1 := by kernel_rfl
 have eL : Tryz.prog.cellsOf 35 = 1 := by kernel_rfl
 have g0 := hg 0 _ rfl
 have g1 := hg 1 _ rfl
 have g2 := hg 2 _ rfl
 simp [e3, e9, eL] at g0 g1 g2
 have hyz : ys.length = 3 := hyl
 rw [List.getElem?_eq_getElem (show 0 < ys.length by omega)] at g0
 rw [List.getElem?_eq_getElem (show 1 < ys.length by omega)] at g1
 rw [List.getElem?_eq_getElem (show 2 < ys.length by omega)] at g2
 obtain ⟨st, hst, _, _⟩ := DataW.trod_int Tryz.underlying3 g0
 obtain ⟨a, n, cap, rfl⟩ : ∃ a n cap, d1 = .slice a n cap := by
  rcases DataW.trod_slice Tryz.underlying35 g1 with ⟨h, _⟩ | ⟨a, n, cap, _, _, _, _, h, _⟩
  · exact ⟨none, 0, 0, by simpa using h⟩
  · exact ⟨_, n, cap, by simpa using h⟩
 obtain ⟨fs, h1, h2, h3⟩ := openFields g1
 obtain ⟨bd, hbd, _, sbd⟩ := DataW.trod_string Tryz.underlying9 g2
 simp only [List.cons.injEq, and_true] at hst hbd
 subst hst hbd
 exact ⟨st, fs, bd, a, n, cap, ⟨rfl, rfl, rfl⟩, h1, h2, h3, sbd⟩
end Go.Proofs.YtbmhonfgffjpcaaGreat
namespace Go.Proofs.YtbmhonfgffjpcaaGreat
open Go.RowKit
open Go.Lib hiding intOf
/-- A list of Flight among the arguments. -/
theorem openFlightS {H : Type} {enc : TypeId × Value → H} {W : World} {fuel : Nat} {a : Option Addr} {n cap : Nat} {x : DataW H × List MemPlace} (h : DataW.trod enc Tryz.prog W 0 (fun _ => true) true fuel 30 [.slice a n cap] = some x) :
  ∃ ks, ArgFlight W W.heap.size a n ks ∧ n ≤ maxLen ∧ ∀ k ∈ ks, FlMax k := by
 rcases Go.Deep.open_slice Tryz.underlying30 h with ⟨hcs, _⟩ | ⟨ad, len, c, m, q, Dd, Pl, hcs, _, hl, hm, hmm, _, hx⟩
 ·
  simp at hcs
  obtain ⟨rfl, rfl, rfl⟩ := hcs
  exact ⟨[], ⟨rfl, fun i hi => absurd hi (by omega)⟩, Nat.zero_le _, fun x hx => by simp at hx⟩
 ·
  simp at hcs
  obtain ⟨rfl, rfl, rfl⟩ := hcs
  have hm2 : m = cap := by simpa using hmm
  have ce : Tryz.prog.cellsOf 116 = 13 := by kernel_rfl
  have cReq : Tryz.prog.cellsOf 37 = 4 := by kernel_rfl
  have cIntS : Tryz.prog.cellsOf 109 = 1 := by kernel_rfl
  have cObj : Tryz.prog.cellsOf 41 = 7 := by kernel_rfl
  have cb : Tryz.prog.cellsOf 4 = 1 := by kernel_rfl
  have each : ∀ i, i < n → ∃ y : FlD, (∃ (a2 : Option Addr) (c2 : Nat) (a4 : Option Addr) (c4 : Nat) (a6 : Option Addr) (c6 : Nat) (a7 : Option Addr) (c7 : Nat) (a9 : Option Addr) (c9 : Nat), (W.cell? (ad.add (i * 13 + 0)) = some (.int .i64 y.qmt) ∧ W.cell? (ad.add (i * 13 + 1)) = some (.string y.qpa) ∧ W.cell? (ad.add (i * 13 + 2)) = some (.slice a2 y.qfs.length c2) ∧ W.cell? (ad.add (i * 13 + 3)) = some (.string y.qbd) ∧ W.cell? (ad.add (i * 13 + 4)) = some (.slice a4 y.who.length c4) ∧ W.cell? (ad.add (i * 13 + 5)) = some (.string y.opa) ∧ W.cell? (ad.add (i * 13 + 6)) = some (.slice a6 y.oxs.length c6) ∧ W.cell? (ad.add (i * 13 + 7)) = some (.slice a7 y.oys.length c7) ∧ W.cell? (ad.add (i * 13 + 8)) = some (.int .i64 y.ost) ∧ W.cell? (ad.add (i * 13 + 9)) = some (.slice a9 y.ofs.length c9) ∧ W.cell? (ad.add (i * 13 + 10)) = some (.string y.obd) ∧ W.cell? (ad.add (i * 13 + 11)) = some (.int .i64 y.otm) ∧ W.cell? (ad.add (i * 13 + 12)) = some (.bool y.has)) ∧ ArgF W W.heap.size a2 y.qfs.length y.qfs ∧ ArgI W W.heap.size a4 y.who.length y.who ∧ ArgT W W.heap.size a6 y.oxs.length y.oxs ∧ ArgT W W.heap.size a7 y.oys.length y.oys ∧ ArgF W W.heap.size a9 y.ofs.length y.ofs) ∧ FlMax y := by
   intro i hi
   obtain ⟨cs', h1, h2⟩ := hx i (by omega)
   rw [ce] at h1
   obtain ⟨_, hlen, hcell⟩ := World.cells?_some h1
   obtain ⟨xs, k, hk, hxy, _, hxl, hf⟩ := DataW.trod_struct Tryz.underlying116 h2
   match xs, hxl, cs', hlen with
   | [x0, x1, x2, x3], _, [v0, v1, v2, v3, v4, v5, v6, v7, v8, v9, v10, v11, v12], _ =>
    have g0 := hf 0 _ rfl
    have g1 := hf 1 _ rfl
    have g2 := hf 2 _ rfl
    have g3 := hf 3 _ rfl
    simp [cReq, cIntS, cObj, cb] at g0 g1 g2 g3
    obtain ⟨qmt, qpa, qfs, qbd, a2, n2, c2, ⟨rfl, rfl, rfl, rfl⟩, w2, m2, s2, zqpa, zqbd⟩ := cellsReq g0
    obtain ⟨a4, n4, c4, rfl⟩ : ∃ a n cap, v4 = .slice a n cap := by
     rcases DataW.trod_slice Tryz.underlying109 g1 with ⟨h, _⟩ | ⟨a, n, cap, _, _, _, _, h, _⟩
     · exact ⟨none, 0, 0, by simpa using h⟩
     · exact ⟨_, n, cap, by simpa using h⟩
    obtain ⟨who, w4, m4⟩ := openIntsT g1
    obtain ⟨opa, a6, n6, c6, oxs, a7, n7, c7, oys, ost, a9, n9, c9, ofs, obd, otm, ⟨rfl, rfl, rfl, rfl, rfl, rfl, rfl⟩, w6, w7, w9, m6, m7, m9, s6, s7, s9, zopa, zobd⟩ := objCells g2
    obtain ⟨has, e3, _⟩ := DataW.trod_bool Tryz.underlying4 g3
    simp only [List.cons.injEq, and_true] at e3
    subst e3
    obtain rfl := w2.len
    obtain rfl := w4.len
    obtain rfl := w6.len
    obtain rfl := w7.len
    obtain rfl := w9.len
    have c0x := hcell 0 (by omega)
    have c1x := hcell 1 (by omega)
    have c2x := hcell 2 (by omega)
    have c3x := hcell 3 (by omega)
    have c4x := hcell 4 (by omega)
    have c5x := hcell 5 (by omega)
    have c6x := hcell 6 (by omega)
    have c7x := hcell 7 (by omega)
    have c8x := hcell 8 (by omega)
    have c9x := hcell 9 (by omega)
    have c10x := hcell 10 (by omega)
    have c11x := hcell 11 (by omega)
    have c12x := hcell 12 (by omega)
    rw [Go.Deep.add_add] at c0x c1x c2x c3x c4x c5x c6x c7x c8x c9x c10x c11x c12x
    refine ⟨⟨qmt, qpa, qfs, qbd, who, opa, oxs, oys, ost, ofs, obd, otm, has⟩, ⟨a2, c2, a4, c4, a6, c6, a7, c7, a9, c9, ⟨by simpa using c0x, by simpa using c1x, by simpa using c2x, by simpa using c3x, by simpa using c4x, by simpa using c5x, by simpa using c6x, by simpa using c7x, by simpa using c8x, by simpa using c9x, by simpa using c10x, by simpa using c11x, by simpa using c12x⟩, w2, w4, w6, w7, w9⟩, ⟨zqpa, ⟨m2, s2⟩, zqbd, m4, zopa, ⟨m6, s6⟩, ⟨m7, s7⟩, ⟨m9, s9⟩, zobd⟩⟩
  haveI : Inhabited FlD := ⟨zeroFl⟩
  obtain ⟨q, hq⟩ := Go.Deep.choose_lt each
  have hat : ∀ i, i < n → flAt ((List.range n).map q) i = q i := fun i hi => by
   unfold flAt
   rw [List.getD_eq_getElem?_getD, List.getElem?_map, List.getElem?_range hi]
   rfl
  refine ⟨(List.range n).map q, ⟨by simp, fun i hi => ?_⟩, by omega, fun x hx => ?_⟩
  ·
   obtain ⟨⟨a2, c2, a4, c4, a6, c6, a7, c7, a9, c9, cc, w2, w4, w6, w7, w9⟩, _⟩ := hq i hi
   have hsp : ad.spot = none := by
    obtain ⟨⟨_, _, _, _, _, _, _, _, _, _, c3, _⟩, _⟩ := hq 0 (by omega)
    have := World.cell?_spot c3.1
    simpa [Addr.add] using this
   obtain ⟨b, off, sp⟩ := ad
   simp only at hsp
   subst hsp
   simp only [addr_add] at cc
   rw [hat i hi]
   have hlt := World.block_lt_of_cell? W _ cc.1
   exact ⟨b, off, rfl, hlt, a2, c2, a4, c4, a6, c6, a7, c7, a9, c9, ⟨by simpa [Nat.add_assoc] using cc.1, by simpa [Nat.add_assoc] using cc.2.1, by simpa [Nat.add_assoc] using cc.2.2.1, by simpa [Nat.add_assoc] using cc.2.2.2.1, by simpa [Nat.add_assoc] using cc.2.2.2.2.1, by simpa [Nat.add_assoc] using cc.2.2.2.2.2.1, by simpa [Nat.add_assoc] using cc.2.2.2.2.2.2.1, by simpa [Nat.add_assoc] using cc.2.2.2.2.2.2.2.1, by simpa [Nat.add_assoc] using cc.2.2.2.2.2.2.2.2.1, by simpa [Nat.add_assoc] using cc.2.2.2.2.2.2.2.2.2.1, by simpa [Nat.add_assoc] using cc.2.2.2.2.2.2.2.2.2.2.1, by simpa [Nat.add_assoc] using cc.2.2.2.2.2.2.2.2.2.2.2.1, by simpa [Nat.add_assoc] using cc.2.2.2.2.2.2.2.2.2.2.2.2⟩, w2, w4, w6, w7, w9⟩
  ·
   obtain ⟨i, hi, rfl⟩ := List.mem_map.1 hx
   exact (hq i (List.mem_range.1 hi)).2
end Go.Proofs.YtbmhonfgffjpcaaGreat
namespace Go.Proofs.YtbmhonfgffjpcaaGreat
open Go.RowKit
open Go.Lib hiding intOf
/-- A list of Seen among the arguments. -/
theorem openSeenS {H : Type} {enc : TypeId × Value → H} {W : World} {fuel : Nat} {a : Option Addr} {n cap : Nat} {x : DataW H × List MemPlace} (h : DataW.trod enc Tryz.prog W 0 (fun _ => true) true fuel 31 [.slice a n cap] = some x) :
  ∃ ks, ArgSeen W W.heap.size a n ks ∧ n ≤ maxLen ∧ ∀ k ∈ ks, SeMax k := by
 rcases Go.Deep.open_slice Tryz.underlying31 h with ⟨hcs, _⟩ | ⟨ad, len, c, m, q, Dd, Pl, hcs, _, hl, hm, hmm, _, hx⟩
 ·
  simp at hcs
  obtain ⟨rfl, rfl, rfl⟩ := hcs
  exact ⟨[], ⟨rfl, fun i hi => absurd hi (by omega)⟩, Nat.zero_le _, fun x hx => by simp at hx⟩
 ·
  simp at hcs
  obtain ⟨rfl, rfl, rfl⟩ := hcs
  have hm2 : m = cap := by simpa using hmm
  have ce : Tryz.prog.cellsOf 119 = 8 := by kernel_rfl
  have cReq : Tryz.prog.cellsOf 37 = 4 := by kernel_rfl
  have cResp : Tryz.prog.cellsOf 39 = 3 := by kernel_rfl
  have ci : Tryz.prog.cellsOf 3 = 1 := by kernel_rfl
  have each : ∀ i, i < n → ∃ y : SeD, (∃ (a2 : Option Addr) (c2 : Nat) (a5 : Option Addr) (c5 : Nat), (W.cell? (ad.add (i * 8 + 0)) = some (.int .i64 y.qmt) ∧ W.cell? (ad.add (i * 8 + 1)) = some (.string y.qpa) ∧ W.cell? (ad.add (i * 8 + 2)) = some (.slice a2 y.qfs.length c2) ∧ W.cell? (ad.add (i * 8 + 3)) = some (.string y.qbd) ∧ W.cell? (ad.add (i * 8 + 4)) = some (.int .i64 y.rst) ∧ W.cell? (ad.add (i * 8 + 5)) = some (.slice a5 y.rfs.length c5) ∧ W.cell? (ad.add (i * 8 + 6)) = some (.string y.rbd) ∧ W.cell? (ad.add (i * 8 + 7)) = some (.int .i64 y.tim)) ∧ ArgF W W.heap.size a2 y.qfs.length y.qfs ∧ ArgF W W.heap.size a5 y.rfs.length y.rfs) ∧ SeMax y := by
   intro i hi
   obtain ⟨cs', h1, h2⟩ := hx i (by omega)
   rw [ce] at h1
   obtain ⟨_, hlen, hcell⟩ := World.cells?_some h1
   obtain ⟨xs, k, hk, hxy, _, hxl, hf⟩ := DataW.trod_struct Tryz.underlying119 h2
   match xs, hxl, cs', hlen with
   | [x0, x1, x2], _, [v0, v1, v2, v3, v4, v5, v6, v7], _ =>
    have g0 := hf 0 _ rfl
    have g1 := hf 1 _ rfl
    have g2 := hf 2 _ rfl
    simp [cReq, cResp, ci] at g0 g1 g2
    obtain ⟨qmt, qpa, qfs, qbd, a2, n2, c2, ⟨rfl, rfl, rfl, rfl⟩, w2, m2, s2, zqpa, zqbd⟩ := cellsReq g0
    obtain ⟨rst, rfs, rbd, a5, n5, c5, ⟨rfl, rfl, rfl⟩, w5, m5, s5, zrbd⟩ := cellsResp g1
    obtain ⟨tim, e2, _, _⟩ := DataW.trod_int Tryz.underlying3 g2
    simp only [List.cons.injEq, and_true] at e2
    subst e2
    obtain rfl := w2.len
    obtain rfl := w5.len
    have c0x := hcell 0 (by omega)
    have c1x := hcell 1 (by omega)
    have c2x := hcell 2 (by omega)
    have c3x := hcell 3 (by omega)
    have c4x := hcell 4 (by omega)
    have c5x := hcell 5 (by omega)
    have c6x := hcell 6 (by omega)
    have c7x := hcell 7 (by omega)
    rw [Go.Deep.add_add] at c0x c1x c2x c3x c4x c5x c6x c7x
    refine ⟨⟨qmt, qpa, qfs, qbd, rst, rfs, rbd, tim⟩, ⟨a2, c2, a5, c5, ⟨by simpa using c0x, by simpa using c1x, by simpa using c2x, by simpa using c3x, by simpa using c4x, by simpa using c5x, by simpa using c6x, by simpa using c7x⟩, w2, w5⟩, ⟨zqpa, ⟨m2, s2⟩, zqbd, ⟨m5, s5⟩, zrbd⟩⟩
  haveI : Inhabited SeD := ⟨zeroSe⟩
  obtain ⟨q, hq⟩ := Go.Deep.choose_lt each
  have hat : ∀ i, i < n → seAt ((List.range n).map q) i = q i := fun i hi => by
   unfold seAt
   rw [List.getD_eq_getElem?_getD, List.getElem?_map, List.getElem?_range hi]
   rfl
  refine ⟨(List.range n).map q, ⟨by simp, fun i hi => ?_⟩, by omega, fun x hx => ?_⟩
  ·
   obtain ⟨⟨a2, c2, a5, c5, cc, w2, w5⟩, _⟩ := hq i hi
   have hsp : ad.spot = none := by
    obtain ⟨⟨_, _, _, _, c3, _⟩, _⟩ := hq 0 (by omega)
    have := World.cell?_spot c3.1
    simpa [Addr.add] using this
   obtain ⟨b, off, sp⟩ := ad
   simp only at hsp
   subst hsp
   simp only [addr_add] at cc
   rw [hat i hi]
   have hlt := World.block_lt_of_cell? W _ cc.1
   exact ⟨b, off, rfl, hlt, a2, c2, a5, c5, ⟨by simpa [Nat.add_assoc] using cc.1, by simpa [Nat.add_assoc] using cc.2.1, by simpa [Nat.add_assoc] using cc.2.2.1, by simpa [Nat.add_assoc] using cc.2.2.2.1, by simpa [Nat.add_assoc] using cc.2.2.2.2.1, by simpa [Nat.add_assoc] using cc.2.2.2.2.2.1, by simpa [Nat.add_assoc] using cc.2.2.2.2.2.2.1, by simpa [Nat.add_assoc] using cc.2.2.2.2.2.2.2⟩, w2, w5⟩
  ·
   obtain ⟨i, hi, rfl⟩ := List.mem_map.1 hx
   exact (hq i (List.mem_range.1 hi)).2
end Go.Proofs.YtbmhonfgffjpcaaGreat
namespace Go.Proofs.YtbmhonfgffjpcaaGreat
open Go.RowKit
open Go.Lib hiding intOf
/-- A list of Reply among the arguments. -/
theorem openReplyS {H : Type} {enc : TypeId × Value → H} {W : World} {fuel : Nat} {a : Option Addr} {n cap : Nat} {x : DataW H × List MemPlace} (h : DataW.trod enc Tryz.prog W 0 (fun _ => true) true fuel 32 [.slice a n cap] = some x) :
  ∃ ks, ArgReply W W.heap.size a n ks ∧ n ≤ maxLen ∧ ∀ k ∈ ks, RpMax k := by
 rcases Go.Deep.open_slice Tryz.underlying32 h with ⟨hcs, _⟩ | ⟨ad, len, c, m, q, Dd, Pl, hcs, _, hl, hm, hmm, _, hx⟩
 ·
  simp at hcs
  obtain ⟨rfl, rfl, rfl⟩ := hcs
  exact ⟨[], ⟨rfl, fun i hi => absurd hi (by omega)⟩, Nat.zero_le _, fun x hx => by simp at hx⟩
 ·
  simp at hcs
  obtain ⟨rfl, rfl, rfl⟩ := hcs
  have hm2 : m = cap := by simpa using hmm
  have ce : Tryz.prog.cellsOf 43 = 18 := by kernel_rfl
  have ci : Tryz.prog.cellsOf 3 = 1 := by kernel_rfl
  have cReq : Tryz.prog.cellsOf 37 = 4 := by kernel_rfl
  have cResp : Tryz.prog.cellsOf 39 = 3 := by kernel_rfl
  have cObj : Tryz.prog.cellsOf 41 = 7 := by kernel_rfl
  have each : ∀ i, i < n → ∃ y : RpD, (∃ (a3 : Option Addr) (c3 : Nat) (a6 : Option Addr) (c6 : Nat) (a11 : Option Addr) (c11 : Nat) (a12 : Option Addr) (c12 : Nat) (a14 : Option Addr) (c14 : Nat), (W.cell? (ad.add (i * 18 + 0)) = some (.int .i64 y.cli) ∧ W.cell? (ad.add (i * 18 + 1)) = some (.int .i64 y.qmt) ∧ W.cell? (ad.add (i * 18 + 2)) = some (.string y.qpa) ∧ W.cell? (ad.add (i * 18 + 3)) = some (.slice a3 y.qfs.length c3) ∧ W.cell? (ad.add (i * 18 + 4)) = some (.string y.qbd) ∧ W.cell? (ad.add (i * 18 + 5)) = some (.int .i64 y.rst) ∧ W.cell? (ad.add (i * 18 + 6)) = some (.slice a6 y.rfs.length c6) ∧ W.cell? (ad.add (i * 18 + 7)) = some (.string y.rbd) ∧ W.cell? (ad.add (i * 18 + 8)) = some (.int .i64 y.knd) ∧ W.cell? (ad.add (i * 18 + 9)) = some (.int .i64 y.tim) ∧ W.cell? (ad.add (i * 18 + 10)) = some (.string y.opa) ∧ W.cell? (ad.add (i * 18 + 11)) = some (.slice a11 y.oxs.length c11) ∧ W.cell? (ad.add (i * 18 + 12)) = some (.slice a12 y.oys.length c12) ∧ W.cell? (ad.add (i * 18 + 13)) = some (.int .i64 y.ost) ∧ W.cell? (ad.add (i * 18 + 14)) = some (.slice a14 y.ofs.length c14) ∧ W.cell? (ad.add (i * 18 + 15)) = some (.string y.obd) ∧ W.cell? (ad.add (i * 18 + 16)) = some (.int .i64 y.otm) ∧ W.cell? (ad.add (i * 18 + 17)) = some (.int .i64 y.bns)) ∧ ArgF W W.heap.size a3 y.qfs.length y.qfs ∧ ArgF W W.heap.size a6 y.rfs.length y.rfs ∧ ArgT W W.heap.size a11 y.oxs.length y.oxs ∧ ArgT W W.heap.size a12 y.oys.length y.oys ∧ ArgF W W.heap.size a14 y.ofs.length y.ofs) ∧ RpMax y := by
   intro i hi
   obtain ⟨cs', h1, h2⟩ := hx i (by omega)
   rw [ce] at h1
   obtain ⟨_, hlen, hcell⟩ := World.cells?_some h1
   obtain ⟨xs, k, hk, hxy, _, hxl, hf⟩ := DataW.trod_struct Tryz.underlying43 h2
   match xs, hxl, cs', hlen with
   | [x0, x1, x2, x3, x4, x5, x6], _, [v0, v1, v2, v3, v4, v5, v6, v7, v8, v9, v10, v11, v12, v13, v14, v15, v16, v17], _ =>
    have g0 := hf 0 _ rfl
    have g1 := hf 1 _ rfl
    have g2 := hf 2 _ rfl
    have g3 := hf 3 _ rfl
    have g4 := hf 4 _ rfl
    have g5 := hf 5 _ rfl
    have g6 := hf 6 _ rfl
    simp [ci, cReq, cResp, cObj] at g0 g1 g2 g3 g4 g5 g6
    obtain ⟨cli, e0, _, _⟩ := DataW.trod_int Tryz.underlying3 g0
    simp only [List.cons.injEq, and_true] at e0
    subst e0
    obtain ⟨qmt, qpa, qfs, qbd, a3, n3, c3, ⟨rfl, rfl, rfl, rfl⟩, w3, m3, s3, zqpa, zqbd⟩ := cellsReq g1
    obtain ⟨rst, rfs, rbd, a6, n6, c6, ⟨rfl, rfl, rfl⟩, w6, m6, s6, zrbd⟩ := cellsResp g2
    obtain ⟨knd, e3, _, _⟩ := DataW.trod_int Tryz.underlying3 g3
    simp only [List.cons.injEq, and_true] at e3
    subst e3
    obtain ⟨tim, e4, _, _⟩ := DataW.trod_int Tryz.underlying3 g4
    simp only [List.cons.injEq, and_true] at e4
    subst e4
    obtain ⟨opa, a11, n11, c11, oxs, a12, n12, c12, oys, ost, a14, n14, c14, ofs, obd, otm, ⟨rfl, rfl, rfl, rfl, rfl, rfl, rfl⟩, w11, w12, w14, m11, m12, m14, s11, s12, s14, zopa, zobd⟩ := objCells g5
    obtain ⟨bns, e6, _, _⟩ := DataW.trod_int Tryz.underlying3 g6
    simp only [List.cons.injEq, and_true] at e6
    subst e6
    obtain rfl := w3.len
    obtain rfl := w6.len
    obtain rfl := w11.len
    obtain rfl := w12.len
    obtain rfl := w14.len
    have c0x := hcell 0 (by omega)
    have c1x := hcell 1 (by omega)
    have c2x := hcell 2 (by omega)
    have c3x := hcell 3 (by omega)
    have c4x := hcell 4 (by omega)
    have c5x := hcell 5 (by omega)
    have c6x := hcell 6 (by omega)
    have c7x := hcell 7 (by omega)
    have c8x := hcell 8 (by omega)
    have c9x := hcell 9 (by omega)
    have c10x := hcell 10 (by omega)
    have c11x := hcell 11 (by omega)
    have c12x := hcell 12 (by omega)
    have c13x := hcell 13 (by omega)
    have c14x := hcell 14 (by omega)
    have c15x := hcell 15 (by omega)
    have c16x := hcell 16 (by omega)
    have c17x := hcell 17 (by omega)
    rw [Go.Deep.add_add] at c0x c1x c2x c3x c4x c5x c6x c7x c8x c9x c10x c11x c12x c13x c14x c15x c16x c17x
    refine ⟨⟨cli, qmt, qpa, qfs, qbd, rst, rfs, rbd, knd, tim, opa, oxs, oys, ost, ofs, obd, otm, bns⟩, ⟨a3, c3, a6, c6, a11, c11, a12, c12, a14, c14, ⟨by simpa using c0x, by simpa using c1x, by simpa using c2x, by simpa using c3x, by simpa using c4x, by simpa using c5x, by simpa using c6x, by simpa using c7x, by simpa using c8x, by simpa using c9x, by simpa using c10x, by simpa using c11x, by simpa using c12x, by simpa using c13x, by simpa using c14x, by simpa using c15x, by simpa using c16x, by simpa using c17x⟩, w3, w6, w11, w12, w14⟩, ⟨zqpa, ⟨m3, s3⟩, zqbd, ⟨m6, s6⟩, zrbd, zopa, ⟨m11, s11⟩, ⟨m12, s12⟩, ⟨m14, s14⟩, zobd⟩⟩
  haveI : Inhabited RpD := ⟨zeroRp⟩
  obtain ⟨q, hq⟩ := Go.Deep.choose_lt each
  have hat : ∀ i, i < n → rpAt ((List.range n).map q) i = q i := fun i hi => by
   unfold rpAt
   rw [List.getD_eq_getElem?_getD, List.getElem?_map, List.getElem?_range hi]
   rfl
  refine ⟨(List.range n).map q, ⟨by simp, fun i hi => ?_⟩, by omega, fun x hx => ?_⟩
  ·
   obtain ⟨⟨a3, c3, a6, c6, a11, c11, a12, c12, a14, c14, cc, w3, w6, w11, w12, w14⟩, _⟩ := hq i hi
   have hsp : ad.spot = none := by
    obtain ⟨⟨_, _, _, _, _, _, _, _, _, _, c3, _⟩, _⟩ := hq 0 (by omega)
    have := World.cell?_spot c3.1
    simpa [Addr.add] using this
   obtain ⟨b, off, sp⟩ := ad
   simp only at hsp
   subst hsp
   simp only [addr_add] at cc
   rw [hat i hi]
   have hlt := World.block_lt_of_cell? W _ cc.1
   exact ⟨b, off, rfl, hlt, a3, c3, a6, c6, a11, c11, a12, c12, a14, c14, ⟨by simpa [Nat.add_assoc] using cc.1, by simpa [Nat.add_assoc] using cc.2.1, by simpa [Nat.add_assoc] using cc.2.2.1, by simpa [Nat.add_assoc] using cc.2.2.2.1, by simpa [Nat.add_assoc] using cc.2.2.2.2.1, by simpa [Nat.add_assoc] using cc.2.2.2.2.2.1, by simpa [Nat.add_assoc] using cc.2.2.2.2.2.2.1, by simpa [Nat.add_assoc] using cc.2.2.2.2.2.2.2.1, by simpa [Nat.add_assoc] using cc.2.2.2.2.2.2.2.2.1, by simpa [Nat.add_assoc] using cc.2.2.2.2.2.2.2.2.2.1, by simpa [Nat.add_assoc] using cc.2.2.2.2.2.2.2.2.2.2.1, by simpa [Nat.add_assoc] using cc.2.2.2.2.2.2.2.2.2.2.2.1, by simpa [Nat.add_assoc] using cc.2.2.2.2.2.2.2.2.2.2.2.2.1, by simpa [Nat.add_assoc] using cc.2.2.2.2.2.2.2.2.2.2.2.2.2.1, by simpa [Nat.add_assoc] using cc.2.2.2.2.2.2.2.2.2.2.2.2.2.2.1, by simpa [Nat.add_assoc] using cc.2.2.2.2.2.2.2.2.2.2.2.2.2.2.2.1, by simpa [Nat.add_assoc] using cc.2.2.2.2.2.2.2.2.2.2.2.2.2.2.2.2.1, by simpa [Nat.add_assoc] using cc.2.2.2.2.2.2.2.2.2.2.2.2.2.2.2.2.2⟩, w3, w6, w11, w12, w14⟩
  ·
   obtain ⟨i, hi, rfl⟩ := List.mem_map.1 hx
   exact (hq i (List.mem_range.1 hi)).2
end Go.Proofs.YtbmhonfgffjpcaaGreat
namespace Go.Proofs.YtbmhonfgffjpcaaGreat
open Go.RowKit Go.WideShapes
open Go.Lib hiding intOf
/-- A store's six cells among the arguments. -/
theorem cellsShelf {H : Type} {enc : TypeId × Value → H} {W : World} {fuel : Nat} {d0 d1 d2 d3 d4 d5 : Value} {x : DataW H × List MemPlace} (hf : DataW.trod enc Tryz.prog W 0 (fun _ => true) true fuel 29 [d0, d1, d2, d3, d4, d5] = some x) :
  ∃ (a1 : Option Addr) (n1 c1 : Nat) (cs : List ByteArray) (a2 : Option Addr) (n2 c2 : Nat) (ws : List (Int × ByteArray)) (a3 : Option Addr) (n3 c3 : Nat) (ks : List KpD) (a4 : Option Addr) (n4 c4 : Nat) (bl : List (Int × ByteArray × ByteArray × Int)) (nx sq : Int), (d0 = .slice a1 n1 c1 ∧ d1 = .slice a2 n2 c2 ∧ d2 = .slice a3 n3 c3 ∧ d3 = .slice a4 n4 c4 ∧ d4 = .int .i64 nx ∧ d5 = .int .i64 sq) ∧ ArgT W W.heap.size a1 n1 cs ∧ ArgWrite W W.heap.size a2 n2 ws ∧ ArgKept W W.heap.size a3 n3 ks ∧ ArgBan W W.heap.size a4 n4 bl ∧ (n1 ≤ maxLen ∧ n2 ≤ maxLen ∧ n3 ≤ maxLen ∧ n4 ≤ maxLen ∧ (∀ i, i < n1 → (textAt cs i).size ≤ maxLen) ∧ (∀ x ∈ ws, (x.2).size ≤ maxLen) ∧ (∀ k ∈ ks, KpMax k) ∧ ∀ x ∈ bl, (x.2.1).size ≤ maxLen ∧ (x.2.2.1).size ≤ maxLen) := by
 obtain ⟨ys, q, _, _, _, hyl, hg⟩ := DataW.trod_struct Tryz.underlying29 hf
 have hcD : Tryz.prog.cellsOf 25 = 2 := by kernel_rfl
 have e3 : Tryz.prog.cellsOf 3 = 1 := by kernel_rfl
 have eK : Tryz.prog.cellsOf 26 = 1 := by kernel_rfl
 have eB : Tryz.prog.cellsOf 27 = 1 := by kernel_rfl
 have eS : Tryz.prog.cellsOf 22 = 1 := by kernel_rfl
 have eW : Tryz.prog.cellsOf 23 = 1 := by kernel_rfl
 have g0 := hg 0 _ rfl
 have g1 := hg 1 _ rfl
 have g2 := hg 2 _ rfl
 have g3 := hg 3 _ rfl
 have g4 := hg 4 _ rfl
 simp [e3, eK, eB, hcD] at g0 g1 g2 g3 g4
 have hy5 : ys.length = 5 := hyl
 rw [List.getElem?_eq_getElem (show 0 < ys.length by omega)] at g0
 rw [List.getElem?_eq_getElem (show 1 < ys.length by omega)] at g1
 rw [List.getElem?_eq_getElem (show 2 < ys.length by omega)] at g2
 rw [List.getElem?_eq_getElem (show 3 < ys.length by omega)] at g3
 rw [List.getElem?_eq_getElem (show 4 < ys.length by omega)] at g4
 obtain ⟨zs, q2, _, _, _, hzl, hk⟩ := DataW.trod_struct Tryz.underlying25 g0
 have k0 := hk 0 _ rfl
 have k1 := hk 1 _ rfl
 simp [eS, eW] at k0 k1
 have hz2 : zs.length = 2 := hzl
 rw [List.getElem?_eq_getElem (show 0 < zs.length by omega)] at k0
 rw [List.getElem?_eq_getElem (show 1 < zs.length by omega)] at k1
 obtain ⟨a1, n1, c1, rfl⟩ : ∃ a n cap, d0 = .slice a n cap := by
  rcases DataW.trod_slice Tryz.underlying22 k0 with ⟨h, _⟩ | ⟨a, n, cap, _, _, _, _, h, _⟩
  · exact ⟨none, 0, 0, by simpa using h⟩
  · exact ⟨_, n, cap, by simpa using h⟩
 obtain ⟨a2, n2, c2, rfl⟩ : ∃ a n cap, d1 = .slice a n cap := by
  rcases DataW.trod_slice Tryz.underlying23 k1 with ⟨h, _⟩ | ⟨a, n, cap, _, _, _, _, h, _⟩
  · exact ⟨none, 0, 0, by simpa using h⟩
  · exact ⟨_, n, cap, by simpa using h⟩
 obtain ⟨a3, n3, c3, rfl⟩ : ∃ a n cap, d2 = .slice a n cap := by
  rcases DataW.trod_slice Tryz.underlying26 g1 with ⟨h, _⟩ | ⟨a, n, cap, _, _, _, _, h, _⟩
  · exact ⟨none, 0, 0, by simpa using h⟩
  · exact ⟨_, n, cap, by simpa using h⟩
 obtain ⟨a4, n4, c4, rfl⟩ : ∃ a n cap, d3 = .slice a n cap := by
  rcases DataW.trod_slice Tryz.underlying27 g2 with ⟨h, _⟩ | ⟨a, n, cap, _, _, _, _, h, _⟩
  · exact ⟨none, 0, 0, by simpa using h⟩
  · exact ⟨_, n, cap, by simpa using h⟩
 obtain ⟨nx, h4, _, _⟩ := DataW.trod_int Tryz.underlying3 g3
 obtain ⟨sq, h5, _, _⟩ := DataW.trod_int Tryz.underlying3 g4
 obtain ⟨xs, x1, x2, x3⟩ := openTexts k0
 obtain ⟨ws, y1, y2, y3⟩ := openWriteS k1
 obtain ⟨ks, z1, z2, z3⟩ := openKeptS g1
 obtain ⟨bl, b1, b2, b3⟩ := openBanS g2
 simp only [List.cons.injEq, and_true] at h4 h5
 subst h4 h5
 exact ⟨a1, n1, c1, xs, a2, n2, c2, ws, a3, n3, c3, ks, a4, n4, c4, bl, nx, sq, ⟨rfl, rfl, rfl, rfl, rfl, rfl⟩, x1, y1, z1, b1, x2, y2, z2, b2, x3, y3, z3, b3⟩
/-- A cache among the arguments: what it holds. -/
theorem openCache {H : Type} {enc : TypeId × Value → H} {W : World} {r : Reach} {b0 : Nat} {v : Value} {d : DataW H} {ps : List MemPlace} (hval : Value.okWide Tryz.prog W r b0 34 v) (h : DataW.Trod enc Tryz.prog W 0 (fun _ => true) true 34 v d ps) :
  ∃ (a1 : Option Addr) (n1 c1 : Nat) (cs : List ByteArray) (a2 : Option Addr) (n2 c2 : Nat) (ws : List (Int × ByteArray)) (a3 : Option Addr) (n3 c3 : Nat) (ks : List KpD) (a4 : Option Addr) (n4 c4 : Nat) (bl : List (Int × ByteArray × ByteArray × Int)) (nx sq : Int) (a5 : Option Addr) (n5 c5 : Nat) (fl : List FlD) (now : Int) (a6 : Option Addr) (n6 c6 : Nat) (se : List SeD) (a7 : Option Addr) (n7 c7 : Nat) (sn : List RpD), v = .agg #[.slice a1 n1 c1, .slice a2 n2 c2, .slice a3 n3 c3, .slice a4 n4 c4, .int .i64 nx, .int .i64 sq, .slice a5 n5 c5, .int .i64 now, .slice a6 n6 c6, .slice a7 n7 c7] ∧ ArgT W W.heap.size a1 n1 cs ∧ ArgWrite W W.heap.size a2 n2 ws ∧ ArgKept W W.heap.size a3 n3 ks ∧ ArgBan W W.heap.size a4 n4 bl ∧ ArgFlight W W.heap.size a5 n5 fl ∧ ArgSeen W W.heap.size a6 n6 se ∧ ArgReply W W.heap.size a7 n7 sn ∧ ((n1 ≤ maxLen ∧ n2 ≤ maxLen ∧ n3 ≤ maxLen ∧ n4 ≤ maxLen ∧ (∀ i, i < n1 → (textAt cs i).size ≤ maxLen) ∧ (∀ x ∈ ws, (x.2).size ≤ maxLen) ∧ (∀ k ∈ ks, KpMax k) ∧ ∀ x ∈ bl, (x.2.1).size ≤ maxLen ∧ (x.2.2.1).size ≤ maxLen) ∧ (n5 ≤ maxLen ∧ ∀ k ∈ fl, FlMax k) ∧ (n6 ≤ maxLen ∧ ∀ k ∈ se, SeMax k) ∧ n7 ≤ maxLen ∧ ∀ k ∈ sn, RpMax k) := by
 obtain ⟨cs, rfl, hsz⟩ := okWide_struct Tryz.underlying34 hval
 obtain ⟨fuel, hf⟩ := h
 obtain ⟨ys, q, _, _, _, hyl, hg⟩ := DataW.trod_struct Tryz.underlying34 hf
 have hcC : Tryz.prog.cellsOf 34 = 10 := by kernel_rfl
 have hcH : Tryz.prog.cellsOf 29 = 6 := by kernel_rfl
 have e3 : Tryz.prog.cellsOf 3 = 1 := by kernel_rfl
 have eF : Tryz.prog.cellsOf 30 = 1 := by kernel_rfl
 have eS : Tryz.prog.cellsOf 31 = 1 := by kernel_rfl
 have eR : Tryz.prog.cellsOf 32 = 1 := by kernel_rfl
 rw [hcC] at hsz
 obtain ⟨l⟩ := cs
 obtain ⟨d0, d1, d2, d3, d4, d5, d6, d7, d8, d9, rfl⟩ : ∃ d0 d1 d2 d3 d4 d5 d6 d7 d8 d9, l = [d0, d1, d2, d3, d4, d5, d6, d7, d8, d9] := by
  match l, hsz with
  | [d0, d1, d2, d3, d4, d5, d6, d7, d8, d9], _ => exact ⟨d0, d1, d2, d3, d4, d5, d6, d7, d8, d9, rfl⟩
 have g0 := hg 0 _ rfl
 have g1 := hg 1 _ rfl
 have g2 := hg 2 _ rfl
 have g3 := hg 3 _ rfl
 have g4 := hg 4 _ rfl
 simp [Value.cells, e3, eF, eS, eR, hcH] at g0 g1 g2 g3 g4
 have hy5 : ys.length = 5 := hyl
 rw [List.getElem?_eq_getElem (show 0 < ys.length by omega)] at g0
 rw [List.getElem?_eq_getElem (show 1 < ys.length by omega)] at g1
 rw [List.getElem?_eq_getElem (show 2 < ys.length by omega)] at g2
 rw [List.getElem?_eq_getElem (show 3 < ys.length by omega)] at g3
 rw [List.getElem?_eq_getElem (show 4 < ys.length by omega)] at g4
 obtain ⟨a5, n5, c5, rfl⟩ : ∃ a n cap, d6 = .slice a n cap := by
  rcases DataW.trod_slice Tryz.underlying30 g1 with ⟨h, _⟩ | ⟨a, n, cap, _, _, _, _, h, _⟩
  · exact ⟨none, 0, 0, by simpa using h⟩
  · exact ⟨_, n, cap, by simpa using h⟩
 obtain ⟨a6, n6, c6, rfl⟩ : ∃ a n cap, d8 = .slice a n cap := by
  rcases DataW.trod_slice Tryz.underlying31 g3 with ⟨h, _⟩ | ⟨a, n, cap, _, _, _, _, h, _⟩
  · exact ⟨none, 0, 0, by simpa using h⟩
  · exact ⟨_, n, cap, by simpa using h⟩
 obtain ⟨a7, n7, c7, rfl⟩ : ∃ a n cap, d9 = .slice a n cap := by
  rcases DataW.trod_slice Tryz.underlying32 g4 with ⟨h, _⟩ | ⟨a, n, cap, _, _, _, _, h, _⟩
  · exact ⟨none, 0, 0, by simpa using h⟩
  · exact ⟨_, n, cap, by simpa using h⟩
 obtain ⟨now, h2, _, _⟩ := DataW.trod_int Tryz.underlying3 g2
 obtain ⟨a1, n1, c1, cs, a2, n2, c2, ws, a3, n3, c3, ks, a4, n4, c4, bl, nx, sq, ⟨rfl, rfl, rfl, rfl, rfl, rfl⟩, w1, w2, w3, w4, hmx⟩ := cellsShelf g0
 obtain ⟨fl, x1, x2, x3⟩ := openFlightS g1
 obtain ⟨se, y1, y2, y3⟩ := openSeenS g3
 obtain ⟨sn, z1, z2, z3⟩ := openReplyS g4
 simp only [List.cons.injEq, and_true] at h2
 subst h2
 exact ⟨a1, n1, c1, cs, a2, n2, c2, ws, a3, n3, c3, ks, a4, n4, c4, bl, nx, sq, a5, n5, c5, fl, now, a6, n6, c6, se, a7, n7, c7, sn, rfl, w1, w2, w3, w4, x1, y1, z1, hmx, ⟨x2, x3⟩, ⟨y2, y3⟩, z2, z3⟩
end Go.Proofs.YtbmhonfgffjpcaaGreat
