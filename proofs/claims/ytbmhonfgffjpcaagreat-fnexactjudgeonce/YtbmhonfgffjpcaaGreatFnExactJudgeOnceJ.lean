/- What the proof of FnExactJudgeOnce leans on: contracts of the program's and the specification's functions, and plain facts (part 10 of 11). -/
import Derived.Test.YtbmhonfgffjpcaaGreatFnExactJudgeOnceI
set_option maxHeartbeats 16000000
set_option maxRecDepth 100000
namespace Go.Proofs.YtbmhonfgffjpcaaGreat
open Go.RowKit
open Go.Lib hiding intOf
theorem isClientOnce_any (v1 v2 V VB F E R : Value) (kv : List (KpD × Value × Value × Value)) (fv : List FlV) (ev : List SeV) (rv : List RpV) (c : CaD) (B : Nat) (w : World) (h : CacheO w B v1 v2 V VB F E R kv fv ev rv c) (hz : CaSmall c) (hp : CacheP c) :
  Calls Tryz.prog 88 #[.agg #[v1, v2, V, VB, .int .i64 c.s.nx, .int .i64 c.s.sq, F, .int .i64 c.now, E, R]] w fun e w' => BoolIs (OnceP c) w e w' := by
 obtain ⟨o1, c1, rfl⟩ := slice_of_owns h.shelf.disk.cells
 obtain ⟨o2, c2, rfl⟩ := slice_of_owns h.shelf.disk.pend
 obtain ⟨o3, c3, rfl⟩ := h.shelf.kept.len
 obtain ⟨o4, c4, rfl⟩ := slice_of_owns h.shelf.bans
 obtain ⟨o5, c5, rfl⟩ := h.fls.len
 obtain ⟨o6, c6, rfl⟩ := h.ses.len
 obtain ⟨o7, c7, rfl⟩ := h.rps.len
 obtain ⟨n3, hn3⟩ := exq kv.length
 obtain ⟨n4, hn4⟩ := exq (c.s.bl.length)
 obtain ⟨n5, hn5⟩ := exq fv.length
 obtain ⟨n6, hn6⟩ := exq ev.length
 obtain ⟨n7, hn7⟩ := exq rv.length
 rw [← hn3, ← hn4, ← hn5, ← hn6, ← hn7] at h ⊢
 have HLK : Hid (kv.length = n3) := hn3.symm
 have HLB : Hid (c.s.bl.length = n4) := hn4.symm
 have HLF : Hid (fv.length = n5) := hn5.symm
 have HLE : Hid (ev.length = n6) := hn6.symm
 have HLR : Hid (rv.length = n7) := hn7.symm
 have HLC : Hid (c.fl.length = n5 ∧ c.se.length = n6 ∧ c.sn.length = n7 ∧ c.s.ks.length = n3) := ⟨by rw [← h.hf, List.length_map, hn5], by rw [← h.he, List.length_map, hn6], by rw [← h.hr, List.length_map, hn7], by rw [← h.hk, List.length_map, hn3]⟩
 have HFD : Hid (fv.map (·.d) = c.fl) := h.hf
 have HED : Hid (ev.map (·.d) = c.se) := h.he
 have HRD : Hid (rv.map (·.d) = c.sn) := h.hr
 have HKS : Hid (kv.map (·.1) = c.s.ks) := h.hk
 have HZ : Hid (CaSmall c) := hz
 have bn3 : n3 ≤ 1048576 := by rw [← HLC.out.2.2.2]; exact hz.s.k
 have bn4 : n4 ≤ 1048576 := by rw [← HLB.out]; exact hz.s.b
 have bn5 : n5 ≤ 1048576 := by rw [← HLC.out.1]; exact hz.nf
 have bn6 : n6 ≤ 1048576 := by rw [← HLC.out.2.1]; exact hz.ne
 have bn7 : n7 ≤ 1048576 := by rw [← HLC.out.2.2.1]; exact hz.nr
 have HCA : Hid (∀ W, Below w.heap.size w W → CacheO W B (.slice o1 c.s.cs.length c1) (.slice o2 c.s.ws.length c2) (.slice o3 n3 c3) (.slice o4 n4 c4) (.slice o5 n5 c5) (.slice o6 n6 c6) (.slice o7 n7 c7) kv fv ev rv c) := fun W hb => h.below hb
 have HKP : Hid (∀ W, Below w.heap.size w W → KeptsO W B (.slice o3 n3 c3) kv) := fun W hb => (h.below hb).shelf.kept
 have HBN : Hid (∀ W, Below w.heap.size w W → BanA W o4 n4 c.s.bl) := fun W hb => by
  have h1 := (h.below hb).shelf.bans
  rw [HLB.out] at h1
  exact ban_view h1
 have HC4 : Hid (n4 ≤ c4) := by
  have h1 := h.shelf.bans
  rw [HLB.out] at h1
  exact owns_cap h1
 clear hn3 hn4 hn5 hn6 hn7 h hz
 have HPP : Hid (CacheP c) := hp
 have bn5' : n5 ≤ 5 := by rw [← HLC.out.1]; exact hp.2.2.1.1
 have bn7' : n7 ≤ 1500 := by rw [← HLC.out.2.2.1]; exact hp.2.2.2.2
 clear hp
 obtain ⟨i0, hi, hz0, hz1, hz2⟩ := info_parts infoInt
 have HFL : Hid (∀ W, Below w.heap.size w W → FlsO W B (.slice o5 n5 c5) fv) := fun W hb => (HCA.out W hb).fls
 have HFS : Hid (∀ x ∈ fv, FlSmall x.d) := fun x hx => HZ.out.fl _ (by rw [← HFD.out]; exact List.mem_map.2 ⟨x, hx, rfl⟩)
 have hb0 : Below w.heap.size w w := Below.refl _ _
 go_enter Tryz.func88, Tryz.ntmps88
 go_upto_region 1 with fail
 obtain ⟨qv1, hqv1⟩ := exq ((w).heap.size)
 obtain ⟨w1, hW1⟩ := exq ((w).alloc (.cells #[.slice o1 c.s.cs.length c1, .slice o2 c.s.ws.length c2, .slice o3 n3 c3, .slice o4 n4 c4, .int .i64 c.s.nx, .int .i64 c.s.sq, .slice o5 n5 c5, .int .i64 c.now, .slice o6 n6 c6, .slice o7 n7 c7] 58))
 have hz1 : (w).heap.size = qv1 := hqv1.symm
 first | rw [← hW1, ← hqv1] | rw [← hW1]
 have hs1 := hsa hW1 hz1
 have bw := bal hW1
 have hb1 := hbt hb0 bw
 have HBv1_1 := hnew hW1 hz1
 clear hb0 bw hW1 hz1
 clear hs1 hqv1
 have cv1_9 := (k10c HBv1_1).2.2.2.2.2.2.2.2.2
 go_wp2_with fail
 clear cv1_9
 have HZ0 : Hid ((w1).ownsRow w.heap.size 3 1 (.slice none 0 0) 0 ((([] : List Int)).map (Value.int .i64))) := by show World.ownsRow _ _ _ _ _ _ _; exact ⟨rfl, .inl ⟨rfl, rfl⟩⟩
 obtain ⟨wI, hwI⟩ := exq w1
 rw [← hwI] at hb1 HBv1_1 HZ0 ⊢
 clear hwI
 go_loopw [3, 11] (fun x3 i wr => ∃ (i' mz : Nat) (oz : Option Addr) (pz : Nat) (zs : List Int), i' ≤ n7 ∧ mz ≤ 0 + 1 * i' ∧ i = .int .i64 (i' : Int) ∧ x3 = .slice oz mz pz ∧ Hid (Below w.heap.size w (wr) ∧ (wr).heap[qv1]? = some (.cells #[.slice o1 c.s.cs.length c1, .slice o2 c.s.ws.length c2, .slice o3 n3 c3, .slice o4 n4 c4, .int .i64 c.s.nx, .int .i64 c.s.sq, .slice o5 n5 c5, .int .i64 c.now, .slice o6 n6 c6, .slice o7 n7 c7] 58)) ∧ Hid (zs = cliTo c.sn i') ∧ Hid (wr.ownsRow w.heap.size 3 1 (.slice oz mz pz) mz ((zs).map (Value.int .i64)))) (fun _ i _ => n7 - (intOf i).toNat)
 case atStart => exact ⟨0, 0, none, 0, [], Nat.zero_le _, by omega, rfl, rfl, ⟨hb1, HBv1_1.out⟩, rfl, HZ0⟩
 case round =>
  clear HZ0
  obtain ⟨i, my, oy, py, ys, hi', hmz, rfl, rfl, HW, HE0, HR0⟩ := hrel
  by_cases hlt : (i : Int) < (n7 : Int)
  ·
   have hb2 := HW.out.1
   have HBv1_2 : Hid ((wr).heap[qv1]? = some (.cells #[.slice o1 c.s.cs.length c1, .slice o2 c.s.ws.length c2, .slice o3 n3 c3, .slice o4 n4 c4, .int .i64 c.s.nx, .int .i64 c.s.sq, .slice o5 n5 c5, .int .i64 c.now, .slice o6 n6 c6, .slice o7 n7 c7] 58)) := HW.out.2
   clear HW hb1 HBv1_1
   have HOz_2 : Hid ((wr).ownsRow w.heap.size 3 1 (.slice oy my py) my (ys.map (Value.int .i64))) := HR0.out
   clear HR0
   obtain ⟨g7, p7, hV, _, _⟩ := (HCA.out _ hb2).rps.look i (by rw [HLR.out]; omega)
   rw [HLR.out] at hV
   injection hV with hV1 hV2 hV3
   subst hV1 hV3
   clear hV2
   obtain ⟨dX, hdX⟩ := exq (rpvAt rv i)
   have HMd : Hid (dX ∈ rv) := by show _ ∈ _; rw [hdX]; exact getD_mem0 _ rv i (by rw [HLR.out]; omega)
   have HEd : Hid (rpAt c.sn i = dX.d) := by show _ = _; rw [hdX, ← HRD.out]; exact getD_map0 _ _ _ rv i (by rw [HLR.out]; omega)
   have HKd : Hid (∀ W, Below w.heap.size w W → RpAt W g7 i dX) := fun W hb => by
    obtain ⟨g', p', hV, _, hc⟩ := (HCA.out W hb).rps.look i (by rw [HLR.out]; omega)
    injection hV with hV1 _ _
    cases hV1
    rw [hdX]
    exact hc
   have HRd : Hid (∀ W, Below w.heap.size w W → RowsO W B (rpR dX)) := fun W hb => (HCA.out W hb).rps.item HMd.out
   have HSd : Hid (RpSmall dX.d) := HZ.out.sn _ (by rw [← HRD.out]; exact List.mem_map.2 ⟨_, HMd.out, rfl⟩)
   clear hdX
   obtain ⟨d, kuv3, kuv6, kuv11, kuv12, kuv14⟩ := dX
   obtain ⟨ku3, kuc3, hu⟩ := slice_of_owns ((HRd.out _ hb2).own (⟨171, 2, kuv3, d.qfs.length, flatF d.qfs⟩ : Rw) (by simp [rpR]))
   obtain rfl : kuv3 = .slice ku3 d.qfs.length kuc3 := hu
   obtain ⟨ku6, kuc6, hu⟩ := slice_of_owns ((HRd.out _ hb2).own (⟨171, 2, kuv6, d.rfs.length, flatF d.rfs⟩ : Rw) (by simp [rpR]))
   obtain rfl : kuv6 = .slice ku6 d.rfs.length kuc6 := hu
   obtain ⟨ku11, kuc11, hu⟩ := slice_of_owns ((HRd.out _ hb2).own (⟨9, 1, kuv11, d.oxs.length, d.oxs.map Value.string⟩ : Rw) (by simp [rpR]))
   obtain rfl : kuv11 = .slice ku11 d.oxs.length kuc11 := hu
   obtain ⟨ku12, kuc12, hu⟩ := slice_of_owns ((HRd.out _ hb2).own (⟨9, 1, kuv12, d.oys.length, d.oys.map Value.string⟩ : Rw) (by simp [rpR]))
   obtain rfl : kuv12 = .slice ku12 d.oys.length kuc12 := hu
   obtain ⟨ku14, kuc14, hu⟩ := slice_of_owns ((HRd.out _ hb2).own (⟨171, 2, kuv14, d.ofs.length, flatF d.ofs⟩ : Rw) (by simp [rpR]))
   obtain rfl : kuv14 = .slice ku14 d.ofs.length kuc14 := hu
   have HRGe7 : World.rangeAt (wr) g7 (i * 18) [.int .i64 d.cli, .int .i64 d.qmt, .string d.qpa, .slice ku3 d.qfs.length kuc3, .string d.qbd, .int .i64 d.rst, .slice ku6 d.rfs.length kuc6, .string d.rbd, .int .i64 d.knd, .int .i64 d.tim, .string d.opa, .slice ku11 d.oxs.length kuc11, .slice ku12 d.oys.length kuc12, .int .i64 d.ost, .slice ku14 d.ofs.length kuc14, .string d.obd, .int .i64 d.otm, .int .i64 d.bns] := RpAt.range (HKd.out _ hb2)
   have HIFe7 : (Tryz.prog.info? 68).map (·.size) = some 18 := by kernel_rfl
   have HTHa : World.there ((wr).alloc (.cells #[.int .i64 0, .int .i64 0, .string ⟨#[]⟩, .slice none 0 0, .string ⟨#[]⟩, .int .i64 0, .slice none 0 0, .string ⟨#[]⟩, .int .i64 0, .int .i64 0, .string ⟨#[]⟩, .slice none 0 0, .slice none 0 0, .int .i64 0, .slice none 0 0, .string ⟨#[]⟩, .int .i64 0, .int .i64 0] 68)) (wr).heap.size 0 18 := there_of (heap_alloc_new _ _) rfl
   have HIFa : (Tryz.prog.info? 68).map (·.size) = some 18 := by kernel_rfl
   have HWEa : Hid (((wr).alloc (.cells #[.int .i64 0, .int .i64 0, .string ⟨#[]⟩, .slice none 0 0, .string ⟨#[]⟩, .int .i64 0, .slice none 0 0, .string ⟨#[]⟩, .int .i64 0, .int .i64 0, .string ⟨#[]⟩, .slice none 0 0, .slice none 0 0, .int .i64 0, .slice none 0 0, .string ⟨#[]⟩, .int .i64 0, .int .i64 0] 68)).setCells (wr).heap.size 0 (#[.int .i64 d.cli, .int .i64 d.qmt, .string d.qpa, .slice ku3 d.qfs.length kuc3, .string d.qbd, .int .i64 d.rst, .slice ku6 d.rfs.length kuc6, .string d.rbd, .int .i64 d.knd, .int .i64 d.tim, .string d.opa, .slice ku11 d.oxs.length kuc11, .slice ku12 d.oys.length kuc12, .int .i64 d.ost, .slice ku14 d.ofs.length kuc14, .string d.obd, .int .i64 d.otm, .int .i64 d.bns] : Array Value).toList = (wr).alloc (.cells #[.int .i64 d.cli, .int .i64 d.qmt, .string d.qpa, .slice ku3 d.qfs.length kuc3, .string d.qbd, .int .i64 d.rst, .slice ku6 d.rfs.length kuc6, .string d.rbd, .int .i64 d.knd, .int .i64 d.tim, .string d.opa, .slice ku11 d.oxs.length kuc11, .slice ku12 d.oys.length kuc12, .int .i64 d.ost, .slice ku14 d.ofs.length kuc14, .string d.obd, .int .i64 d.otm, .int .i64 d.bns] 68)) := alloc_whole rfl
   go_upto_region 5 with (first | (refine wpList_load_mid rfl 68 _ rfl g7 (i * 18) rfl [.int .i64 d.cli, .int .i64 d.qmt, .string d.qpa, .slice ku3 d.qfs.length kuc3, .string d.qbd, .int .i64 d.rst, .slice ku6 d.rfs.length kuc6, .string d.rbd, .int .i64 d.knd, .int .i64 d.tim, .string d.opa, .slice ku11 d.oxs.length kuc11, .slice ku12 d.oys.length kuc12, .int .i64 d.ost, .slice ku14 d.ofs.length kuc14, .string d.obd, .int .i64 d.otm, .int .i64 d.bns] _ HRGe7 Tryz.underlying68 rfl HIFe7 ?_) | (refine wpList_store_mid rfl 68 _ _ rfl (wr).heap.size 0 #[.int .i64 d.cli, .int .i64 d.qmt, .string d.qpa, .slice ku3 d.qfs.length kuc3, .string d.qbd, .int .i64 d.rst, .slice ku6 d.rfs.length kuc6, .string d.rbd, .int .i64 d.knd, .int .i64 d.tim, .string d.opa, .slice ku11 d.oxs.length kuc11, .slice ku12 d.oys.length kuc12, .int .i64 d.ost, .slice ku14 d.ofs.length kuc14, .string d.obd, .int .i64 d.otm, .int .i64 d.bns] rfl rfl HTHa HIFa (by simp [Value.oneCell']) ?_; rw [HWEa.out]) | fail)
   clear HTHa HIFa HWEa
   obtain ⟨qv2, hqv2⟩ := exq ((wr).heap.size)
   obtain ⟨w3, hW3⟩ := exq ((wr).alloc (.cells #[.int .i64 d.cli, .int .i64 d.qmt, .string d.qpa, .slice ku3 d.qfs.length kuc3, .string d.qbd, .int .i64 d.rst, .slice ku6 d.rfs.length kuc6, .string d.rbd, .int .i64 d.knd, .int .i64 d.tim, .string d.opa, .slice ku11 d.oxs.length kuc11, .slice ku12 d.oys.length kuc12, .int .i64 d.ost, .slice ku14 d.ofs.length kuc14, .string d.obd, .int .i64 d.otm, .int .i64 d.bns] 68))
   have hz3 : (wr).heap.size = qv2 := hqv2.symm
   first | rw [← hW3, ← hqv2] | rw [← hW3]
   have hs3 := hsa hW3 hz3
   have bw := bal hW3
   have hb3 := hbt hb2 bw
   have HOz_3 := hown HOz_2 bw
   have HBv1_3 := hblk HBv1_2 bw
   have HNv1v2 : Hid (qv1 ≠ qv2) := fun e => by have h1 := (Array.getElem?_eq_some_iff.1 HBv1_2.out).1; omega
   have HBv2_3 := hnew hW3 hz3
   have HGv2 := hge hz3 hb2
   clear hb2 HOz_2 HBv1_2 bw hW3 hz3
   clear hs3 hqv2
   clear HRGe7 HIFe7
   have cv2_0 : (w3).cell? ⟨qv2, 0, none⟩ = some (.int .i64 d.cli) := (cell_of HBv2_3.out 0).trans rfl
   have hown := HOz_3.out
   have h63 : my + 1 ≤ maxLen := by unfold maxLen; omega
   have h47 : (my + 1) * 8 ≤ 140737488355328 := by omega
   have HBS : ∀ o, w.heap.size ≤ (w3.alloc o).heap.size := fun o => by have := hb3.size; simp; omega
   go_wp2_with (at_builtin; refine wpList_append_own _ rfl _ _ 109 rfl w.heap.size 3 i0 (.int .i64 0) 1 8 Tryz.underlying109 hi hz0 hz1 hz2 rfl (by decide) _ _ _ rfl (hown.alloc _) ⟨w3.heap.size, 0, none⟩ 1 1 [.int .i64 d.cli] rfl rfl (cell_one_new _ _ _) (by intro u hu; simp at hu; subst hu; rfl) h63 h47 (HBS _) ?_)
   intro v1 w4 hown2 hgrow _
   have bA : Below w3.heap.size w3 (w3.alloc (.cells #[.int .i64 d.cli] 3)) := (Below.refl _ _).alloc (Nat.le_refl _) _
   have rowGe : ∀ g, (.slice oy my py : Value).ownBlock = some g → w.heap.size ≤ g := fun g hg => owns_ge hown hg
   clear cv2_0
   have hb4 : Below w.heap.size w (w4) := (hb3.trans (bA.mono hb3.size)).grown hgrow (HBS _) rowGe
   have HM4 : Hid ((w3).heap.size ≤ w4.heap.size) := Nat.le_trans bA.size hgrow.size
   have HBv1_4 : Hid ((w4).heap[qv1]? = some (.cells #[.slice o1 c.s.cs.length c1, .slice o2 c.s.ws.length c2, .slice o3 n3 c3, .slice o4 n4 c4, .int .i64 c.s.nx, .int .i64 c.s.sq, .slice o5 n5 c5, .int .i64 c.now, .slice o6 n6 c6, .slice (some ⟨g7, 0, none⟩) n7 c7] 58)) := (hgrow.block _ (Nat.lt_of_lt_of_le (Array.getElem?_eq_some_iff.1 HBv1_3.out).1 bA.size) (fun e => own_ne hown HBv1_3.out (by decide) _ e.symm rfl)).trans (blk_below HBv1_3.out bA)
   have HBv2_4 : Hid ((w4).heap[qv2]? = some (.cells #[.int .i64 d.cli, .int .i64 d.qmt, .string d.qpa, .slice ku3 d.qfs.length kuc3, .string d.qbd, .int .i64 d.rst, .slice ku6 d.rfs.length kuc6, .string d.rbd, .int .i64 d.knd, .int .i64 d.tim, .string d.opa, .slice ku11 d.oxs.length kuc11, .slice ku12 d.oys.length kuc12, .int .i64 d.ost, .slice ku14 d.ofs.length kuc14, .string d.obd, .int .i64 d.otm, .int .i64 d.bns] 68)) := (hgrow.block _ (Nat.lt_of_lt_of_le (Array.getElem?_eq_some_iff.1 HBv2_3.out).1 bA.size) (fun e => own_ne hown HBv2_3.out (by decide) _ e.symm rfl)).trans (blk_below HBv2_3.out bA)
   obtain ⟨ozp, pzp, rfl⟩ := slice_of_owns hown2
   have HOzp_4 : Hid ((w4).ownsRow w.heap.size 3 1 (.slice ozp (my + 1) pzp) (my + 1) ((ys.map (Value.int .i64)) ++ [.int .i64 d.cli])) := hown2
   clear hb3 HOz_3 HBv1_3 HBv2_3 hown h63 h47 HBS hown2 hgrow bA rowGe
   have HR2 : Hid (w4.ownsRow w.heap.size 3 1 (.slice ozp (my + 1) pzp) (my + 1) ((ys ++ [d.cli]).map (Value.int .i64))) := by
    show World.ownsRow _ _ _ _ _ _ _
    rw [List.map_append]
    exact HOzp_4.out
   have HE2 : Hid (ys ++ [d.cli] = cliTo c.sn (i + 1)) := by
    show _ = _
    rw [cliTo_succ c.sn i (by rw [HLC.out.2.2.1]; omega), HEd.out, HE0.out]
   go_wp2_with fail
   go_roundw
   case rel => exact ⟨i + 1, (my + 1), ozp, pzp, ys ++ [d.cli], by omega, by omega, by go_num, rfl, ⟨hb4, HBv1_4.out⟩, HE2, HR2⟩
   case measure => simp [intOf]; omega
  ·
   have hb2 := HW.out.1
   have HBv1_2 : Hid ((wr).heap[qv1]? = some (.cells #[.slice o1 c.s.cs.length c1, .slice o2 c.s.ws.length c2, .slice o3 n3 c3, .slice o4 n4 c4, .int .i64 c.s.nx, .int .i64 c.s.sq, .slice o5 n5 c5, .int .i64 c.now, .slice o6 n6 c6, .slice o7 n7 c7] 58)) := HW.out.2
   clear HW hb1 HBv1_1
   have HOz_2 : Hid ((wr).ownsRow w.heap.size 3 1 (.slice oy my py) my (ys.map (Value.int .i64))) := HR0.out
   clear HR0
   obtain rfl : n7 = i := by omega
   have HEI := HE0
   clear HE0
   have cv1_6 := (k10c HBv1_2).2.2.2.2.2.2.1
   have HOy_2 := HOz_2
   clear HOz_2
   have hmy : my ≤ 1500 := by omega
   go_wp2_with fail
   clear cv1_6
   have HZ0 : Hid ((wr).ownsRow w.heap.size 3 1 (.slice oy my py) my ((ys).map (Value.int .i64))) := by show World.ownsRow _ _ _ _ _ _ _; exact HOy_2.out
   clear HOy_2
   obtain ⟨wK, hwK⟩ := exq wr
   rw [← hwK] at hb2 HBv1_2 HZ0 ⊢
   clear hwK
   go_loopw [3, 24] (fun x3 i wr => ∃ (i' mz : Nat) (oz : Option Addr) (pz : Nat) (zs : List Int), i' ≤ n5 ∧ mz ≤ 1500 + 5 * i' ∧ i = .int .i64 (i' : Int) ∧ x3 = .slice oz mz pz ∧ Hid (Below w.heap.size w (wr) ∧ (wr).heap[qv1]? = some (.cells #[.slice o1 c.s.cs.length c1, .slice o2 c.s.ws.length c2, .slice o3 n3 c3, .slice o4 n4 c4, .int .i64 c.s.nx, .int .i64 c.s.sq, .slice o5 n5 c5, .int .i64 c.now, .slice o6 n6 c6, .slice o7 n7 c7] 58)) ∧ Hid (zs = ys ++ whoTo c.fl i') ∧ Hid (wr.ownsRow w.heap.size 3 1 (.slice oz mz pz) mz ((zs).map (Value.int .i64)))) (fun _ i _ => n5 - (intOf i).toNat)
   case atStart => exact ⟨0, my, oy, py, ys, Nat.zero_le _, by omega, rfl, rfl, ⟨hb2, HBv1_2.out⟩, (List.append_nil _).symm, HZ0⟩
   case round =>
    clear HZ0
    obtain ⟨i, mz, oz, pz, zs, hi', hmz, rfl, rfl, HW, HE0, HR0⟩ := hrel
    by_cases hlt : (i : Int) < (n5 : Int)
    ·
     have hb3 := HW.out.1
     have HBv1_3 : Hid ((wr).heap[qv1]? = some (.cells #[.slice o1 c.s.cs.length c1, .slice o2 c.s.ws.length c2, .slice o3 n3 c3, .slice o4 n4 c4, .int .i64 c.s.nx, .int .i64 c.s.sq, .slice o5 n5 c5, .int .i64 c.now, .slice o6 n6 c6, .slice o7 n7 c7] 58)) := HW.out.2
     clear HW hb2 HBv1_2
     have HOz_3 : Hid ((wr).ownsRow w.heap.size 3 1 (.slice oz mz pz) mz (zs.map (Value.int .i64))) := HR0.out
     clear HR0
     obtain ⟨g5, p5, hV, _, _⟩ := (HFL.out _ hb3).look i (by rw [HLF.out]; omega)
     rw [HLF.out] at hV
     injection hV with hV1 hV2 hV3
     subst hV1 hV3
     clear hV2
     obtain ⟨dX, hdX⟩ := exq (flvAt fv i)
     have HMd : Hid (dX ∈ fv) := by show _ ∈ _; rw [hdX]; exact getD_mem0 _ fv i (by rw [HLF.out]; omega)
     have HEd : Hid (flAt c.fl i = dX.d) := by show _ = _; rw [hdX, ← HFD.out]; exact getD_map0 _ _ _ fv i (by rw [HLF.out]; omega)
     have HKd : Hid (∀ W, Below w.heap.size w W → FlAt W g5 i dX) := fun W hb => by
      obtain ⟨g', p', hV, _, hc⟩ := (HFL.out W hb).look i (by rw [HLF.out]; omega)
      injection hV with hV1 _ _
      cases hV1
      rw [hdX]
      exact hc
     have HRd : Hid (∀ W, Below w.heap.size w W → RowsO W B (flR dX)) := fun W hb => (HFL.out W hb).item HMd.out
     have HSd : Hid (FlSmall dX.d) := HFS.out _ HMd.out
     clear hdX
     obtain ⟨d, kuv2, kuv4, kuv6, kuv7, kuv9⟩ := dX
     obtain ⟨ku2, kuc2, hu⟩ := slice_of_owns ((HRd.out _ hb3).own (⟨171, 2, kuv2, d.qfs.length, flatF d.qfs⟩ : Rw) (by simp [flR]))
     obtain rfl : kuv2 = .slice ku2 d.qfs.length kuc2 := hu
     obtain ⟨ku4, kuc4, hu⟩ := slice_of_owns ((HRd.out _ hb3).own (⟨3, 1, kuv4, d.who.length, d.who.map (Value.int .i64)⟩ : Rw) (by simp [flR]))
     obtain rfl : kuv4 = .slice ku4 d.who.length kuc4 := hu
     obtain ⟨ku6, kuc6, hu⟩ := slice_of_owns ((HRd.out _ hb3).own (⟨9, 1, kuv6, d.oxs.length, d.oxs.map Value.string⟩ : Rw) (by simp [flR]))
     obtain rfl : kuv6 = .slice ku6 d.oxs.length kuc6 := hu
     obtain ⟨ku7, kuc7, hu⟩ := slice_of_owns ((HRd.out _ hb3).own (⟨9, 1, kuv7, d.oys.length, d.oys.map Value.string⟩ : Rw) (by simp [flR]))
     obtain rfl : kuv7 = .slice ku7 d.oys.length kuc7 := hu
     obtain ⟨ku9, kuc9, hu⟩ := slice_of_owns ((HRd.out _ hb3).own (⟨171, 2, kuv9, d.ofs.length, flatF d.ofs⟩ : Rw) (by simp [flR]))
     obtain rfl : kuv9 = .slice ku9 d.ofs.length kuc9 := hu
     have r0d := (HKd.out _ hb3).c0
     have r1d := (HKd.out _ hb3).c1
     have r2d := (HKd.out _ hb3).c2
     have r3d := (HKd.out _ hb3).c3
     have r4d := (HKd.out _ hb3).c4
     have r5d := (HKd.out _ hb3).c5
     have r6d := (HKd.out _ hb3).c6
     have r7d := (HKd.out _ hb3).c7
     have r8d := (HKd.out _ hb3).c8
     have r9d := (HKd.out _ hb3).c9
     have r10d := (HKd.out _ hb3).c10
     have r11d := (HKd.out _ hb3).c11
     have r12d := (HKd.out _ hb3).c12
     dsimp only at r0d r1d r2d r3d r4d r5d r6d r7d r8d r9d r10d r11d r12d
     have hwho : d.who.length ≤ 5 := by have h1 := CacheP.who HPP.out (i := i) (by rw [HLC.out.1]; omega); rw [HEd.out] at h1; exact h1
     go_upto_region 10 with fail
     obtain ⟨qv2, hqv2⟩ := exq ((wr).heap.size)
     obtain ⟨w4, hW4⟩ := exq ((wr).alloc (.cells #[.int .i64 d.qmt, .string d.qpa, .slice ku2 d.qfs.length kuc2, .string d.qbd, .slice ku4 d.who.length kuc4, .string d.opa, .slice ku6 d.oxs.length kuc6, .slice ku7 d.oys.length kuc7, .int .i64 d.ost, .slice ku9 d.ofs.length kuc9, .string d.obd, .int .i64 d.otm, .bool d.has] 129))
     have hz4 : (wr).heap.size = qv2 := hqv2.symm
     first | rw [← hW4, ← hqv2] | rw [← hW4]
     have hs4 := hsa hW4 hz4
     have bw := bal hW4
     have hb4 := hbt hb3 bw
     have HM4 := hsz bw
     have HOz_4 := hown HOz_3 bw
     have HBv1_4 := hblk HBv1_3 bw
     have HNv1v2 : Hid (qv1 ≠ qv2) := fun e => by have h1 := (Array.getElem?_eq_some_iff.1 HBv1_3.out).1; omega
     have HBv2_4 := hnew hW4 hz4
     have HGv2 := hge hz4 hb3
     clear hb3 HOz_3 HBv1_3 bw hW4 hz4
     clear hs4 hqv2
     clear r0d r1d r2d r3d r4d r5d r6d r7d r8d r9d r10d r11d r12d
     have cv2_4 : (w4).cell? ⟨qv2, 4, none⟩ = some (.slice ku4 d.who.length kuc4) := (cell_of HBv2_4.out 4).trans rfl
     have h63 : mz + d.who.length ≤ maxLen := by unfold maxLen; omega
     have h47 : (mz + d.who.length) * 8 ≤ 140737488355328 := by omega
     go_wp2_with (at_builtin; refine wpList_append_src (by rfl) _ _ _ (by rfl) w.heap.size 3 i0 (.int .i64 0) 1 8 Tryz.underlying109 hi hz0 hz1 hz2 rfl (by decide) _ _ _ (by rfl) HOz_4.out _ _ _ (by rfl) (Src.of_owns ((HRd.out _ hb4).own (⟨3, 1, (.slice ku4 d.who.length kuc4), d.who.length, d.who.map (Value.int .i64)⟩ : Rw) (by simp [flR])) (ints_ones _)) h63 h47 hb4.size ?_)
     intro v1 w5 hown2 hgrow
     clear cv2_4
     have hb5 : Below w.heap.size w (w5) := hb4.grown hgrow hb4.size (fun g hg => owns_ge HOz_4.out hg)
     have HBv1_5 : Hid ((w5).heap[qv1]? = some (.cells #[.slice o1 c.s.cs.length c1, .slice o2 c.s.ws.length c2, .slice o3 n3 c3, .slice o4 n4 c4, .int .i64 c.s.nx, .int .i64 c.s.sq, .slice (some ⟨g5, 0, none⟩) n5 c5, .int .i64 c.now, .slice o6 n6 c6, .slice o7 n7 c7] 58)) := (hgrow.block _ (Array.getElem?_eq_some_iff.1 HBv1_4.out).1 (fun e => own_ne HOz_4.out HBv1_4.out (by decide) _ e.symm rfl)).trans HBv1_4.out
     have HBv2_5 : Hid ((w5).heap[qv2]? = some (.cells #[.int .i64 d.qmt, .string d.qpa, .slice ku2 d.qfs.length kuc2, .string d.qbd, .slice ku4 d.who.length kuc4, .string d.opa, .slice ku6 d.oxs.length kuc6, .slice ku7 d.oys.length kuc7, .int .i64 d.ost, .slice ku9 d.ofs.length kuc9, .string d.obd, .int .i64 d.otm, .bool d.has] 129)) := (hgrow.block _ (Array.getElem?_eq_some_iff.1 HBv2_4.out).1 (fun e => own_ne HOz_4.out HBv2_4.out (by decide) _ e.symm rfl)).trans HBv2_4.out
     obtain ⟨ozp, pzp, rfl⟩ := slice_of_owns hown2
     have HOzp_5 : Hid ((w5).ownsRow w.heap.size 3 1 (.slice ozp (mz + d.who.length) pzp) (mz + d.who.length) ((zs.map (Value.int .i64)) ++ (d.who.map (Value.int .i64)))) := hown2
     clear hb4 HOz_4 HBv1_4 HBv2_4 hown2 hgrow h63 h47
     have HR2 : Hid (w5.ownsRow w.heap.size 3 1 (.slice ozp (mz + d.who.length) pzp) (mz + d.who.length) ((zs ++ d.who).map (Value.int .i64))) := by
      show World.ownsRow _ _ _ _ _ _ _
      rw [List.map_append]
      exact HOzp_5.out
     have HE2 : Hid (zs ++ d.who = ys ++ whoTo c.fl (i + 1)) := by
      show _ = _
      rw [whoTo_succ c.fl i (by rw [HLC.out.1]; omega), HEd.out, HE0.out, List.append_assoc]
     go_wp2_with fail
     go_roundw
     case rel => exact ⟨i + 1, (mz + d.who.length), ozp, pzp, zs ++ d.who, by omega, by omega, by go_num, rfl, ⟨hb5, HBv1_5.out⟩, HE2, HR2⟩
     case measure => simp [intOf]; omega
    ·
     have hb3 := HW.out.1
     have HBv1_3 : Hid ((wr).heap[qv1]? = some (.cells #[.slice o1 c.s.cs.length c1, .slice o2 c.s.ws.length c2, .slice o3 n3 c3, .slice o4 n4 c4, .int .i64 c.s.nx, .int .i64 c.s.sq, .slice o5 n5 c5, .int .i64 c.now, .slice o6 n6 c6, .slice o7 n7 c7] 58)) := HW.out.2
     clear HW hb2 HBv1_2
     have HOz_3 : Hid ((wr).ownsRow w.heap.size 3 1 (.slice oz mz pz) mz (zs.map (Value.int .i64))) := HR0.out
     clear HR0
     obtain rfl : n5 = i := by omega
     have HEK := HE0
     clear HE0
     have hlz : zs.length = mz := by
      have h1 := HOz_3.out.1
      rw [List.length_map] at h1
      omega
     have hoz : (wr).ownsRow w.heap.size 3 1 (.slice oz mz pz) mz (zs.map (Value.int .i64)) := HOz_3.out
     have HON : Hid (OnceP c ↔ zs.Nodup) := by
      show OnceP c ↔ _
      unfold OnceP
      rw [HEK.out, HEI.out, HLC.out.1, HLC.out.2.2.1, once_swap]
     have HLZ : Hid (zs.length = mz) := hlz
     have hm2 : mz ≤ 2000000 := by omega
     go_wp2_with fail
     refine (sortInts_any oz mz pz zs w.heap.size _ hoz HLZ.out hm2).mono ?_
     rintro e w4 ⟨rfl, hsz, hgr⟩
     have hb4 : Below w.heap.size w w4 := hb3.grown hgr hb3.size (fun g hg => owns_ge hoz hg)
     have HSZ : Hid (w4.ownsRow w.heap.size 3 1 (.slice oz mz pz) mz ((sortI zs).map (Value.int .i64))) := hsz
     clear hlz hoz hsz hgr hb3 HOz_3 HBv1_3
     go_wp2_with fail
     refine (compactInts_any oz mz pz (sortI zs) w.heap.size _ HSZ.out (by rw [sortI_len]; exact HLZ.out) hm2).mono ?_
     rintro e w5 ⟨rfl, hgr⟩
     have hb5 : Below w.heap.size w w5 := hb4.grown hgr hb4.size (fun g hg => owns_ge HSZ.out hg)
     have HOI : Hid ((Lib.compact (sortI zs)).length = mz ↔ OnceP c) := by
      show _ ↔ _
      rw [HON.out, ← once_iff, HLZ.out]
     clear hgr HSZ hb4
     obtain ⟨mc, hmc⟩ := exq ((Lib.compact (sortI zs)).length)
     rw [← hmc] at HOI ⊢
     clear hmc HON HLZ
     by_cases he : mc = mz
     ·
      have heb : (((mc : Nat) : Int) == ((mz : Nat) : Int)) = true := by simp [he]
      have HE : Hid (mc = mz) := he
      go_wp2_with fail
      go_ret
      exact ⟨true, by first | rfl | (simp [HE.out]), ⟨fun _ => HOI.out.1 HE.out, fun _ => rfl⟩, hb5⟩
     ·
      have heb : (((mc : Nat) : Int) == ((mz : Nat) : Int)) = false := by simp; omega
      have HE : Hid (¬ mc = mz) := he
      go_wp2_with fail
      go_ret
      exact ⟨false, by first | rfl | (simp [HE.out]), ⟨(fun h => nomatch h), fun h => absurd (HOI.out.2 h) HE.out⟩, hb5⟩
theorem judgeOfOnce_any (w : World) :
  Calls Tryz.prog 49 #[] w fun e w' => e = .returned (.agg #[.nilFunc, .func (.func 88) #[] #[]]) ∧ Below w.heap.size w w' := by
 have hb0 : Below w.heap.size w w := Below.refl _ _
 go_enter Tryz.func49, Tryz.ntmps49
 go_upto_region 1 with fail
 obtain ⟨qv1, hqv1⟩ := exq ((w).heap.size)
 obtain ⟨w1, hW1⟩ := exq ((w).alloc (.cells #[.nilFunc, .nilFunc] 107))
 have hz1 : (w).heap.size = qv1 := hqv1.symm
 first | rw [← hW1, ← hqv1] | rw [← hW1]
 have hs1 := hsa hW1 hz1
 have bw := bal hW1
 have hb1 := hbt hb0 bw
 have HBv1_1 := hnew hW1 hz1
 have HGv1 := hge hz1 hb0
 clear hb0 bw hW1 hz1
 clear hs1 hqv1
 have cv1_0 := (k2c HBv1_1).1
 have fcv1_0 := hfz HBv1_1 0
 have cv1_1 := (k2c HBv1_1).2
 have fcv1_1 := hfz HBv1_1 1
 go_wp2_with fail
 obtain ⟨w2, hW2⟩ := exq ((w1).setCell ⟨qv1, 0, none⟩ (.nilFunc))
 rw [← hW2]
 have hb2 := hbS hW2 hb1 HGv1
 have HBv1_2 : Hid ((w2).heap[qv1]? = some (.cells #[.nilFunc, .nilFunc] 107)) := by show _ = _; rw [hW2]; have h := heap_set _ _ 0 _ _ _ (.nilFunc) HBv1_1.out; simpa using h
 clear hb1 HBv1_1 hW2
 obtain ⟨w3, hW3⟩ := exq ((w2).setCell ⟨qv1, 1, none⟩ (.func (.func 88) #[] #[]))
 rw [← hW3]
 have hb3 := hbS hW3 hb2 HGv1
 have HBv1_3 : Hid ((w3).heap[qv1]? = some (.cells #[.nilFunc, .func (.func 88) #[] #[]] 107)) := by show _ = _; rw [hW3]; have h := heap_set _ _ 1 _ _ _ (.func (.func 88) #[] #[]) HBv1_2.out; simpa using h
 clear hb2 HBv1_2 hW3
 have kv1_0 := (k2c HBv1_3).1
 have kv1_1 := (k2c HBv1_3).2
 refine bodyPost_ret (v := .agg #[.nilFunc, .func (.func 88) #[] #[]]) (by simp [results, Tryz.results49, go_sem, kv1_0, kv1_1]) rfl ?_
 exact ⟨rfl, hb3⟩
theorem agreeOnWholeOnce_any (v1 v2 V VB F E R : Value) (kv : List (KpD × Value × Value × Value)) (fv : List FlV) (ev : List SeV) (rv : List RpV) (c : CaD) (B : Nat) (w : World) (h : CacheO w B v1 v2 V VB F E R kv fv ev rv c) (hz : CaSmall c) (gj : Nat) (hj : w.heap[gj]? = some (.cells #[.nilFunc, .func (.func 88) #[] #[]] 107))  (hp : CacheP c) :
  Calls Tryz.prog 85 #[.agg #[v1, v2, V, VB, .int .i64 c.s.nx, .int .i64 c.s.sq, F, .int .i64 c.now, E, R], .slice (some ⟨gj, 0, none⟩) 1 1] w fun e w' => BoolIs (OnceP c) w e w' := by
 obtain ⟨o1, c1, rfl⟩ := slice_of_owns h.shelf.disk.cells
 obtain ⟨o2, c2, rfl⟩ := slice_of_owns h.shelf.disk.pend
 obtain ⟨o3, c3, rfl⟩ := h.shelf.kept.len
 obtain ⟨o4, c4, rfl⟩ := slice_of_owns h.shelf.bans
 obtain ⟨o5, c5, rfl⟩ := h.fls.len
 obtain ⟨o6, c6, rfl⟩ := h.ses.len
 obtain ⟨o7, c7, rfl⟩ := h.rps.len
 obtain ⟨n3, hn3⟩ := exq kv.length
 obtain ⟨n4, hn4⟩ := exq (c.s.bl.length)
 obtain ⟨n5, hn5⟩ := exq fv.length
 obtain ⟨n6, hn6⟩ := exq ev.length
 obtain ⟨n7, hn7⟩ := exq rv.length
 rw [← hn3, ← hn4, ← hn5, ← hn6, ← hn7] at h ⊢
 have HLK : Hid (kv.length = n3) := hn3.symm
 have HLB : Hid (c.s.bl.length = n4) := hn4.symm
 have HLF : Hid (fv.length = n5) := hn5.symm
 have HLE : Hid (ev.length = n6) := hn6.symm
 have HLR : Hid (rv.length = n7) := hn7.symm
 have HLC : Hid (c.fl.length = n5 ∧ c.se.length = n6 ∧ c.sn.length = n7 ∧ c.s.ks.length = n3) := ⟨by rw [← h.hf, List.length_map, hn5], by rw [← h.he, List.length_map, hn6], by rw [← h.hr, List.length_map, hn7], by rw [← h.hk, List.length_map, hn3]⟩
 have HFD : Hid (fv.map (·.d) = c.fl) := h.hf
 have HED : Hid (ev.map (·.d) = c.se) := h.he
 have HKS : Hid (kv.map (·.1) = c.s.ks) := h.hk
 have HZ : Hid (CaSmall c) := hz
 have bn3 : n3 ≤ 1048576 := by rw [← HLC.out.2.2.2]; exact hz.s.k
 have bn4 : n4 ≤ 1048576 := by rw [← HLB.out]; exact hz.s.b
 have bn5 : n5 ≤ 1048576 := by rw [← HLC.out.1]; exact hz.nf
 have bn6 : n6 ≤ 1048576 := by rw [← HLC.out.2.1]; exact hz.ne
 have bn7 : n7 ≤ 1048576 := by rw [← HLC.out.2.2.1]; exact hz.nr
 have HCA : Hid (∀ W, Below w.heap.size w W → CacheO W B (.slice o1 c.s.cs.length c1) (.slice o2 c.s.ws.length c2) (.slice o3 n3 c3) (.slice o4 n4 c4) (.slice o5 n5 c5) (.slice o6 n6 c6) (.slice o7 n7 c7) kv fv ev rv c) := fun W hb => h.below hb
 have HKP : Hid (∀ W, Below w.heap.size w W → KeptsO W B (.slice o3 n3 c3) kv) := fun W hb => (h.below hb).shelf.kept
 have HBN : Hid (∀ W, Below w.heap.size w W → BanA W o4 n4 c.s.bl) := fun W hb => by
  have h1 := (h.below hb).shelf.bans
  rw [HLB.out] at h1
  exact ban_view h1
 have HC4 : Hid (n4 ≤ c4) := by
  have h1 := h.shelf.bans
  rw [HLB.out] at h1
  exact owns_cap h1
 clear hn3 hn4 hn5 hn6 hn7 h hz
 have HJB : Hid (∀ W, Below w.heap.size w W → W.heap[gj]? = some (.cells #[.nilFunc, .func (.func 88) #[] #[]] 107)) := fun W hb => blk_below hj hb
 clear hj
 have HPP : Hid (CacheP c) := hp
 clear hp
 have hcf : ∀ (args : Array Value) (W : World), (callFunc 88 args).run Tryz.prog W = .ok (.enter 88 args) W := enters_of Tryz.func88 (by kernel_rfl) rfl
 have hnf : ∀ W : World, (binOp .neq 73 (.func (.func 88) #[] #[]) .nilFunc).run Tryz.prog W = .ok (.bool true) W := fun W => run_neq_func_nil W 73 _ _ _ Tryz.underlying73
 have hb0 : Below w.heap.size w w := Below.refl _ _
 go_enter Tryz.func85, Tryz.ntmps85
 go_upto_region 1 with fail
 obtain ⟨qv1, hqv1⟩ := exq ((w).heap.size)
 obtain ⟨w1, hW1⟩ := exq ((w).alloc (.cells #[.slice o1 c.s.cs.length c1, .slice o2 c.s.ws.length c2, .slice o3 n3 c3, .slice o4 n4 c4, .int .i64 c.s.nx, .int .i64 c.s.sq, .slice o5 n5 c5, .int .i64 c.now, .slice o6 n6 c6, .slice o7 n7 c7] 58))
 have hz1 : (w).heap.size = qv1 := hqv1.symm
 first | rw [← hW1, ← hqv1] | rw [← hW1]
 have hs1 := hsa hW1 hz1
 have bw := bal hW1
 have hb1 := hbt hb0 bw
 have HBv1_1 := hnew hW1 hz1
 clear hb0 bw hW1 hz1
 clear hs1 hqv1
 go_wp2_with fail
 obtain ⟨wA, hwA⟩ := exq w1
 rw [← hwA] at hb1 HBv1_1 ⊢
 clear hwA
 go_loopw [9] (fun i wr => ∃ j : Nat, j ≤ 1 ∧ i = .int .i64 (j : Int) ∧ Hid (Below w.heap.size w (wr) ∧ (wr).heap[qv1]? = some (.cells #[.slice o1 c.s.cs.length c1, .slice o2 c.s.ws.length c2, .slice o3 n3 c3, .slice o4 n4 c4, .int .i64 c.s.nx, .int .i64 c.s.sq, .slice o5 n5 c5, .int .i64 c.now, .slice o6 n6 c6, .slice o7 n7 c7] 58)) ∧ Hid (0 < j → OnceP c)) (fun i _ => 1 - (intOf i).toNat)
 case atStart => exact ⟨0, Nat.zero_le _, rfl, ⟨hb1, HBv1_1.out⟩, fun h => absurd h (by omega)⟩
 case round =>
  obtain ⟨j, hj, rfl, HW, HN⟩ := hrel
  by_cases hlt : (j : Int) < (1 : Int)
  ·
   have hb2 := HW.out.1
   have HBv1_2 : Hid ((wr).heap[qv1]? = some (.cells #[.slice o1 c.s.cs.length c1, .slice o2 c.s.ws.length c2, .slice o3 n3 c3, .slice o4 n4 c4, .int .i64 c.s.nx, .int .i64 c.s.sq, .slice o5 n5 c5, .int .i64 c.now, .slice o6 n6 c6, .slice o7 n7 c7] 58)) := HW.out.2
   clear HW hb1 HBv1_1
   have rj0 : (wr).cell? ⟨gj, j * 2, none⟩ = some (.nilFunc) := by
    have e : j = 0 := by omega
    rw [e]
    exact (cell_of (HJB.out _ hb2) 0).trans rfl
   have rj1 : (wr).cell? ⟨gj, j * 2 + 1, none⟩ = some (.func (.func 88) #[] #[]) := by
    have e : j = 0 := by omega
    rw [e]
    exact (cell_of (HJB.out _ hb2) 1).trans rfl
   have hjn : ¬ (1 ≤ j) := by omega
   go_upto_region 4 with fail
   obtain ⟨qv2, hqv2⟩ := exq ((wr).heap.size)
   obtain ⟨w3, hW3⟩ := exq ((wr).alloc (.cells #[.nilFunc, .func (.func 88) #[] #[]] 107))
   have hz3 : (wr).heap.size = qv2 := hqv2.symm
   first | rw [← hW3, ← hqv2] | rw [← hW3]
   have hs3 := hsa hW3 hz3
   have bw := bal hW3
   have hb3 := hbt hb2 bw
   have HBv1_3 := hblk HBv1_2 bw
   have HBv2_3 := hnew hW3 hz3
   clear hb2 HBv1_2 bw hW3 hz3
   clear hs3 hqv2
   clear rj0 rj1
   have cv1_0 := (k10c HBv1_3).1
   have cv1_1 := (k10c HBv1_3).2.1
   have cv1_2 := (k10c HBv1_3).2.2.1
   have cv1_3 := (k10c HBv1_3).2.2.2.1
   have cv1_4 := (k10c HBv1_3).2.2.2.2.1
   have cv1_5 := (k10c HBv1_3).2.2.2.2.2.1
   have cv1_6 := (k10c HBv1_3).2.2.2.2.2.2.1
   have cv1_7 := (k10c HBv1_3).2.2.2.2.2.2.2.1
   have cv1_8 := (k10c HBv1_3).2.2.2.2.2.2.2.2.1
   have cv1_9 := (k10c HBv1_3).2.2.2.2.2.2.2.2.2
   have cv2_1 := (k2c HBv2_3).2
   go_wp2_with fail
   refine (isClientOnce_any _ _ _ _ _ _ _ kv fv ev rv c B _ (HCA.out _ hb3) HZ.out HPP.out).mono ?_
   rintro e w4 ⟨uw, rfl, huw, bw⟩
   have hb4 := hbt hb3 bw
   have HBv1_4 := hblk HBv1_3 bw
   have HBv2_4 := hblk HBv2_3 bw
   clear hb3 HBv1_3 HBv2_3 bw
   clear cv1_0 cv1_1 cv1_2 cv1_3 cv1_4 cv1_5 cv1_6 cv1_7 cv1_8 cv1_9 cv2_1
   cases uw with
   | false =>
    have HNuw : Hid (¬ (OnceP c)) := fun h => nomatch huw.2 h
    clear huw
    go_wp2_with fail
    go_ret
    exact BoolIs.no (fun h => HNuw.out h) hb4
   | true =>
    have HYuw : Hid (OnceP c) := huw.1 rfl
    clear huw
    have HN2 : Hid (0 < j + 1 → OnceP c) := fun _ => HYuw.out
    go_wp2_with fail
    go_roundw
    case rel => exact ⟨j + 1, by omega, by go_num, ⟨hb4, HBv1_4.out⟩, HN2⟩
    case measure => simp [intOf]; omega
  ·
   have hb2 := HW.out.1
   have HBv1_2 : Hid ((wr).heap[qv1]? = some (.cells #[.slice o1 c.s.cs.length c1, .slice o2 c.s.ws.length c2, .slice o3 n3 c3, .slice o4 n4 c4, .int .i64 c.s.nx, .int .i64 c.s.sq, .slice o5 n5 c5, .int .i64 c.now, .slice o6 n6 c6, .slice o7 n7 c7] 58)) := HW.out.2
   clear HW hb1 HBv1_1
   have HFA : Hid (OnceP c) := HN.out (by omega)
   clear HN
   go_wp2_with fail
   go_ret
   exact BoolIs.yes HFA.out hb2
theorem agreeOnce_any (v1 v2 V VB F E R : Value) (kv : List (KpD × Value × Value × Value)) (fv : List FlV) (ev : List SeV) (rv : List RpV) (c : CaD) (B : Nat) (w : World) (h : CacheO w B v1 v2 V VB F E R kv fv ev rv c) (hz : CaSmall c) (gj : Nat) (hj : w.heap[gj]? = some (.cells #[.nilFunc, .func (.func 88) #[] #[]] 107))  :
  Calls Tryz.prog 46 #[.agg #[v1, v2, V, VB, .int .i64 c.s.nx, .int .i64 c.s.sq, F, .int .i64 c.now, E, R], .slice (some ⟨gj, 0, none⟩) 1 1] w fun e w' => BoolIs (CacheP c ∧ OnceP c ∧ EachHere (fun _ => True) c.sn) w e w' := by
 obtain ⟨o1, c1, rfl⟩ := slice_of_owns h.shelf.disk.cells
 obtain ⟨o2, c2, rfl⟩ := slice_of_owns h.shelf.disk.pend
 obtain ⟨o3, c3, rfl⟩ := h.shelf.kept.len
 obtain ⟨o4, c4, rfl⟩ := slice_of_owns h.shelf.bans
 obtain ⟨o5, c5, rfl⟩ := h.fls.len
 obtain ⟨o6, c6, rfl⟩ := h.ses.len
 obtain ⟨o7, c7, rfl⟩ := h.rps.len
 obtain ⟨n3, hn3⟩ := exq kv.length
 obtain ⟨n4, hn4⟩ := exq (c.s.bl.length)
 obtain ⟨n5, hn5⟩ := exq fv.length
 obtain ⟨n6, hn6⟩ := exq ev.length
 obtain ⟨n7, hn7⟩ := exq rv.length
 rw [← hn3, ← hn4, ← hn5, ← hn6, ← hn7] at h ⊢
 have HLK : Hid (kv.length = n3) := hn3.symm
 have HLB : Hid (c.s.bl.length = n4) := hn4.symm
 have HLF : Hid (fv.length = n5) := hn5.symm
 have HLE : Hid (ev.length = n6) := hn6.symm
 have HLR : Hid (rv.length = n7) := hn7.symm
 have HLC : Hid (c.fl.length = n5 ∧ c.se.length = n6 ∧ c.sn.length = n7 ∧ c.s.ks.length = n3) := ⟨by rw [← h.hf, List.length_map, hn5], by rw [← h.he, List.length_map, hn6], by rw [← h.hr, List.length_map, hn7], by rw [← h.hk, List.length_map, hn3]⟩
 have HFD : Hid (fv.map (·.d) = c.fl) := h.hf
 have HED : Hid (ev.map (·.d) = c.se) := h.he
 have HRD : Hid (rv.map (·.d) = c.sn) := h.hr
 have HKS : Hid (kv.map (·.1) = c.s.ks) := h.hk
 have HZ : Hid (CaSmall c) := hz
 have bn3 : n3 ≤ 1048576 := by rw [← HLC.out.2.2.2]; exact hz.s.k
 have bn4 : n4 ≤ 1048576 := by rw [← HLB.out]; exact hz.s.b
 have bn5 : n5 ≤ 1048576 := by rw [← HLC.out.1]; exact hz.nf
 have bn6 : n6 ≤ 1048576 := by rw [← HLC.out.2.1]; exact hz.ne
 have bn7 : n7 ≤ 1048576 := by rw [← HLC.out.2.2.1]; exact hz.nr
 have HCA : Hid (∀ W, Below w.heap.size w W → CacheO W B (.slice o1 c.s.cs.length c1) (.slice o2 c.s.ws.length c2) (.slice o3 n3 c3) (.slice o4 n4 c4) (.slice o5 n5 c5) (.slice o6 n6 c6) (.slice o7 n7 c7) kv fv ev rv c) := fun W hb => h.below hb
 have HKP : Hid (∀ W, Below w.heap.size w W → KeptsO W B (.slice o3 n3 c3) kv) := fun W hb => (h.below hb).shelf.kept
 have HBN : Hid (∀ W, Below w.heap.size w W → BanA W o4 n4 c.s.bl) := fun W hb => by
  have h1 := (h.below hb).shelf.bans
  rw [HLB.out] at h1
  exact ban_view h1
 have HC4 : Hid (n4 ≤ c4) := by
  have h1 := h.shelf.bans
  rw [HLB.out] at h1
  exact owns_cap h1
 clear hn3 hn4 hn5 hn6 hn7 h hz
 have HJB : Hid (∀ W, Below w.heap.size w W → W.heap[gj]? = some (.cells #[.nilFunc, .func (.func 88) #[] #[]] 107)) := fun W hb => blk_below hj hb
 clear hj
 have hnf : ∀ W : World, (binOp .neq 105 (.nilFunc) .nilFunc).run Tryz.prog W = .ok (.bool false) W := fun W => run_neq_nil_nil W 105 Tryz.underlying105
 have hb0 : Below w.heap.size w w := Below.refl _ _
 go_enter Tryz.func46, Tryz.ntmps46
 go_wp2_with fail
 obtain ⟨qv1, hqv1⟩ := exq ((w).heap.size)
 obtain ⟨w1, hW1⟩ := exq ((w).alloc (.cells #[.slice o1 c.s.cs.length c1, .slice o2 c.s.ws.length c2, .slice o3 n3 c3, .slice o4 n4 c4, .int .i64 c.s.nx, .int .i64 c.s.sq, .slice o5 n5 c5, .int .i64 c.now, .slice o6 n6 c6, .slice o7 n7 c7] 58))
 have hz1 : (w).heap.size = qv1 := hqv1.symm
 first | rw [← hW1, ← hqv1] | rw [← hW1]
 have hs1 := hsa hW1 hz1
 have bw := bal hW1
 have hb1 := hbt hb0 bw
 have HBv1_1 := hnew hW1 hz1
 clear hb0 bw hW1 hz1
 clear hs1 hqv1
 go_step3
 have cv1_0 := (k10c HBv1_1).1
 have cv1_1 := (k10c HBv1_1).2.1
 have cv1_2 := (k10c HBv1_1).2.2.1
 have cv1_3 := (k10c HBv1_1).2.2.2.1
 have cv1_4 := (k10c HBv1_1).2.2.2.2.1
 have cv1_5 := (k10c HBv1_1).2.2.2.2.2.1
 have cv1_6 := (k10c HBv1_1).2.2.2.2.2.2.1
 have cv1_7 := (k10c HBv1_1).2.2.2.2.2.2.2.1
 have cv1_8 := (k10c HBv1_1).2.2.2.2.2.2.2.2.1
 have cv1_9 := (k10c HBv1_1).2.2.2.2.2.2.2.2.2
 go_wp2_with fail
 refine (implCacheOk_any _ _ _ _ _ _ _ kv fv ev rv c B _ (HCA.out _ hb1) HZ.out).mono ?_
 rintro e w2 ⟨us, rfl, hus, bw⟩
 have hb2 := hbt hb1 bw
 have HBv1_2 := hblk HBv1_1 bw
 clear hb1 HBv1_1 bw
 clear cv1_0 cv1_1 cv1_2 cv1_3 cv1_4 cv1_5 cv1_6 cv1_7 cv1_8 cv1_9
 cases us with
 | false =>
  have HNus : Hid (¬ (CacheP c)) := fun h => nomatch hus.2 h
  clear hus
  go_wp2_with fail
  try rw [Exit.noGoto_ret]
  go_ret
  exact BoolIs.no (fun h => HNus.out h.1) hb2
 | true =>
  have HYus : Hid (CacheP c) := hus.1 rfl
  clear hus
  have cv1_0 := (k10c HBv1_2).1
  have cv1_1 := (k10c HBv1_2).2.1
  have cv1_2 := (k10c HBv1_2).2.2.1
  have cv1_3 := (k10c HBv1_2).2.2.2.1
  have cv1_4 := (k10c HBv1_2).2.2.2.2.1
  have cv1_5 := (k10c HBv1_2).2.2.2.2.2.1
  have cv1_6 := (k10c HBv1_2).2.2.2.2.2.2.1
  have cv1_7 := (k10c HBv1_2).2.2.2.2.2.2.2.1
  have cv1_8 := (k10c HBv1_2).2.2.2.2.2.2.2.2.1
  have cv1_9 := (k10c HBv1_2).2.2.2.2.2.2.2.2.2
  go_wp2_with fail
  refine (agreeOnWholeOnce_any _ _ _ _ _ _ _ kv fv ev rv c B _ (HCA.out _ hb2) HZ.out gj (HJB.out _ hb2) HYus.out).mono ?_
  rintro e w3 ⟨uw, rfl, huw, bw⟩
  have hb3 := hbt hb2 bw
  have HBv1_3 := hblk HBv1_2 bw
  clear hb2 HBv1_2 bw
  clear cv1_0 cv1_1 cv1_2 cv1_3 cv1_4 cv1_5 cv1_6 cv1_7 cv1_8 cv1_9
  cases uw with
  | false =>
   have HNuw : Hid (¬ (OnceP c)) := fun h => nomatch huw.2 h
   clear huw
   go_wp2_with fail
   try rw [Exit.noGoto_ret]
   go_ret
   exact BoolIs.no (fun h => HNuw.out h.2.1) hb3
  | true =>
   have HYuw : Hid (OnceP c) := huw.1 rfl
   clear huw
   go_wp2_with fail
   go_step3
   have cv1_9 := (k10c HBv1_3).2.2.2.2.2.2.2.2.2
   go_wp2_with fail
   clear cv1_9
   obtain ⟨wA, hwA⟩ := exq w3
   rw [← hwA] at hb3 HBv1_3 ⊢
   clear hwA
   go_loopw [5, 22] (fun r0 i wr => ∃ i' : Nat, i' ≤ n7 ∧ i = .int .i64 (i' : Int) ∧ r0 = .bool true ∧ Hid (Below w.heap.size w (wr) ∧ (wr).heap[qv1]? = some (.cells #[.slice o1 c.s.cs.length c1, .slice o2 c.s.ws.length c2, .slice o3 n3 c3, .slice o4 n4 c4, .int .i64 c.s.nx, .int .i64 c.s.sq, .slice o5 n5 c5, .int .i64 c.now, .slice o6 n6 c6, .slice o7 n7 c7] 58)) ∧ Hid (∀ m, m < i' → (rpAt c.sn m).knd = 1 → (fun _ => True) (rpAt c.sn m))) (fun _ i _ => n7 - (intOf i).toNat)
   case atStart => exact ⟨0, Nat.zero_le _, rfl, rfl, ⟨hb3, HBv1_3.out⟩, fun m hm => absurd hm (by omega)⟩
   case round =>
    obtain ⟨i, hi, rfl, rfl, HW, HN⟩ := hrel
    by_cases hlt : (i : Int) < (n7 : Int)
    ·
     have hb4 := HW.out.1
     have HBv1_4 : Hid ((wr).heap[qv1]? = some (.cells #[.slice o1 c.s.cs.length c1, .slice o2 c.s.ws.length c2, .slice o3 n3 c3, .slice o4 n4 c4, .int .i64 c.s.nx, .int .i64 c.s.sq, .slice o5 n5 c5, .int .i64 c.now, .slice o6 n6 c6, .slice o7 n7 c7] 58)) := HW.out.2
     clear HW hb3 HBv1_3
     obtain ⟨g7, p7, hV, _, _⟩ := (HCA.out _ hb4).rps.look i (by rw [HLR.out]; omega)
     rw [HLR.out] at hV
     injection hV with hV1 hV2 hV3
     subst hV1 hV3
     clear hV2
     obtain ⟨dX, hdX⟩ := exq (rpvAt rv i)
     have HMd : Hid (dX ∈ rv) := by show _ ∈ _; rw [hdX]; exact getD_mem0 _ rv i (by rw [HLR.out]; omega)
     have HEd : Hid (rpAt c.sn i = dX.d) := by show _ = _; rw [hdX, ← HRD.out]; exact getD_map0 _ _ _ rv i (by rw [HLR.out]; omega)
     have HKd : Hid (∀ W, Below w.heap.size w W → RpAt W g7 i dX) := fun W hb => by
      obtain ⟨g', p', hV, _, hc⟩ := (HCA.out W hb).rps.look i (by rw [HLR.out]; omega)
      injection hV with hV1 _ _
      cases hV1
      rw [hdX]
      exact hc
     have HRd : Hid (∀ W, Below w.heap.size w W → RowsO W B (rpR dX)) := fun W hb => (HCA.out W hb).rps.item HMd.out
     have HSd : Hid (RpSmall dX.d) := HZ.out.sn _ (by rw [← HRD.out]; exact List.mem_map.2 ⟨_, HMd.out, rfl⟩)
     clear hdX
     obtain ⟨d, kuv3, kuv6, kuv11, kuv12, kuv14⟩ := dX
     obtain ⟨ku3, kuc3, hu⟩ := slice_of_owns ((HRd.out _ hb4).own (⟨171, 2, kuv3, d.qfs.length, flatF d.qfs⟩ : Rw) (by simp [rpR]))
     obtain rfl : kuv3 = .slice ku3 d.qfs.length kuc3 := hu
     obtain ⟨ku6, kuc6, hu⟩ := slice_of_owns ((HRd.out _ hb4).own (⟨171, 2, kuv6, d.rfs.length, flatF d.rfs⟩ : Rw) (by simp [rpR]))
     obtain rfl : kuv6 = .slice ku6 d.rfs.length kuc6 := hu
     obtain ⟨ku11, kuc11, hu⟩ := slice_of_owns ((HRd.out _ hb4).own (⟨9, 1, kuv11, d.oxs.length, d.oxs.map Value.string⟩ : Rw) (by simp [rpR]))
     obtain rfl : kuv11 = .slice ku11 d.oxs.length kuc11 := hu
     obtain ⟨ku12, kuc12, hu⟩ := slice_of_owns ((HRd.out _ hb4).own (⟨9, 1, kuv12, d.oys.length, d.oys.map Value.string⟩ : Rw) (by simp [rpR]))
     obtain rfl : kuv12 = .slice ku12 d.oys.length kuc12 := hu
     obtain ⟨ku14, kuc14, hu⟩ := slice_of_owns ((HRd.out _ hb4).own (⟨171, 2, kuv14, d.ofs.length, flatF d.ofs⟩ : Rw) (by simp [rpR]))
     obtain rfl : kuv14 = .slice ku14 d.ofs.length kuc14 := hu
     have HRGe7 : World.rangeAt (wr) g7 (i * 18) [.int .i64 d.cli, .int .i64 d.qmt, .string d.qpa, .slice ku3 d.qfs.length kuc3, .string d.qbd, .int .i64 d.rst, .slice ku6 d.rfs.length kuc6, .string d.rbd, .int .i64 d.knd, .int .i64 d.tim, .string d.opa, .slice ku11 d.oxs.length kuc11, .slice ku12 d.oys.length kuc12, .int .i64 d.ost, .slice ku14 d.ofs.length kuc14, .string d.obd, .int .i64 d.otm, .int .i64 d.bns] := RpAt.range (HKd.out _ hb4)
     have HIFe7 : (Tryz.prog.info? 68).map (·.size) = some 18 := by kernel_rfl
     have HTHa : World.there ((wr).alloc (.cells #[.int .i64 0, .int .i64 0, .string ⟨#[]⟩, .slice none 0 0, .string ⟨#[]⟩, .int .i64 0, .slice none 0 0, .string ⟨#[]⟩, .int .i64 0, .int .i64 0, .string ⟨#[]⟩, .slice none 0 0, .slice none 0 0, .int .i64 0, .slice none 0 0, .string ⟨#[]⟩, .int .i64 0, .int .i64 0] 68)) (wr).heap.size 0 18 := there_of (heap_alloc_new _ _) rfl
     have HIFa : (Tryz.prog.info? 68).map (·.size) = some 18 := by kernel_rfl
     have HWEa : Hid (((wr).alloc (.cells #[.int .i64 0, .int .i64 0, .string ⟨#[]⟩, .slice none 0 0, .string ⟨#[]⟩, .int .i64 0, .slice none 0 0, .string ⟨#[]⟩, .int .i64 0, .int .i64 0, .string ⟨#[]⟩, .slice none 0 0, .slice none 0 0, .int .i64 0, .slice none 0 0, .string ⟨#[]⟩, .int .i64 0, .int .i64 0] 68)).setCells (wr).heap.size 0 (#[.int .i64 d.cli, .int .i64 d.qmt, .string d.qpa, .slice ku3 d.qfs.length kuc3, .string d.qbd, .int .i64 d.rst, .slice ku6 d.rfs.length kuc6, .string d.rbd, .int .i64 d.knd, .int .i64 d.tim, .string d.opa, .slice ku11 d.oxs.length kuc11, .slice ku12 d.oys.length kuc12, .int .i64 d.ost, .slice ku14 d.ofs.length kuc14, .string d.obd, .int .i64 d.otm, .int .i64 d.bns] : Array Value).toList = (wr).alloc (.cells #[.int .i64 d.cli, .int .i64 d.qmt, .string d.qpa, .slice ku3 d.qfs.length kuc3, .string d.qbd, .int .i64 d.rst, .slice ku6 d.rfs.length kuc6, .string d.rbd, .int .i64 d.knd, .int .i64 d.tim, .string d.opa, .slice ku11 d.oxs.length kuc11, .slice ku12 d.oys.length kuc12, .int .i64 d.ost, .slice ku14 d.ofs.length kuc14, .string d.obd, .int .i64 d.otm, .int .i64 d.bns] 68)) := alloc_whole rfl
     go_upto_region 7 with (first | (refine wpList_load_mid rfl 68 _ rfl g7 (i * 18) rfl [.int .i64 d.cli, .int .i64 d.qmt, .string d.qpa, .slice ku3 d.qfs.length kuc3, .string d.qbd, .int .i64 d.rst, .slice ku6 d.rfs.length kuc6, .string d.rbd, .int .i64 d.knd, .int .i64 d.tim, .string d.opa, .slice ku11 d.oxs.length kuc11, .slice ku12 d.oys.length kuc12, .int .i64 d.ost, .slice ku14 d.ofs.length kuc14, .string d.obd, .int .i64 d.otm, .int .i64 d.bns] _ HRGe7 Tryz.underlying68 rfl HIFe7 ?_) | (refine wpList_store_mid rfl 68 _ _ rfl (wr).heap.size 0 #[.int .i64 d.cli, .int .i64 d.qmt, .string d.qpa, .slice ku3 d.qfs.length kuc3, .string d.qbd, .int .i64 d.rst, .slice ku6 d.rfs.length kuc6, .string d.rbd, .int .i64 d.knd, .int .i64 d.tim, .string d.opa, .slice ku11 d.oxs.length kuc11, .slice ku12 d.oys.length kuc12, .int .i64 d.ost, .slice ku14 d.ofs.length kuc14, .string d.obd, .int .i64 d.otm, .int .i64 d.bns] rfl rfl HTHa HIFa (by simp [Value.oneCell']) ?_; rw [HWEa.out]) | fail)
     clear HTHa HIFa HWEa
     obtain ⟨qv2, hqv2⟩ := exq ((wr).heap.size)
     obtain ⟨w5, hW5⟩ := exq ((wr).alloc (.cells #[.int .i64 d.cli, .int .i64 d.qmt, .string d.qpa, .slice ku3 d.qfs.length kuc3, .string d.qbd, .int .i64 d.rst, .slice ku6 d.rfs.length kuc6, .string d.rbd, .int .i64 d.knd, .int .i64 d.tim, .string d.opa, .slice ku11 d.oxs.length kuc11, .slice ku12 d.oys.length kuc12, .int .i64 d.ost, .slice ku14 d.ofs.length kuc14, .string d.obd, .int .i64 d.otm, .int .i64 d.bns] 68))
     have hz5 : (wr).heap.size = qv2 := hqv2.symm
     first | rw [← hW5, ← hqv2] | rw [← hW5]
     have hs5 := hsa hW5 hz5
     have bw := bal hW5
     have hb5 := hbt hb4 bw
     have HBv1_5 := hblk HBv1_4 bw
     have HBv2_5 := hnew hW5 hz5
     clear hb4 HBv1_4 bw hW5 hz5
     clear hs5 hqv2
     clear HRGe7 HIFe7
     have cv2_8 : (w5).cell? ⟨qv2, 8, none⟩ = some (.int .i64 d.knd) := (cell_of HBv2_5.out 8).trans rfl
     by_cases hc1 : d.knd = 1
     ·
      have hc1b : ((d.knd : Int) == (1 : Int)) = true := by simpa using hc1
      have hc1n : ((d.knd : Int) != (1 : Int)) = false := by simpa using hc1
      have HKN : Hid (d.knd = 1) := hc1
      have hc1H : Hid (d.knd = 1) := hc1
      clear hc1
      go_wp2_with fail
      clear cv2_8
      obtain ⟨wB, hwB⟩ := exq w5
      rw [← hwB] at hb5 HBv1_5 HBv2_5 ⊢
      clear hwB
      go_loopw [5, 31] (fun r0 i0 wr => ∃ j : Nat, j ≤ 1 ∧ i0 = .int .i64 (j : Int) ∧ r0 = .bool true ∧ Hid (Below w.heap.size w (wr) ∧ (wr).heap[qv1]? = some (.cells #[.slice o1 c.s.cs.length c1, .slice o2 c.s.ws.length c2, .slice o3 n3 c3, .slice o4 n4 c4, .int .i64 c.s.nx, .int .i64 c.s.sq, .slice o5 n5 c5, .int .i64 c.now, .slice o6 n6 c6, .slice (some ⟨g7, 0, none⟩) n7 c7] 58) ∧ (wr).heap[qv2]? = some (.cells #[.int .i64 d.cli, .int .i64 d.qmt, .string d.qpa, .slice ku3 d.qfs.length kuc3, .string d.qbd, .int .i64 d.rst, .slice ku6 d.rfs.length kuc6, .string d.rbd, .int .i64 d.knd, .int .i64 d.tim, .string d.opa, .slice ku11 d.oxs.length kuc11, .slice ku12 d.oys.length kuc12, .int .i64 d.ost, .slice ku14 d.ofs.length kuc14, .string d.obd, .int .i64 d.otm, .int .i64 d.bns] 68)) ∧ Hid (0 < j → (fun _ => True) d)) (fun _ i0 _ => 1 - (intOf i0).toNat)
      case atStart => exact ⟨0, Nat.zero_le _, rfl, rfl, ⟨hb5, HBv1_5.out, HBv2_5.out⟩, fun h => absurd h (by omega)⟩
      case round =>
       obtain ⟨j, hj, rfl, rfl, HW, HJ⟩ := hrel
       by_cases hlj : (j : Int) < (1 : Int)
       ·
        have hb6 := HW.out.1
        have HBv1_6 : Hid ((wr).heap[qv1]? = some (.cells #[.slice o1 c.s.cs.length c1, .slice o2 c.s.ws.length c2, .slice o3 n3 c3, .slice o4 n4 c4, .int .i64 c.s.nx, .int .i64 c.s.sq, .slice o5 n5 c5, .int .i64 c.now, .slice o6 n6 c6, .slice (some ⟨g7, 0, none⟩) n7 c7] 58)) := HW.out.2.1
        have HBv2_6 : Hid ((wr).heap[qv2]? = some (.cells #[.int .i64 d.cli, .int .i64 d.qmt, .string d.qpa, .slice ku3 d.qfs.length kuc3, .string d.qbd, .int .i64 d.rst, .slice ku6 d.rfs.length kuc6, .string d.rbd, .int .i64 d.knd, .int .i64 d.tim, .string d.opa, .slice ku11 d.oxs.length kuc11, .slice ku12 d.oys.length kuc12, .int .i64 d.ost, .slice ku14 d.ofs.length kuc14, .string d.obd, .int .i64 d.otm, .int .i64 d.bns] 68)) := HW.out.2.2
        clear HW hb5 HBv1_5 HBv2_5
        have rj0 : (wr).cell? ⟨gj, j * 2, none⟩ = some (.nilFunc) := by
         have e : j = 0 := by omega
         rw [e]
         exact (cell_of (HJB.out _ hb6) 0).trans rfl
        have rj1 : (wr).cell? ⟨gj, j * 2 + 1, none⟩ = some (.func (.func 88) #[] #[]) := by
         have e : j = 0 := by omega
         rw [e]
         exact (cell_of (HJB.out _ hb6) 1).trans rfl
        have hjn : ¬ (1 ≤ j) := by omega
        go_upto_region 11 with fail
        obtain ⟨qv3, hqv3⟩ := exq ((wr).heap.size)
        obtain ⟨w7, hW7⟩ := exq ((wr).alloc (.cells #[.nilFunc, .func (.func 88) #[] #[]] 107))
        have hz7 : (wr).heap.size = qv3 := hqv3.symm
        first | rw [← hW7, ← hqv3] | rw [← hW7]
        have hs7 := hsa hW7 hz7
        have bw := bal hW7
        have hb7 := hbt hb6 bw
        have HBv1_7 := hblk HBv1_6 bw
        have HBv2_7 := hblk HBv2_6 bw
        have HBv3_7 := hnew hW7 hz7
        clear hb6 HBv1_6 HBv2_6 bw hW7 hz7
        clear hs7 hqv3
        clear rj0 rj1
        have cv3_0 := (k2c HBv3_7).1
        have HJ2 : Hid (0 < j + 1 → (fun _ => True) d) := fun _ => (by trivial)
        go_wp2_with fail
        go_roundw
        case rel => exact ⟨j + 1, by omega, by go_num, rfl, ⟨hb7, HBv1_7.out, HBv2_7.out⟩, HJ2⟩
        case measure => simp [intOf]; omega
       ·
        have hb6 := HW.out.1
        have HBv1_6 : Hid ((wr).heap[qv1]? = some (.cells #[.slice o1 c.s.cs.length c1, .slice o2 c.s.ws.length c2, .slice o3 n3 c3, .slice o4 n4 c4, .int .i64 c.s.nx, .int .i64 c.s.sq, .slice o5 n5 c5, .int .i64 c.now, .slice o6 n6 c6, .slice (some ⟨g7, 0, none⟩) n7 c7] 58)) := HW.out.2.1
        have HBv2_6 : Hid ((wr).heap[qv2]? = some (.cells #[.int .i64 d.cli, .int .i64 d.qmt, .string d.qpa, .slice ku3 d.qfs.length kuc3, .string d.qbd, .int .i64 d.rst, .slice ku6 d.rfs.length kuc6, .string d.rbd, .int .i64 d.knd, .int .i64 d.tim, .string d.opa, .slice ku11 d.oxs.length kuc11, .slice ku12 d.oys.length kuc12, .int .i64 d.ost, .slice ku14 d.ofs.length kuc14, .string d.obd, .int .i64 d.otm, .int .i64 d.bns] 68)) := HW.out.2.2
        clear HW hb5 HBv1_5 HBv2_5
        have HPD : Hid ((fun _ => True) d) := HJ.out (by omega)
        clear HJ
        have HN2 : Hid (∀ m, m < i + 1 → (rpAt c.sn m).knd = 1 → (fun _ => True) (rpAt c.sn m)) := fun m' hm' => by
         by_cases e : m' = i
         ·
          subst e
          exact fun _ => by rw [HEd.out]; exact HPD.out
         · exact HN.out m' (by omega)
        go_wp2_with fail
        go_roundw
        case rel => exact ⟨i + 1, by omega, by go_num, rfl, ⟨hb6, HBv1_6.out⟩, HN2⟩
        case measure => simp [intOf]; omega
     ·
      have hc1b : ((d.knd : Int) == (1 : Int)) = false := by simpa using hc1
      have hc1n : ((d.knd : Int) != (1 : Int)) = true := by simpa using hc1
      have HKN : Hid (¬ d.knd = 1) := hc1
      have hc1H : Hid (¬ (d.knd = 1)) := hc1
      clear hc1
      have HN2 : Hid (∀ m, m < i + 1 → (rpAt c.sn m).knd = 1 → (fun _ => True) (rpAt c.sn m)) := fun m' hm' => by
       by_cases e : m' = i
       ·
        subst e
        exact fun h1 => by rw [HEd.out] at h1; exact absurd h1 HKN.out
       · exact HN.out m' (by omega)
      go_wp2_with fail
      go_roundw
      case rel => exact ⟨i + 1, by omega, by go_num, rfl, ⟨hb5, HBv1_5.out⟩, HN2⟩
      case measure => simp [intOf]; omega
    ·
     have hb4 := HW.out.1
     have HBv1_4 : Hid ((wr).heap[qv1]? = some (.cells #[.slice o1 c.s.cs.length c1, .slice o2 c.s.ws.length c2, .slice o3 n3 c3, .slice o4 n4 c4, .int .i64 c.s.nx, .int .i64 c.s.sq, .slice o5 n5 c5, .int .i64 c.now, .slice o6 n6 c6, .slice o7 n7 c7] 58)) := HW.out.2
     clear HW hb3 HBv1_3
     have HFA : Hid (EachHere (fun _ => True) c.sn) := fun m hm => HN.out m (by rw [HLC.out.2.2.1] at hm; omega)
     clear HN
     go_wp2_with fail
     try rw [Exit.noGoto_ret]
     go_ret
     exact BoolIs.yes ⟨HYus.out, HYuw.out, HFA.out⟩ hb4
theorem implJudgeOnce_any (v1 v2 V VB F E R : Value) (kv : List (KpD × Value × Value × Value)) (fv : List FlV) (ev : List SeV) (rv : List RpV) (c : CaD) (B : Nat) (w : World) (h : CacheO w B v1 v2 V VB F E R kv fv ev rv c) (hz : CaSmall c) :
  Calls Tryz.prog 17 #[.agg #[v1, v2, V, VB, .int .i64 c.s.nx, .int .i64 c.s.sq, F, .int .i64 c.now, E, R]] w fun e w' => BoolIs (CacheP c ∧ OnceP c ∧ EachHere (fun _ => True) c.sn) w e w' := by
 obtain ⟨o1, c1, rfl⟩ := slice_of_owns h.shelf.disk.cells
 obtain ⟨o2, c2, rfl⟩ := slice_of_owns h.shelf.disk.pend
 obtain ⟨o3, c3, rfl⟩ := h.shelf.kept.len
 obtain ⟨o4, c4, rfl⟩ := slice_of_owns h.shelf.bans
 obtain ⟨o5, c5, rfl⟩ := h.fls.len
 obtain ⟨o6, c6, rfl⟩ := h.ses.len
 obtain ⟨o7, c7, rfl⟩ := h.rps.len
 obtain ⟨n3, hn3⟩ := exq kv.length
 obtain ⟨n4, hn4⟩ := exq (c.s.bl.length)
 obtain ⟨n5, hn5⟩ := exq fv.length
 obtain ⟨n6, hn6⟩ := exq ev.length
 obtain ⟨n7, hn7⟩ := exq rv.length
 rw [← hn3, ← hn4, ← hn5, ← hn6, ← hn7] at h ⊢
 have HLK : Hid (kv.length = n3) := hn3.symm
 have HLB : Hid (c.s.bl.length = n4) := hn4.symm
 have HLF : Hid (fv.length = n5) := hn5.symm
 have HLE : Hid (ev.length = n6) := hn6.symm
 have HLR : Hid (rv.length = n7) := hn7.symm
 have HLC : Hid (c.fl.length = n5 ∧ c.se.length = n6 ∧ c.sn.length = n7 ∧ c.s.ks.length = n3) := ⟨by rw [← h.hf, List.length_map, hn5], by rw [← h.he, List.length_map, hn6], by rw [← h.hr, List.length_map, hn7], by rw [← h.hk, List.length_map, hn3]⟩
 have HFD : Hid (fv.map (·.d) = c.fl) := h.hf
 have HED : Hid (ev.map (·.d) = c.se) := h.he
 have HKS : Hid (kv.map (·.1) = c.s.ks) := h.hk
 have HZ : Hid (CaSmall c) := hz
 have bn3 : n3 ≤ 1048576 := by rw [← HLC.out.2.2.2]; exact hz.s.k
 have bn4 : n4 ≤ 1048576 := by rw [← HLB.out]; exact hz.s.b
 have bn5 : n5 ≤ 1048576 := by rw [← HLC.out.1]; exact hz.nf
 have bn6 : n6 ≤ 1048576 := by rw [← HLC.out.2.1]; exact hz.ne
 have bn7 : n7 ≤ 1048576 := by rw [← HLC.out.2.2.1]; exact hz.nr
 have HCA : Hid (∀ W, Below w.heap.size w W → CacheO W B (.slice o1 c.s.cs.length c1) (.slice o2 c.s.ws.length c2) (.slice o3 n3 c3) (.slice o4 n4 c4) (.slice o5 n5 c5) (.slice o6 n6 c6) (.slice o7 n7 c7) kv fv ev rv c) := fun W hb => h.below hb
 have HKP : Hid (∀ W, Below w.heap.size w W → KeptsO W B (.slice o3 n3 c3) kv) := fun W hb => (h.below hb).shelf.kept
 have HBN : Hid (∀ W, Below w.heap.size w W → BanA W o4 n4 c.s.bl) := fun W hb => by
  have h1 := (h.below hb).shelf.bans
  rw [HLB.out] at h1
  exact ban_view h1
 have HC4 : Hid (n4 ≤ c4) := by
  have h1 := h.shelf.bans
  rw [HLB.out] at h1
  exact owns_cap h1
 clear hn3 hn4 hn5 hn6 hn7 h hz
 have hb0 : Below w.heap.size w w := Below.refl _ _
 go_enter Tryz.func17, Tryz.ntmps17
 go_upto_region 1 with fail
 obtain ⟨qv1, hqv1⟩ := exq ((w).heap.size)
 obtain ⟨w1, hW1⟩ := exq ((w).alloc (.cells #[.slice o1 c.s.cs.length c1, .slice o2 c.s.ws.length c2, .slice o3 n3 c3, .slice o4 n4 c4, .int .i64 c.s.nx, .int .i64 c.s.sq, .slice o5 n5 c5, .int .i64 c.now, .slice o6 n6 c6, .slice o7 n7 c7] 58))
 have hz1 : (w).heap.size = qv1 := hqv1.symm
 first | rw [← hW1, ← hqv1] | rw [← hW1]
 have hs1 := hsa hW1 hz1
 have bw := bal hW1
 have hb1 := hbt hb0 bw
 have HBv1_1 := hnew hW1 hz1
 clear hb0 bw hW1 hz1
 clear hs1 hqv1
 go_upto_region 1 with fail
 refine wp_region_held_drew (S := fun W => W.heap[qv1]? = some (.cells #[.slice o1 c.s.cs.length c1, .slice o2 c.s.ws.length c2, .slice o3 n3 c3, .slice o4 n4 c4, .int .i64 c.s.nx, .int .i64 c.s.sq, .slice o5 n5 c5, .int .i64 c.now, .slice o6 n6 c6, .slice o7 n7 c7] 58)) (by kernel_rfl) HBv1_1.out (fun _ => ?_)
 obtain ⟨w2, hX⟩ := exq w1.drew
 have bw := bdr hX
 rw [← hX]
 have hb2 := hbt hb1 bw
 have HBv1_2 := hblk HBv1_1 bw
 have hS2 := HBv1_2.out
 clear hb1 HBv1_1 bw hX
 refine tkL 0 (.agg #[.slice o1 c.s.cs.length c1, .slice o2 c.s.ws.length c2, .slice o3 n3 c3, .slice o4 n4 c4, .int .i64 c.s.nx, .int .i64 c.s.sq, .slice o5 n5 c5, .int .i64 c.now, .slice o6 n6 c6, .slice o7 n7 c7]) 3 rfl rfl (Or.inl ⟨by rfl, by intro W hW; have hhv1 := hW; have y0 := (cell_of hhv1 0).trans rfl; have y1 := (cell_of hhv1 1).trans rfl; have y2 := (cell_of hhv1 2).trans rfl; have y3 := (cell_of hhv1 3).trans rfl; have y4 := (cell_of hhv1 4).trans rfl; have y5 := (cell_of hhv1 5).trans rfl; have y6 := (cell_of hhv1 6).trans rfl; have y7 := (cell_of hhv1 7).trans rfl; have y8 := (cell_of hhv1 8).trans rfl; have y9 := (cell_of hhv1 9).trans rfl; go_simp⟩) hS2 ?_
 go_frame
 refine rd1 1 rfl (fun K hK => ?_)
 go_simp
 refine (judgeOfOnce_any _).mono ?_
 rintro e w3 ⟨rfl, bw⟩
 have hb3 := hbt hb2 bw
 have HBv1_3 := hblk HBv1_2 bw
 clear hb2 HBv1_2 bw
 have hS3 := HBv1_3.out
 refine hK.out _ _ hS3 (fun _ => ?_)
 clear hK K hS2
 refine rd1 2 rfl (fun K hK => ?_)
 go_simp
 have bw : Below w3.heap.size w3 (w3.alloc (.cells #[.nilFunc, .func (.func 88) #[] #[]] 107)) := (Below.refl _ _).alloc (Nat.le_refl _) _
 have hSA : (w3.alloc (.cells #[.nilFunc, .func (.func 88) #[] #[]] 107)).heap[qv1]? = some (.cells #[.slice o1 c.s.cs.length c1, .slice o2 c.s.ws.length c2, .slice o3 n3 c3, .slice o4 n4 c4, .int .i64 c.s.nx, .int .i64 c.s.sq, .slice o5 n5 c5, .int .i64 c.now, .slice o6 n6 c6, .slice o7 n7 c7] 58) := blk_below HBv1_3.out bw
 refine hK.out _ _ hSA (fun _ => ?_)
 clear hK K hSA bw hS3
 obtain ⟨qv2, hqv2⟩ := exq (w3.heap.size)
 obtain ⟨w4, hXj⟩ := exq ((w3.alloc (.cells #[.nilFunc, .func (.func 88) #[] #[]] 107)))
 rw [← hqv2, ← hXj]
 have bw := bal hXj
 have hb4 := hbt hb3 bw
 have HBv1_4 := hblk HBv1_3 bw
 have HBv2_4 : Hid ((w4).heap[qv2]? = some (.cells #[.nilFunc, .func (.func 88) #[] #[]] 107)) := by show _ = _; rw [hXj, hqv2]; exact heap_alloc_new _ _
 have hS4 := HBv1_4.out
 clear hb3 HBv1_3 bw hXj hqv2
 refine rd1 3 rfl (fun K hK => ?_)
 go_simp
 refine (agreeOnce_any _ _ _ _ _ _ _ kv fv ev rv c B _ (HCA.out _ hb4) HZ.out qv2 HBv2_4.out).mono ?_
 rintro e w5 ⟨ug, rfl, hug, bw⟩
 have HUG : Hid (ug = true ↔ CacheP c ∧ OnceP c ∧ EachHere (fun _ => True) c.sn) := hug
 clear hug
 have hb5 := hbt hb4 bw
 have HBv1_5 := hblk HBv1_4 bw
 have HBv2_5 := hblk HBv2_4 bw
 clear hb4 HBv1_4 HBv2_4 bw
 have hS5 := HBv1_5.out
 refine hK.out _ _ hS5 (fun _ => ?_)
 clear hK K hS4
 refine tkP 4 (.bool ug) 2 rfl rfl hS5 ?_
 go_frame
 clear hS5
 refine wpAnyH_done (by kernel_rfl) ?_ _
 go_wp2_with fail
 go_ret
 exact ⟨ug, rfl, HUG.out, hb5⟩
end Go.Proofs.YtbmhonfgffjpcaaGreat
namespace Go.Proofs.YtbmhonfgffjpcaaGreat
open Go.RowKit
open Go.Lib hiding intOf
theorem specCacheOk_any (v1 v2 V VB F E R : Value) (kv : List (KpD × Value × Value × Value)) (fv : List FlV) (ev : List SeV) (rv : List RpV) (c : CaD) (B : Nat) (w : World) (h : CacheO w B v1 v2 V VB F E R kv fv ev rv c) (hz : CaSmall c) :
  Calls Tryz.prog 42 #[.agg #[v1, v2, V, VB, .int .i64 c.s.nx, .int .i64 c.s.sq, F, .int .i64 c.now, E, R]] w fun e w' => BoolIs (CacheP c) w e w' := by
 obtain ⟨o1, c1, rfl⟩ := slice_of_owns h.shelf.disk.cells
 obtain ⟨o2, c2, rfl⟩ := slice_of_owns h.shelf.disk.pend
 obtain ⟨o3, c3, rfl⟩ := h.shelf.kept.len
 obtain ⟨o4, c4, rfl⟩ := slice_of_owns h.shelf.bans
 obtain ⟨o5, c5, rfl⟩ := h.fls.len
 obtain ⟨o6, c6, rfl⟩ := h.ses.len
 obtain ⟨o7, c7, rfl⟩ := h.rps.len
 obtain ⟨n5, hn5⟩ := exq fv.length
 obtain ⟨n6, hn6⟩ := exq ev.length
 obtain ⟨n7, hn7⟩ := exq rv.length
 rw [← hn5, ← hn6, ← hn7] at h ⊢
 have HLF : Hid (fv.length = n5) := hn5.symm
 have HLC : Hid (c.fl.length = n5 ∧ c.se.length = n6 ∧ c.sn.length = n7) := ⟨by rw [← h.hf, List.length_map, hn5], by rw [← h.he, List.length_map, hn6], by rw [← h.hr, List.length_map, hn7]⟩
 have HFD : Hid (fv.map (·.d) = c.fl) := h.hf
 have HZ : Hid (CaSmall c) := hz
 have bn5 : n5 ≤ 1048576 := by rw [← HLC.out.1]; exact hz.nf
 have bn6 : n6 ≤ 1048576 := by rw [← HLC.out.2.1]; exact hz.ne
 have bn7 : n7 ≤ 1048576 := by rw [← HLC.out.2.2]; exact hz.nr
 have HCA : Hid (∀ W, Below w.heap.size w W → CacheO W B (.slice o1 c.s.cs.length c1) (.slice o2 c.s.ws.length c2) (.slice o3 kv.length c3) (.slice o4 c.s.bl.length c4) (.slice o5 n5 c5) (.slice o6 n6 c6) (.slice o7 n7 c7) kv fv ev rv c) := fun W hb => h.below hb
 clear hn5 hn6 hn7 h hz
 have HFL : Hid (∀ W, Below w.heap.size w W → FlsO W B (.slice o5 n5 c5) fv) := fun W hb => (HCA.out W hb).fls
 have HFS : Hid (∀ x ∈ fv, FlSmall x.d) := fun x hx => HZ.out.fl _ (by rw [← HFD.out]; exact List.mem_map.2 ⟨x, hx, rfl⟩)
 have hb0 : Below w.heap.size w w := Below.refl _ _
 go_enter Tryz.func42, Tryz.ntmps42
 go_upto_region 1 with fail
 obtain ⟨qv1, hqv1⟩ := exq ((w).heap.size)
 obtain ⟨w1, hW1⟩ := exq ((w).alloc (.cells #[.slice o1 c.s.cs.length c1, .slice o2 c.s.ws.length c2, .slice o3 kv.length c3, .slice o4 c.s.bl.length c4, .int .i64 c.s.nx, .int .i64 c.s.sq, .slice o5 n5 c5, .int .i64 c.now, .slice o6 n6 c6, .slice o7 n7 c7] 58))
 have hz1 : (w).heap.size = qv1 := hqv1.symm
 first | rw [← hW1, ← hqv1] | rw [← hW1]
 have hs1 := hsa hW1 hz1
 have bw := bal hW1
 have hb1 := hbt hb0 bw
 have HBv1_1 := hnew hW1 hz1
 clear hb0 bw hW1 hz1
 clear hs1 hqv1
 have cv1_0 := (k10c HBv1_1).1
 have cv1_1 := (k10c HBv1_1).2.1
 have cv1_2 := (k10c HBv1_1).2.2.1
 have cv1_3 := (k10c HBv1_1).2.2.2.1
 have cv1_4 := (k10c HBv1_1).2.2.2.2.1
 have cv1_5 := (k10c HBv1_1).2.2.2.2.2.1
 go_wp2_with fail
 refine (specShelfOk_any _ _ _ _ kv c.s B _ (HCA.out _ hb1).shelf HZ.out.s).mono ?_
 rintro e w2 ⟨us, rfl, hus, bw⟩
 have hb2 := hbt hb1 bw
 have HBv1_2 := hblk HBv1_1 bw
 clear hb1 HBv1_1 bw
 clear cv1_0 cv1_1 cv1_2 cv1_3 cv1_4 cv1_5
 cases us with
 | false =>
  have HNus : Hid (¬ (ShelfP c.s)) := fun h => nomatch hus.2 h
  clear hus
  go_wp2_with fail
  go_ret
  exact BoolIs.no (fun h => HNus.out h.1) hb2
 | true =>
  have HYus : Hid (ShelfP c.s) := hus.1 rfl
  clear hus
  have cv1_7 := (k10c HBv1_2).2.2.2.2.2.2.2.1
  go_wp2_with fail
  refine (l1In_any c.now 0 1000000 _).mono ?_
  rintro e w3 ⟨rfl, hwe⟩
  have bw : Below (w2).heap.size (w2) w3 := by rw [hwe]; exact Below.refl _ _
  clear hwe
  obtain ⟨un, hun⟩ : ∃ u, u = decide ((0 : Int) ≤ c.now ∧ c.now ≤ 1000000) := ⟨_, rfl⟩
  rw [← hun]
  have hb3 := hbt hb2 bw
  have HBv1_3 := hblk HBv1_2 bw
  clear hb2 HBv1_2 bw
  clear cv1_7
  cases un with
  | false =>
   have HNun : Hid (¬ (0 ≤ c.now ∧ c.now ≤ 1000000)) := (show ¬ (0 ≤ c.now ∧ c.now ≤ 1000000) from of_decide_eq_false hun.symm)
   clear hun
   go_wp2_with fail
   go_ret
   exact BoolIs.no (fun h => HNun.out h.2.1) hb3
  | true =>
   have HYun : Hid (0 ≤ c.now ∧ c.now ≤ 1000000) := (show (0 ≤ c.now ∧ c.now ≤ 1000000) from of_decide_eq_true hun.symm)
   clear hun
   by_cases hc1 : 5 < (n5 : Int)
   ·
    have Hf5 : Hid (¬ n5 ≤ 5) := (by have := hc1; show ¬ _; omega)
    have cv1_6 := (k10c HBv1_3).2.2.2.2.2.2.1
    go_wp2_with fail
    go_ret
    exact BoolIs.no (fun h => by have h1 := h.2.2.1.1; have h5 := Hf5.out; rw [HLC.out.1] at h1; omega) hb3
   ·
    have Hf5 : Hid (n5 ≤ 5) := (by have := hc1; show _ ≤ _; omega)
    by_cases hc2 : 1500 < (n6 : Int)
    ·
     have He5 : Hid (¬ n6 ≤ 1500) := (by have := hc2; show ¬ _; omega)
     have cv1_6 := (k10c HBv1_3).2.2.2.2.2.2.1
     have cv1_8 := (k10c HBv1_3).2.2.2.2.2.2.2.2.1
     go_wp2_with fail
     go_ret
     exact BoolIs.no (fun h => by have h1 := h.2.2.2.1; have h5 := He5.out; rw [HLC.out.2.1] at h1; omega) hb3
    ·
     have He5 : Hid (n6 ≤ 1500) := (by have := hc2; show _ ≤ _; omega)
     have cv1_6 := (k10c HBv1_3).2.2.2.2.2.2.1
     have cv1_8 := (k10c HBv1_3).2.2.2.2.2.2.2.2.1
     have cv1_9 := (k10c HBv1_3).2.2.2.2.2.2.2.2.2
     by_cases hc3 : 1500 < (n7 : Int)
     ·
      have Hr5 : Hid (¬ n7 ≤ 1500) := (by have := hc3; show ¬ _; omega)
      go_wp2_with fail
      go_ret
      exact BoolIs.no (fun h => by have h1 := h.2.2.2.2; have h5 := Hr5.out; rw [HLC.out.2.2] at h1; omega) hb3
     ·
      have Hr5 : Hid (n7 ≤ 1500) := (by have := hc3; show _ ≤ _; omega)
      go_wp2_with fail
      clear cv1_6 cv1_8 cv1_9
      obtain ⟨wA, hwA⟩ := exq w3
      rw [← hwA] at hb3 HBv1_3 ⊢
      clear hwA
      go_loopw [3] (fun i wr => ∃ i' : Nat, i' ≤ n5 ∧ i = .int .i64 (i' : Int) ∧ Hid (Below w.heap.size w (wr) ∧ (wr).heap[qv1]? = some (.cells #[.slice o1 c.s.cs.length c1, .slice o2 c.s.ws.length c2, .slice o3 kv.length c3, .slice o4 c.s.bl.length c4, .int .i64 c.s.nx, .int .i64 c.s.sq, .slice o5 n5 c5, .int .i64 c.now, .slice o6 n6 c6, .slice o7 n7 c7] 58)) ∧ Hid (∀ m, m < i' → FlAtOk c.fl m)) (fun i _ => n5 - (intOf i).toNat)
      case atStart => exact ⟨0, Nat.zero_le _, rfl, ⟨hb3, HBv1_3.out⟩, fun m hm => absurd hm (by omega)⟩
      case round =>
       obtain ⟨i, hi, rfl, HW, HN⟩ := hrel
       by_cases hlt : (i : Int) < (n5 : Int)
       ·
        have hb4 := HW.out.1
        have HBv1_4 : Hid ((wr).heap[qv1]? = some (.cells #[.slice o1 c.s.cs.length c1, .slice o2 c.s.ws.length c2, .slice o3 kv.length c3, .slice o4 c.s.bl.length c4, .int .i64 c.s.nx, .int .i64 c.s.sq, .slice o5 n5 c5, .int .i64 c.now, .slice o6 n6 c6, .slice o7 n7 c7] 58)) := HW.out.2
        clear HW hb3 HBv1_3
        obtain ⟨g5, p5, hV, _, _⟩ := (HFL.out _ hb4).look i (by rw [HLF.out]; omega)
        rw [HLF.out] at hV
        injection hV with hV1 hV2 hV3
        subst hV1 hV3
        clear hV2
        obtain ⟨dX, hdX⟩ := exq (flvAt fv i)
        have HMd : Hid (dX ∈ fv) := by show _ ∈ _; rw [hdX]; exact getD_mem0 _ fv i (by rw [HLF.out]; omega)
        have HEd : Hid (flAt c.fl i = dX.d) := by show _ = _; rw [hdX, ← HFD.out]; exact getD_map0 _ _ _ fv i (by rw [HLF.out]; omega)
        have HKd : Hid (∀ W, Below w.heap.size w W → FlAt W g5 i dX) := fun W hb => by
         obtain ⟨g', p', hV, _, hc⟩ := (HFL.out W hb).look i (by rw [HLF.out]; omega)
         injection hV with hV1 _ _
         cases hV1
         rw [hdX]
         exact hc
        have HRd : Hid (∀ W, Below w.heap.size w W → RowsO W B (flR dX)) := fun W hb => (HFL.out W hb).item HMd.out
        have HSd : Hid (FlSmall dX.d) := HFS.out _ HMd.out
        clear hdX
        obtain ⟨d, kuv2, kuv4, kuv6, kuv7, kuv9⟩ := dX
        obtain ⟨ku2, kuc2, hu⟩ := slice_of_owns ((HRd.out _ hb4).own (⟨171, 2, kuv2, d.qfs.length, flatF d.qfs⟩ : Rw) (by simp [flR]))
        obtain rfl : kuv2 = .slice ku2 d.qfs.length kuc2 := hu
        obtain ⟨ku4, kuc4, hu⟩ := slice_of_owns ((HRd.out _ hb4).own (⟨3, 1, kuv4, d.who.length, d.who.map (Value.int .i64)⟩ : Rw) (by simp [flR]))
        obtain rfl : kuv4 = .slice ku4 d.who.length kuc4 := hu
        obtain ⟨ku6, kuc6, hu⟩ := slice_of_owns ((HRd.out _ hb4).own (⟨9, 1, kuv6, d.oxs.length, d.oxs.map Value.string⟩ : Rw) (by simp [flR]))
        obtain rfl : kuv6 = .slice ku6 d.oxs.length kuc6 := hu
        obtain ⟨ku7, kuc7, hu⟩ := slice_of_owns ((HRd.out _ hb4).own (⟨9, 1, kuv7, d.oys.length, d.oys.map Value.string⟩ : Rw) (by simp [flR]))
        obtain rfl : kuv7 = .slice ku7 d.oys.length kuc7 := hu
        obtain ⟨ku9, kuc9, hu⟩ := slice_of_owns ((HRd.out _ hb4).own (⟨171, 2, kuv9, d.ofs.length, flatF d.ofs⟩ : Rw) (by simp [flR]))
        obtain rfl : kuv9 = .slice ku9 d.ofs.length kuc9 := hu
        have r0d := (HKd.out _ hb4).c0
        have r1d := (HKd.out _ hb4).c1
        have r2d := (HKd.out _ hb4).c2
        have r3d := (HKd.out _ hb4).c3
        have r4d := (HKd.out _ hb4).c4
        have r5d := (HKd.out _ hb4).c5
        have r6d := (HKd.out _ hb4).c6
        have r7d := (HKd.out _ hb4).c7
        have r8d := (HKd.out _ hb4).c8
        have r9d := (HKd.out _ hb4).c9
        have r10d := (HKd.out _ hb4).c10
        have r11d := (HKd.out _ hb4).c11
        have r12d := (HKd.out _ hb4).c12
        dsimp only at r0d r1d r2d r3d r4d r5d r6d r7d r8d r9d r10d r11d r12d
        obtain ⟨hs, hhhs⟩ := exq d.has
        rw [← hhhs] at r12d
        have HHhs : Hid (hs = d.has) := hhhs
        clear hhhs
        have cv1_6 := (k10c HBv1_4).2.2.2.2.2.2.1
        go_upto_region 7 with fail
        obtain ⟨qv2, hqv2⟩ := exq ((wr).heap.size)
        obtain ⟨w5, hW5⟩ := exq ((wr).alloc (.cells #[.int .i64 d.qmt, .string d.qpa, .slice ku2 d.qfs.length kuc2, .string d.qbd, .slice ku4 d.who.length kuc4, .string d.opa, .slice ku6 d.oxs.length kuc6, .slice ku7 d.oys.length kuc7, .int .i64 d.ost, .slice ku9 d.ofs.length kuc9, .string d.obd, .int .i64 d.otm, .bool hs] 129))
        have hz5 : (wr).heap.size = qv2 := hqv2.symm
        first | rw [← hW5, ← hqv2] | rw [← hW5]
        have hs5 := hsa hW5 hz5
        have bw := bal hW5
        have hb5 := hbt hb4 bw
        have HBv1_5 := hblk HBv1_4 bw
        have HBv2_5 := hnew hW5 hz5
        clear hb4 HBv1_4 bw hW5 hz5
        clear hs5 hqv2
        clear r0d r1d r2d r3d r4d r5d r6d r7d r8d r9d r10d r11d r12d cv1_6
        have cv2_0 : (w5).cell? ⟨qv2, 0, none⟩ = some (.int .i64 d.qmt) := (cell_of HBv2_5.out 0).trans rfl
        have cv2_1 : (w5).cell? ⟨qv2, 1, none⟩ = some (.string d.qpa) := (cell_of HBv2_5.out 1).trans rfl
        have cv2_2 : (w5).cell? ⟨qv2, 2, none⟩ = some (.slice ku2 d.qfs.length kuc2) := (cell_of HBv2_5.out 2).trans rfl
        have cv2_3 : (w5).cell? ⟨qv2, 3, none⟩ = some (.string d.qbd) := (cell_of HBv2_5.out 3).trans rfl
        go_wp2_with fail
        refine (specReqOk_f d _ _ _ _ _ B _ (HRd.out _ hb5) HSd.out).mono ?_
        rintro e w6 ⟨ur, rfl, hur, bw⟩
        have hb6 := hbt hb5 bw
        have HBv1_6 := hblk HBv1_5 bw
        have HBv2_6 := hblk HBv2_5 bw
        clear hb5 HBv1_5 HBv2_5 bw
        clear cv2_0 cv2_1 cv2_2 cv2_3
        cases ur with
        | false =>
         have HNur : Hid (¬ (ReqF d)) := fun h => nomatch hur.2 h
         clear hur
         go_wp2_with fail
         go_ret
         exact BoolIs.no (fun h => by have hk := h.2.2.1.2 i (by rw [HLC.out.1]; omega); unfold FlAtOk at hk; rw [HEd.out] at hk; exact HNur.out hk.1.1) hb6
        | true =>
         have HYur : Hid (ReqF d) := hur.1 rfl
         clear hur
         have cv2_4 : (w6).cell? ⟨qv2, 4, none⟩ = some (.slice ku4 d.who.length kuc4) := (cell_of HBv2_6.out 4).trans rfl
         go_wp2_with fail
         refine (l1In_any (d.who.length : Int) 1 5 _).mono ?_
         rintro e w7 ⟨rfl, hwe⟩
         have bw : Below (w6).heap.size (w6) w7 := by rw [hwe]; exact Below.refl _ _
         clear hwe
         obtain ⟨uw, huw⟩ : ∃ u, u = decide ((1 : Int) ≤ (d.who.length : Int) ∧ (d.who.length : Int) ≤ 5) := ⟨_, rfl⟩
         rw [← huw]
         have hb7 := hbt hb6 bw
         have HBv1_7 := hblk HBv1_6 bw
         have HBv2_7 := hblk HBv2_6 bw
         clear hb6 HBv1_6 HBv2_6 bw
         clear cv2_4
         cases uw with
         | false =>
          have HNuw : Hid (¬ (1 ≤ (d.who.length : Int) ∧ (d.who.length : Int) ≤ 5)) := (show ¬ (1 ≤ (d.who.length : Int) ∧ (d.who.length : Int) ≤ 5) from of_decide_eq_false huw.symm)
          clear huw
          go_wp2_with fail
          go_ret
          exact BoolIs.no (fun h => by have hk := h.2.2.1.2 i (by rw [HLC.out.1]; omega); unfold FlAtOk at hk; rw [HEd.out] at hk; exact HNuw.out hk.1.2.1) hb7
         | true =>
          have HYuw : Hid (1 ≤ (d.who.length : Int) ∧ (d.who.length : Int) ≤ 5) := (show (1 ≤ (d.who.length : Int) ∧ (d.who.length : Int) ≤ 5) from of_decide_eq_true huw.symm)
          clear huw
          cases hs with
          | false =>
           have cv2_12 : (w7).cell? ⟨qv2, 12, none⟩ = some (.bool false) := (cell_of HBv2_7.out 12).trans rfl
           go_wp2_with fail
           clear cv2_12
           have HOB : Hid (d.has = true → ObjF d) := fun h => by have e := HHhs.out; rw [h] at e; cases e
           obtain ⟨wB, hwB⟩ := exq w7
           rw [← hwB] at hb7 HBv1_7 HBv2_7 ⊢
           clear hwB
           go_loopw [5] (fun i0 wr => ∃ j : Nat, j ≤ i ∧ i0 = .int .i64 (j : Int) ∧ Hid (Below w.heap.size w (wr) ∧ (wr).heap[qv1]? = some (.cells #[.slice o1 c.s.cs.length c1, .slice o2 c.s.ws.length c2, .slice o3 kv.length c3, .slice o4 c.s.bl.length c4, .int .i64 c.s.nx, .int .i64 c.s.sq, .slice (some ⟨g5, 0, none⟩) n5 c5, .int .i64 c.now, .slice o6 n6 c6, .slice o7 n7 c7] 58) ∧ (wr).heap[qv2]? = some (.cells #[.int .i64 d.qmt, .string d.qpa, .slice ku2 d.qfs.length kuc2, .string d.qbd, .slice ku4 d.who.length kuc4, .string d.opa, .slice ku6 d.oxs.length kuc6, .slice ku7 d.oys.length kuc7, .int .i64 d.ost, .slice ku9 d.ofs.length kuc9, .string d.obd, .int .i64 d.otm, .bool false] 129)) ∧ Hid (∀ m, m < j → ¬ AlikeF (flAt c.fl m) d)) (fun i0 _ => i - (intOf i0).toNat)
           case atStart => exact ⟨0, Nat.zero_le _, rfl, ⟨hb7, HBv1_7.out, HBv2_7.out⟩, fun m hm => absurd hm (by omega)⟩
           case round =>
            obtain ⟨j, hj, rfl, HW, HJ⟩ := hrel
            by_cases hlj : (j : Int) < (i : Int)
            ·
             have hb8 := HW.out.1
             have HBv1_8 : Hid ((wr).heap[qv1]? = some (.cells #[.slice o1 c.s.cs.length c1, .slice o2 c.s.ws.length c2, .slice o3 kv.length c3, .slice o4 c.s.bl.length c4, .int .i64 c.s.nx, .int .i64 c.s.sq, .slice (some ⟨g5, 0, none⟩) n5 c5, .int .i64 c.now, .slice o6 n6 c6, .slice o7 n7 c7] 58)) := HW.out.2.1
             have HBv2_8 : Hid ((wr).heap[qv2]? = some (.cells #[.int .i64 d.qmt, .string d.qpa, .slice ku2 d.qfs.length kuc2, .string d.qbd, .slice ku4 d.who.length kuc4, .string d.opa, .slice ku6 d.oxs.length kuc6, .slice ku7 d.oys.length kuc7, .int .i64 d.ost, .slice ku9 d.ofs.length kuc9, .string d.obd, .int .i64 d.otm, .bool false] 129)) := HW.out.2.2
             clear HW hb7 HBv1_7 HBv2_7
             obtain ⟨zX, hzX⟩ := exq (flvAt fv j)
             have HMz : Hid (zX ∈ fv) := by show _ ∈ _; rw [hzX]; exact getD_mem0 _ fv j (by rw [HLF.out]; omega)
             have HEz : Hid (flAt c.fl j = zX.d) := by show _ = _; rw [hzX, ← HFD.out]; exact getD_map0 _ _ _ fv j (by rw [HLF.out]; omega)
             have HKz : Hid (∀ W, Below w.heap.size w W → FlAt W g5 j zX) := fun W hb => by
              obtain ⟨g', p', hV, _, hc⟩ := (HFL.out W hb).look j (by rw [HLF.out]; omega)
              injection hV with hV1 _ _
              cases hV1
              rw [hzX]
              exact hc
             have HRz : Hid (∀ W, Below w.heap.size w W → RowsO W B (flR zX)) := fun W hb => (HFL.out W hb).item HMz.out
             have HSz : Hid (FlSmall zX.d) := HFS.out _ HMz.out
             clear hzX
             obtain ⟨z, kzv2, kzv4, kzv6, kzv7, kzv9⟩ := zX
             obtain ⟨kz2, kzc2, hu⟩ := slice_of_owns ((HRz.out _ hb8).own (⟨171, 2, kzv2, z.qfs.length, flatF z.qfs⟩ : Rw) (by simp [flR]))
             obtain rfl : kzv2 = .slice kz2 z.qfs.length kzc2 := hu
             obtain ⟨kz4, kzc4, hu⟩ := slice_of_owns ((HRz.out _ hb8).own (⟨3, 1, kzv4, z.who.length, z.who.map (Value.int .i64)⟩ : Rw) (by simp [flR]))
             obtain rfl : kzv4 = .slice kz4 z.who.length kzc4 := hu
             obtain ⟨kz6, kzc6, hu⟩ := slice_of_owns ((HRz.out _ hb8).own (⟨9, 1, kzv6, z.oxs.length, z.oxs.map Value.string⟩ : Rw) (by simp [flR]))
             obtain rfl : kzv6 = .slice kz6 z.oxs.length kzc6 := hu
             obtain ⟨kz7, kzc7, hu⟩ := slice_of_owns ((HRz.out _ hb8).own (⟨9, 1, kzv7, z.oys.length, z.oys.map Value.string⟩ : Rw) (by simp [flR]))
             obtain rfl : kzv7 = .slice kz7 z.oys.length kzc7 := hu
             obtain ⟨kz9, kzc9, hu⟩ := slice_of_owns ((HRz.out _ hb8).own (⟨171, 2, kzv9, z.ofs.length, flatF z.ofs⟩ : Rw) (by simp [flR]))
             obtain rfl : kzv9 = .slice kz9 z.ofs.length kzc9 := hu
             have hjn : ¬ n5 ≤ j := by omega
             have HEL5 : Hid (∀ W, Below w.heap.size w W → (W.cell? ⟨g5, j * 13, none⟩ = some (.int .i64 z.qmt) ∧ W.cell? ⟨g5, j * 13 + 1, none⟩ = some (.string z.qpa) ∧ W.cell? ⟨g5, j * 13 + 2, none⟩ = some (.slice kz2 z.qfs.length kzc2) ∧ W.cell? ⟨g5, j * 13 + 3, none⟩ = some (.string z.qbd) ∧ W.cell? ⟨g5, j * 13 + 4, none⟩ = some (.slice kz4 z.who.length kzc4) ∧ W.cell? ⟨g5, j * 13 + 5, none⟩ = some (.string z.opa) ∧ W.cell? ⟨g5, j * 13 + 6, none⟩ = some (.slice kz6 z.oxs.length kzc6) ∧ W.cell? ⟨g5, j * 13 + 7, none⟩ = some (.slice kz7 z.oys.length kzc7) ∧ W.cell? ⟨g5, j * 13 + 8, none⟩ = some (.int .i64 z.ost) ∧ W.cell? ⟨g5, j * 13 + 9, none⟩ = some (.slice kz9 z.ofs.length kzc9) ∧ W.cell? ⟨g5, j * 13 + 10, none⟩ = some (.string z.obd) ∧ W.cell? ⟨g5, j * 13 + 11, none⟩ = some (.int .i64 z.otm) ∧ W.cell? ⟨g5, j * 13 + 12, none⟩ = some (.bool z.has))) := fun W hb => by
              have c := HKz.out W hb
              exact ⟨c.c0, c.c1, c.c2, c.c3, c.c4, c.c5, c.c6, c.c7, c.c8, c.c9, c.c10, c.c11, c.c12⟩
             go_upto_region 12 with fail
             refine wp_region_held_drew (S := fun W => W.heap[qv1]? = some (.cells #[.slice o1 c.s.cs.length c1, .slice o2 c.s.ws.length c2, .slice o3 kv.length c3, .slice o4 c.s.bl.length c4, .int .i64 c.s.nx, .int .i64 c.s.sq, .slice (some ⟨g5, 0, none⟩) n5 c5, .int .i64 c.now, .slice o6 n6 c6, .slice o7 n7 c7] 58) ∧ (W.cell? ⟨g5, j * 13, none⟩ = some (.int .i64 z.qmt) ∧ W.cell? ⟨g5, j * 13 + 1, none⟩ = some (.string z.qpa) ∧ W.cell? ⟨g5, j * 13 + 2, none⟩ = some (.slice kz2 z.qfs.length kzc2) ∧ W.cell? ⟨g5, j * 13 + 3, none⟩ = some (.string z.qbd) ∧ W.cell? ⟨g5, j * 13 + 4, none⟩ = some (.slice kz4 z.who.length kzc4) ∧ W.cell? ⟨g5, j * 13 + 5, none⟩ = some (.string z.opa) ∧ W.cell? ⟨g5, j * 13 + 6, none⟩ = some (.slice kz6 z.oxs.length kzc6) ∧ W.cell? ⟨g5, j * 13 + 7, none⟩ = some (.slice kz7 z.oys.length kzc7) ∧ W.cell? ⟨g5, j * 13 + 8, none⟩ = some (.int .i64 z.ost) ∧ W.cell? ⟨g5, j * 13 + 9, none⟩ = some (.slice kz9 z.ofs.length kzc9) ∧ W.cell? ⟨g5, j * 13 + 10, none⟩ = some (.string z.obd) ∧ W.cell? ⟨g5, j * 13 + 11, none⟩ = some (.int .i64 z.otm) ∧ W.cell? ⟨g5, j * 13 + 12, none⟩ = some (.bool z.has)) ∧ W.heap[qv2]? = some (.cells #[.int .i64 d.qmt, .string d.qpa, .slice ku2 d.qfs.length kuc2, .string d.qbd, .slice ku4 d.who.length kuc4, .string d.opa, .slice ku6 d.oxs.length kuc6, .slice ku7 d.oys.length kuc7, .int .i64 d.ost, .slice ku9 d.ofs.length kuc9, .string d.obd, .int .i64 d.otm, .bool false] 129)) (by kernel_rfl) ⟨HBv1_8.out, (by first | exact HEL5.out _ hb8 | exact HEL5.out _ hb8.drew), HBv2_8.out⟩ (fun _ => ?_)
             obtain ⟨w9, hX⟩ := exq wr.drew
             have bw := bdr hX
             rw [← hX]
             have hb9 := hbt hb8 bw
             have HBv1_9 := hblk HBv1_8 bw
             have HBv2_9 := hblk HBv2_8 bw
             have hS9 : w9.heap[qv1]? = some (.cells #[.slice o1 c.s.cs.length c1, .slice o2 c.s.ws.length c2, .slice o3 kv.length c3, .slice o4 c.s.bl.length c4, .int .i64 c.s.nx, .int .i64 c.s.sq, .slice (some ⟨g5, 0, none⟩) n5 c5, .int .i64 c.now, .slice o6 n6 c6, .slice o7 n7 c7] 58) ∧ (w9.cell? ⟨g5, j * 13, none⟩ = some (.int .i64 z.qmt) ∧ w9.cell? ⟨g5, j * 13 + 1, none⟩ = some (.string z.qpa) ∧ w9.cell? ⟨g5, j * 13 + 2, none⟩ = some (.slice kz2 z.qfs.length kzc2) ∧ w9.cell? ⟨g5, j * 13 + 3, none⟩ = some (.string z.qbd) ∧ w9.cell? ⟨g5, j * 13 + 4, none⟩ = some (.slice kz4 z.who.length kzc4) ∧ w9.cell? ⟨g5, j * 13 + 5, none⟩ = some (.string z.opa) ∧ w9.cell? ⟨g5, j * 13 + 6, none⟩ = some (.slice kz6 z.oxs.length kzc6) ∧ w9.cell? ⟨g5, j * 13 + 7, none⟩ = some (.slice kz7 z.oys.length kzc7) ∧ w9.cell? ⟨g5, j * 13 + 8, none⟩ = some (.int .i64 z.ost) ∧ w9.cell? ⟨g5, j * 13 + 9, none⟩ = some (.slice kz9 z.ofs.length kzc9) ∧ w9.cell? ⟨g5, j * 13 + 10, none⟩ = some (.string z.obd) ∧ w9.cell? ⟨g5, j * 13 + 11, none⟩ = some (.int .i64 z.otm) ∧ w9.cell? ⟨g5, j * 13 + 12, none⟩ = some (.bool z.has)) ∧ w9.heap[qv2]? = some (.cells #[.int .i64 d.qmt, .string d.qpa, .slice ku2 d.qfs.length kuc2, .string d.qbd, .slice ku4 d.who.length kuc4, .string d.opa, .slice ku6 d.oxs.length kuc6, .slice ku7 d.oys.length kuc7, .int .i64 d.ost, .slice ku9 d.ofs.length kuc9, .string d.obd, .int .i64 d.otm, .bool false] 129) := ⟨HBv1_9.out, (by first | exact HEL5.out _ hb9 | exact HEL5.out _ hb9.drew), HBv2_9.out⟩
             clear hb8 HBv1_8 HBv2_8 bw hX
             refine tkP 0 (.pointer (some ⟨qv1, 6, none⟩)) 72 rfl rfl hS9 ?_
             go_frame
             refine tkL 1 (.slice (some ⟨g5, 0, none⟩) n5 c5) 73 rfl rfl (Or.inl ⟨by rfl, by intro W hW; obtain ⟨hhv1, hhE_5, hhv2⟩ := hW; have y6 := (cell_of hhv1 6).trans rfl; go_simp⟩) hS9 ?_
             go_frame
             refine tkP 2 (.int .i64 (j : Int)) 74 rfl rfl hS9 ?_
             go_frame
             refine tkP 3 (.pointer (some ⟨g5, j * 13, none⟩)) 75 rfl rfl hS9 ?_
             go_frame
             refine tkP 4 (.pointer (some ⟨g5, j * 13, none⟩)) 76 rfl rfl hS9 ?_
             go_frame
             refine tkL 5 (.agg #[.int .i64 z.qmt, .string z.qpa, .slice kz2 z.qfs.length kzc2, .string z.qbd]) 77 rfl rfl (Or.inl ⟨by rfl, by intro W hW; obtain ⟨hhv1, hhE_5, hhv2⟩ := hW; have y0 := hhE_5.1; have y1 := hhE_5.2.1; have y2 := hhE_5.2.2.1; have y3 := hhE_5.2.2.2.1; go_simp⟩) hS9 ?_
             go_frame
             refine tkP 6 (.pointer (some ⟨qv2, 0, none⟩)) 78 rfl rfl hS9 ?_
             go_frame
             refine tkL 7 (.agg #[.int .i64 d.qmt, .string d.qpa, .slice ku2 d.qfs.length kuc2, .string d.qbd]) 79 rfl rfl (Or.inl ⟨by rfl, by intro W hW; obtain ⟨hhv1, hhE_5, hhv2⟩ := hW; have y0 := (cell_of hhv2 0).trans rfl; have y1 := (cell_of hhv2 1).trans rfl; have y2 := (cell_of hhv2 2).trans rfl; have y3 := (cell_of hhv2 3).trans rfl; go_simp⟩) hS9 ?_
             go_frame
             refine rd1 8 rfl (fun K hK => ?_)
             go_simp
             refine (specAlike_f z d _ _ _ _ _ _ _ _ _ _ B B _ (HRz.out _ hb9) (HRd.out _ hb9) HSz.out HSd.out).mono ?_
             rintro e w10 ⟨ua, rfl, hua, bw⟩
             have hb10 := hbt hb9 bw
             have HM10 := hsz bw
             have HBv1_10 := hblk HBv1_9 bw
             have HBv2_10 := hblk HBv2_9 bw
             clear hb9 HBv1_9 HBv2_9 bw
             have hS10 : w10.heap[qv1]? = some (.cells #[.slice o1 c.s.cs.length c1, .slice o2 c.s.ws.length c2, .slice o3 kv.length c3, .slice o4 c.s.bl.length c4, .int .i64 c.s.nx, .int .i64 c.s.sq, .slice (some ⟨g5, 0, none⟩) n5 c5, .int .i64 c.now, .slice o6 n6 c6, .slice o7 n7 c7] 58) ∧ (w10.cell? ⟨g5, j * 13, none⟩ = some (.int .i64 z.qmt) ∧ w10.cell? ⟨g5, j * 13 + 1, none⟩ = some (.string z.qpa) ∧ w10.cell? ⟨g5, j * 13 + 2, none⟩ = some (.slice kz2 z.qfs.length kzc2) ∧ w10.cell? ⟨g5, j * 13 + 3, none⟩ = some (.string z.qbd) ∧ w10.cell? ⟨g5, j * 13 + 4, none⟩ = some (.slice kz4 z.who.length kzc4) ∧ w10.cell? ⟨g5, j * 13 + 5, none⟩ = some (.string z.opa) ∧ w10.cell? ⟨g5, j * 13 + 6, none⟩ = some (.slice kz6 z.oxs.length kzc6) ∧ w10.cell? ⟨g5, j * 13 + 7, none⟩ = some (.slice kz7 z.oys.length kzc7) ∧ w10.cell? ⟨g5, j * 13 + 8, none⟩ = some (.int .i64 z.ost) ∧ w10.cell? ⟨g5, j * 13 + 9, none⟩ = some (.slice kz9 z.ofs.length kzc9) ∧ w10.cell? ⟨g5, j * 13 + 10, none⟩ = some (.string z.obd) ∧ w10.cell? ⟨g5, j * 13 + 11, none⟩ = some (.int .i64 z.otm) ∧ w10.cell? ⟨g5, j * 13 + 12, none⟩ = some (.bool z.has)) ∧ w10.heap[qv2]? = some (.cells #[.int .i64 d.qmt, .string d.qpa, .slice ku2 d.qfs.length kuc2, .string d.qbd, .slice ku4 d.who.length kuc4, .string d.opa, .slice ku6 d.oxs.length kuc6, .slice ku7 d.oys.length kuc7, .int .i64 d.ost, .slice ku9 d.ofs.length kuc9, .string d.obd, .int .i64 d.otm, .bool false] 129) := ⟨HBv1_10.out, (by first | exact HEL5.out _ hb10 | exact HEL5.out _ hb10.drew), HBv2_10.out⟩
             refine hK.out _ _ hS10 (fun _ => ?_)
             clear hK K hS9
             clear hS10
             refine wpAnyH_done (by kernel_rfl) ?_ _
             cases ua with
             | false =>
              have HNua : Hid (¬ (AlikeF z d)) := fun h => nomatch hua.2 h
              clear hua
              have HJ2 : Hid (∀ m, m < j + 1 → ¬ AlikeF (flAt c.fl m) d) := fun m hm => by
               by_cases e : m = j
               ·
                subst e
                rw [HEz.out]
                exact HNua.out
               · exact HJ.out m (by omega)
              go_wp2_with fail
              go_roundw
              case rel => exact ⟨j + 1, by omega, by go_num, ⟨hb10, HBv1_10.out, HBv2_10.out⟩, HJ2⟩
              case measure => simp [intOf]; omega
             | true =>
              have HYua : Hid (AlikeF z d) := hua.1 rfl
              clear hua
              go_wp2_with fail
              go_ret
              exact BoolIs.no (fun h => by have hk := h.2.2.1.2 i (by rw [HLC.out.1]; omega); unfold FlAtOk at hk; rw [HEd.out] at hk; exact hk.2 j (by omega) (by rw [HEz.out]; exact HYua.out)) hb10
            ·
             have hb8 := HW.out.1
             have HBv1_8 : Hid ((wr).heap[qv1]? = some (.cells #[.slice o1 c.s.cs.length c1, .slice o2 c.s.ws.length c2, .slice o3 kv.length c3, .slice o4 c.s.bl.length c4, .int .i64 c.s.nx, .int .i64 c.s.sq, .slice (some ⟨g5, 0, none⟩) n5 c5, .int .i64 c.now, .slice o6 n6 c6, .slice o7 n7 c7] 58)) := HW.out.2.1
             have HBv2_8 : Hid ((wr).heap[qv2]? = some (.cells #[.int .i64 d.qmt, .string d.qpa, .slice ku2 d.qfs.length kuc2, .string d.qbd, .slice ku4 d.who.length kuc4, .string d.opa, .slice ku6 d.oxs.length kuc6, .slice ku7 d.oys.length kuc7, .int .i64 d.ost, .slice ku9 d.ofs.length kuc9, .string d.obd, .int .i64 d.otm, .bool false] 129)) := HW.out.2.2
             clear HW hb7 HBv1_7 HBv2_7
             have HNA : Hid (∀ k, k < i → ¬ AlikeF (flAt c.fl k) d) := fun m hm => HJ.out m (by omega)
             clear HJ
             have HN2 : Hid (∀ m, m < i + 1 → FlAtOk c.fl m) := fun m hm => by
              by_cases e : m = i
              ·
               subst e
               unfold FlAtOk
               rw [HEd.out]
               exact ⟨⟨HYur.out, HYuw.out, HOB.out⟩, HNA.out⟩
              · exact HN.out m (by omega)
             go_wp2_with fail
             go_roundw
             case rel => exact ⟨i + 1, by omega, by go_num, ⟨hb8, HBv1_8.out⟩, HN2⟩
             case measure => simp [intOf]; omega
          | true =>
           have cv2_5 : (w7).cell? ⟨qv2, 5, none⟩ = some (.string d.opa) := (cell_of HBv2_7.out 5).trans rfl
           have cv2_6 : (w7).cell? ⟨qv2, 6, none⟩ = some (.slice ku6 d.oxs.length kuc6) := (cell_of HBv2_7.out 6).trans rfl
           have cv2_7 : (w7).cell? ⟨qv2, 7, none⟩ = some (.slice ku7 d.oys.length kuc7) := (cell_of HBv2_7.out 7).trans rfl
           have cv2_8 : (w7).cell? ⟨qv2, 8, none⟩ = some (.int .i64 d.ost) := (cell_of HBv2_7.out 8).trans rfl
           have cv2_9 : (w7).cell? ⟨qv2, 9, none⟩ = some (.slice ku9 d.ofs.length kuc9) := (cell_of HBv2_7.out 9).trans rfl
           have cv2_10 : (w7).cell? ⟨qv2, 10, none⟩ = some (.string d.obd) := (cell_of HBv2_7.out 10).trans rfl
           have cv2_11 : (w7).cell? ⟨qv2, 11, none⟩ = some (.int .i64 d.otm) := (cell_of HBv2_7.out 11).trans rfl
           have cv2_12 : (w7).cell? ⟨qv2, 12, none⟩ = some (.bool true) := (cell_of HBv2_7.out 12).trans rfl
           go_wp2_with fail
           refine (specObjOk_f d _ _ _ _ _ B _ (HRd.out _ hb7) HSd.out).mono ?_
           rintro e w8 ⟨uo, rfl, huo, bw⟩
           have hb8 := hbt hb7 bw
           have HBv1_8 := hblk HBv1_7 bw
           have HBv2_8 := hblk HBv2_7 bw
           clear hb7 HBv1_7 HBv2_7 bw
           clear cv2_5 cv2_6 cv2_7 cv2_8 cv2_9 cv2_10 cv2_11 cv2_12
           cases uo with
           | false =>
            have HNuo : Hid (¬ (ObjF d)) := fun h => nomatch huo.2 h
            clear huo
            go_wp2_with fail
            go_ret
            exact BoolIs.no (fun h => by have hk := h.2.2.1.2 i (by rw [HLC.out.1]; omega); unfold FlAtOk at hk; rw [HEd.out] at hk; exact HNuo.out (hk.1.2.2 (by have e := HHhs.out; exact e.symm))) hb8
           | true =>
            have HYuo : Hid (ObjF d) := huo.1 rfl
            clear huo
            go_wp2_with fail
            have HOB : Hid (d.has = true → ObjF d) := fun _ => HYuo.out
            obtain ⟨wB, hwB⟩ := exq w8
            rw [← hwB] at hb8 HBv1_8 HBv2_8 ⊢
            clear hwB
            go_loopw [5] (fun i0 wr => ∃ j : Nat, j ≤ i ∧ i0 = .int .i64 (j : Int) ∧ Hid (Below w.heap.size w (wr) ∧ (wr).heap[qv1]? = some (.cells #[.slice o1 c.s.cs.length c1, .slice o2 c.s.ws.length c2, .slice o3 kv.length c3, .slice o4 c.s.bl.length c4, .int .i64 c.s.nx, .int .i64 c.s.sq, .slice (some ⟨g5, 0, none⟩) n5 c5, .int .i64 c.now, .slice o6 n6 c6, .slice o7 n7 c7] 58) ∧ (wr).heap[qv2]? = some (.cells #[.int .i64 d.qmt, .string d.qpa, .slice ku2 d.qfs.length kuc2, .string d.qbd, .slice ku4 d.who.length kuc4, .string d.opa, .slice ku6 d.oxs.length kuc6, .slice ku7 d.oys.length kuc7, .int .i64 d.ost, .slice ku9 d.ofs.length kuc9, .string d.obd, .int .i64 d.otm, .bool true] 129)) ∧ Hid (∀ m, m < j → ¬ AlikeF (flAt c.fl m) d)) (fun i0 _ => i - (intOf i0).toNat)
            case atStart => exact ⟨0, Nat.zero_le _, rfl, ⟨hb8, HBv1_8.out, HBv2_8.out⟩, fun m hm => absurd hm (by omega)⟩
            case round =>
             obtain ⟨j, hj, rfl, HW, HJ⟩ := hrel
             by_cases hlj : (j : Int) < (i : Int)
             ·
              have hb9 := HW.out.1
              have HBv1_9 : Hid ((wr).heap[qv1]? = some (.cells #[.slice o1 c.s.cs.length c1, .slice o2 c.s.ws.length c2, .slice o3 kv.length c3, .slice o4 c.s.bl.length c4, .int .i64 c.s.nx, .int .i64 c.s.sq, .slice (some ⟨g5, 0, none⟩) n5 c5, .int .i64 c.now, .slice o6 n6 c6, .slice o7 n7 c7] 58)) := HW.out.2.1
              have HBv2_9 : Hid ((wr).heap[qv2]? = some (.cells #[.int .i64 d.qmt, .string d.qpa, .slice ku2 d.qfs.length kuc2, .string d.qbd, .slice ku4 d.who.length kuc4, .string d.opa, .slice ku6 d.oxs.length kuc6, .slice ku7 d.oys.length kuc7, .int .i64 d.ost, .slice ku9 d.ofs.length kuc9, .string d.obd, .int .i64 d.otm, .bool true] 129)) := HW.out.2.2
              clear HW hb8 HBv1_8 HBv2_8
              obtain ⟨zX, hzX⟩ := exq (flvAt fv j)
              have HMz : Hid (zX ∈ fv) := by show _ ∈ _; rw [hzX]; exact getD_mem0 _ fv j (by rw [HLF.out]; omega)
              have HEz : Hid (flAt c.fl j = zX.d) := by show _ = _; rw [hzX, ← HFD.out]; exact getD_map0 _ _ _ fv j (by rw [HLF.out]; omega)
              have HKz : Hid (∀ W, Below w.heap.size w W → FlAt W g5 j zX) := fun W hb => by
               obtain ⟨g', p', hV, _, hc⟩ := (HFL.out W hb).look j (by rw [HLF.out]; omega)
               injection hV with hV1 _ _
               cases hV1
               rw [hzX]
               exact hc
              have HRz : Hid (∀ W, Below w.heap.size w W → RowsO W B (flR zX)) := fun W hb => (HFL.out W hb).item HMz.out
              have HSz : Hid (FlSmall zX.d) := HFS.out _ HMz.out
              clear hzX
              obtain ⟨z, kzv2, kzv4, kzv6, kzv7, kzv9⟩ := zX
              obtain ⟨kz2, kzc2, hu⟩ := slice_of_owns ((HRz.out _ hb9).own (⟨171, 2, kzv2, z.qfs.length, flatF z.qfs⟩ : Rw) (by simp [flR]))
              obtain rfl : kzv2 = .slice kz2 z.qfs.length kzc2 := hu
              obtain ⟨kz4, kzc4, hu⟩ := slice_of_owns ((HRz.out _ hb9).own (⟨3, 1, kzv4, z.who.length, z.who.map (Value.int .i64)⟩ : Rw) (by simp [flR]))
              obtain rfl : kzv4 = .slice kz4 z.who.length kzc4 := hu
              obtain ⟨kz6, kzc6, hu⟩ := slice_of_owns ((HRz.out _ hb9).own (⟨9, 1, kzv6, z.oxs.length, z.oxs.map Value.string⟩ : Rw) (by simp [flR]))
              obtain rfl : kzv6 = .slice kz6 z.oxs.length kzc6 := hu
              obtain ⟨kz7, kzc7, hu⟩ := slice_of_owns ((HRz.out _ hb9).own (⟨9, 1, kzv7, z.oys.length, z.oys.map Value.string⟩ : Rw) (by simp [flR]))
              obtain rfl : kzv7 = .slice kz7 z.oys.length kzc7 := hu
              obtain ⟨kz9, kzc9, hu⟩ := slice_of_owns ((HRz.out _ hb9).own (⟨171, 2, kzv9, z.ofs.length, flatF z.ofs⟩ : Rw) (by simp [flR]))
              obtain rfl : kzv9 = .slice kz9 z.ofs.length kzc9 := hu
              have hjn : ¬ n5 ≤ j := by omega
              have HEL5 : Hid (∀ W, Below w.heap.size w W → (W.cell? ⟨g5, j * 13, none⟩ = some (.int .i64 z.qmt) ∧ W.cell? ⟨g5, j * 13 + 1, none⟩ = some (.string z.qpa) ∧ W.cell? ⟨g5, j * 13 + 2, none⟩ = some (.slice kz2 z.qfs.length kzc2) ∧ W.cell? ⟨g5, j * 13 + 3, none⟩ = some (.string z.qbd) ∧ W.cell? ⟨g5, j * 13 + 4, none⟩ = some (.slice kz4 z.who.length kzc4) ∧ W.cell? ⟨g5, j * 13 + 5, none⟩ = some (.string z.opa) ∧ W.cell? ⟨g5, j * 13 + 6, none⟩ = some (.slice kz6 z.oxs.length kzc6) ∧ W.cell? ⟨g5, j * 13 + 7, none⟩ = some (.slice kz7 z.oys.length kzc7) ∧ W.cell? ⟨g5, j * 13 + 8, none⟩ = some (.int .i64 z.ost) ∧ W.cell? ⟨g5, j * 13 + 9, none⟩ = some (.slice kz9 z.ofs.length kzc9) ∧ W.cell? ⟨g5, j * 13 + 10, none⟩ = some (.string z.obd) ∧ W.cell? ⟨g5, j * 13 + 11, none⟩ = some (.int .i64 z.otm) ∧ W.cell? ⟨g5, j * 13 + 12, none⟩ = some (.bool z.has))) := fun W hb => by
               have c := HKz.out W hb
               exact ⟨c.c0, c.c1, c.c2, c.c3, c.c4, c.c5, c.c6, c.c7, c.c8, c.c9, c.c10, c.c11, c.c12⟩
              go_upto_region 12 with fail
              refine wp_region_held_drew (S := fun W => W.heap[qv1]? = some (.cells #[.slice o1 c.s.cs.length c1, .slice o2 c.s.ws.length c2, .slice o3 kv.length c3, .slice o4 c.s.bl.length c4, .int .i64 c.s.nx, .int .i64 c.s.sq, .slice (some ⟨g5, 0, none⟩) n5 c5, .int .i64 c.now, .slice o6 n6 c6, .slice o7 n7 c7] 58) ∧ (W.cell? ⟨g5, j * 13, none⟩ = some (.int .i64 z.qmt) ∧ W.cell? ⟨g5, j * 13 + 1, none⟩ = some (.string z.qpa) ∧ W.cell? ⟨g5, j * 13 + 2, none⟩ = some (.slice kz2 z.qfs.length kzc2) ∧ W.cell? ⟨g5, j * 13 + 3, none⟩ = some (.string z.qbd) ∧ W.cell? ⟨g5, j * 13 + 4, none⟩ = some (.slice kz4 z.who.length kzc4) ∧ W.cell? ⟨g5, j * 13 + 5, none⟩ = some (.string z.opa) ∧ W.cell? ⟨g5, j * 13 + 6, none⟩ = some (.slice kz6 z.oxs.length kzc6) ∧ W.cell? ⟨g5, j * 13 + 7, none⟩ = some (.slice kz7 z.oys.length kzc7) ∧ W.cell? ⟨g5, j * 13 + 8, none⟩ = some (.int .i64 z.ost) ∧ W.cell? ⟨g5, j * 13 + 9, none⟩ = some (.slice kz9 z.ofs.length kzc9) ∧ W.cell? ⟨g5, j * 13 + 10, none⟩ = some (.string z.obd) ∧ W.cell? ⟨g5, j * 13 + 11, none⟩ = some (.int .i64 z.otm) ∧ W.cell? ⟨g5, j * 13 + 12, none⟩ = some (.bool z.has)) ∧ W.heap[qv2]? = some (.cells #[.int .i64 d.qmt, .string d.qpa, .slice ku2 d.qfs.length kuc2, .string d.qbd, .slice ku4 d.who.length kuc4, .string d.opa, .slice ku6 d.oxs.length kuc6, .slice ku7 d.oys.length kuc7, .int .i64 d.ost, .slice ku9 d.ofs.length kuc9, .string d.obd, .int .i64 d.otm, .bool true] 129)) (by kernel_rfl) ⟨HBv1_9.out, (by first | exact HEL5.out _ hb9 | exact HEL5.out _ hb9.drew), HBv2_9.out⟩ (fun _ => ?_)
              obtain ⟨w10, hX⟩ := exq wr.drew
              have bw := bdr hX
              rw [← hX]
              have hb10 := hbt hb9 bw
              have HM10 := hsz bw
              have HBv1_10 := hblk HBv1_9 bw
              have HBv2_10 := hblk HBv2_9 bw
              have hS10 : w10.heap[qv1]? = some (.cells #[.slice o1 c.s.cs.length c1, .slice o2 c.s.ws.length c2, .slice o3 kv.length c3, .slice o4 c.s.bl.length c4, .int .i64 c.s.nx, .int .i64 c.s.sq, .slice (some ⟨g5, 0, none⟩) n5 c5, .int .i64 c.now, .slice o6 n6 c6, .slice o7 n7 c7] 58) ∧ (w10.cell? ⟨g5, j * 13, none⟩ = some (.int .i64 z.qmt) ∧ w10.cell? ⟨g5, j * 13 + 1, none⟩ = some (.string z.qpa) ∧ w10.cell? ⟨g5, j * 13 + 2, none⟩ = some (.slice kz2 z.qfs.length kzc2) ∧ w10.cell? ⟨g5, j * 13 + 3, none⟩ = some (.string z.qbd) ∧ w10.cell? ⟨g5, j * 13 + 4, none⟩ = some (.slice kz4 z.who.length kzc4) ∧ w10.cell? ⟨g5, j * 13 + 5, none⟩ = some (.string z.opa) ∧ w10.cell? ⟨g5, j * 13 + 6, none⟩ = some (.slice kz6 z.oxs.length kzc6) ∧ w10.cell? ⟨g5, j * 13 + 7, none⟩ = some (.slice kz7 z.oys.length kzc7) ∧ w10.cell? ⟨g5, j * 13 + 8, none⟩ = some (.int .i64 z.ost) ∧ w10.cell? ⟨g5, j * 13 + 9, none⟩ = some (.slice kz9 z.ofs.length kzc9) ∧ w10.cell? ⟨g5, j * 13 + 10, none⟩ = some (.string z.obd) ∧ w10.cell? ⟨g5, j * 13 + 11, none⟩ = some (.int .i64 z.otm) ∧ w10.cell? ⟨g5, j * 13 + 12, none⟩ = some (.bool z.has)) ∧ w10.heap[qv2]? = some (.cells #[.int .i64 d.qmt, .string d.qpa, .slice ku2 d.qfs.length kuc2, .string d.qbd, .slice ku4 d.who.length kuc4, .string d.opa, .slice ku6 d.oxs.length kuc6, .slice ku7 d.oys.length kuc7, .int .i64 d.ost, .slice ku9 d.ofs.length kuc9, .string d.obd, .int .i64 d.otm, .bool true] 129) := ⟨HBv1_10.out, (by first | exact HEL5.out _ hb10 | exact HEL5.out _ hb10.drew), HBv2_10.out⟩
              clear hb9 HBv1_9 HBv2_9 bw hX
              refine tkP 0 (.pointer (some ⟨qv1, 6, none⟩)) 72 rfl rfl hS10 ?_
              go_frame
              refine tkL 1 (.slice (some ⟨g5, 0, none⟩) n5 c5) 73 rfl rfl (Or.inl ⟨by rfl, by intro W hW; obtain ⟨hhv1, hhE_5, hhv2⟩ := hW; have y6 := (cell_of hhv1 6).trans rfl; go_simp⟩) hS10 ?_
              go_frame
              refine tkP 2 (.int .i64 (j : Int)) 74 rfl rfl hS10 ?_
              go_frame
              refine tkP 3 (.pointer (some ⟨g5, j * 13, none⟩)) 75 rfl rfl hS10 ?_
              go_frame
              refine tkP 4 (.pointer (some ⟨g5, j * 13, none⟩)) 76 rfl rfl hS10 ?_
              go_frame
              refine tkL 5 (.agg #[.int .i64 z.qmt, .string z.qpa, .slice kz2 z.qfs.length kzc2, .string z.qbd]) 77 rfl rfl (Or.inl ⟨by rfl, by intro W hW; obtain ⟨hhv1, hhE_5, hhv2⟩ := hW; have y0 := hhE_5.1; have y1 := hhE_5.2.1; have y2 := hhE_5.2.2.1; have y3 := hhE_5.2.2.2.1; go_simp⟩) hS10 ?_
              go_frame
              refine tkP 6 (.pointer (some ⟨qv2, 0, none⟩)) 78 rfl rfl hS10 ?_
              go_frame
              refine tkL 7 (.agg #[.int .i64 d.qmt, .string d.qpa, .slice ku2 d.qfs.length kuc2, .string d.qbd]) 79 rfl rfl (Or.inl ⟨by rfl, by intro W hW; obtain ⟨hhv1, hhE_5, hhv2⟩ := hW; have y0 := (cell_of hhv2 0).trans rfl; have y1 := (cell_of hhv2 1).trans rfl; have y2 := (cell_of hhv2 2).trans rfl; have y3 := (cell_of hhv2 3).trans rfl; go_simp⟩) hS10 ?_
              go_frame
              refine rd1 8 rfl (fun K hK => ?_)
              go_simp
              refine (specAlike_f z d _ _ _ _ _ _ _ _ _ _ B B _ (HRz.out _ hb10) (HRd.out _ hb10) HSz.out HSd.out).mono ?_
              rintro e w11 ⟨ua, rfl, hua, bw⟩
              have hb11 := hbt hb10 bw
              have HBv1_11 := hblk HBv1_10 bw
              have HBv2_11 := hblk HBv2_10 bw
              clear hb10 HBv1_10 HBv2_10 bw
              have hS11 : w11.heap[qv1]? = some (.cells #[.slice o1 c.s.cs.length c1, .slice o2 c.s.ws.length c2, .slice o3 kv.length c3, .slice o4 c.s.bl.length c4, .int .i64 c.s.nx, .int .i64 c.s.sq, .slice (some ⟨g5, 0, none⟩) n5 c5, .int .i64 c.now, .slice o6 n6 c6, .slice o7 n7 c7] 58) ∧ (w11.cell? ⟨g5, j * 13, none⟩ = some (.int .i64 z.qmt) ∧ w11.cell? ⟨g5, j * 13 + 1, none⟩ = some (.string z.qpa) ∧ w11.cell? ⟨g5, j * 13 + 2, none⟩ = some (.slice kz2 z.qfs.length kzc2) ∧ w11.cell? ⟨g5, j * 13 + 3, none⟩ = some (.string z.qbd) ∧ w11.cell? ⟨g5, j * 13 + 4, none⟩ = some (.slice kz4 z.who.length kzc4) ∧ w11.cell? ⟨g5, j * 13 + 5, none⟩ = some (.string z.opa) ∧ w11.cell? ⟨g5, j * 13 + 6, none⟩ = some (.slice kz6 z.oxs.length kzc6) ∧ w11.cell? ⟨g5, j * 13 + 7, none⟩ = some (.slice kz7 z.oys.length kzc7) ∧ w11.cell? ⟨g5, j * 13 + 8, none⟩ = some (.int .i64 z.ost) ∧ w11.cell? ⟨g5, j * 13 + 9, none⟩ = some (.slice kz9 z.ofs.length kzc9) ∧ w11.cell? ⟨g5, j * 13 + 10, none⟩ = some (.string z.obd) ∧ w11.cell? ⟨g5, j * 13 + 11, none⟩ = some (.int .i64 z.otm) ∧ w11.cell? ⟨g5, j * 13 + 12, none⟩ = some (.bool z.has)) ∧ w11.heap[qv2]? = some (.cells #[.int .i64 d.qmt, .string d.qpa, .slice ku2 d.qfs.length kuc2, .string d.qbd, .slice ku4 d.who.length kuc4, .string d.opa, .slice ku6 d.oxs.length kuc6, .slice ku7 d.oys.length kuc7, .int .i64 d.ost, .slice ku9 d.ofs.length kuc9, .string d.obd, .int .i64 d.otm, .bool true] 129) := ⟨HBv1_11.out, (by first | exact HEL5.out _ hb11 | exact HEL5.out _ hb11.drew), HBv2_11.out⟩
              refine hK.out _ _ hS11 (fun _ => ?_)
              clear hK K hS10
              clear hS11
              refine wpAnyH_done (by kernel_rfl) ?_ _
              cases ua with
              | false =>
               have HNua : Hid (¬ (AlikeF z d)) := fun h => nomatch hua.2 h
               clear hua
               have HJ2 : Hid (∀ m, m < j + 1 → ¬ AlikeF (flAt c.fl m) d) := fun m hm => by
                by_cases e : m = j
                ·
                 subst e
                 rw [HEz.out]
                 exact HNua.out
                · exact HJ.out m (by omega)
               go_wp2_with fail
               go_roundw
               case rel => exact ⟨j + 1, by omega, by go_num, ⟨hb11, HBv1_11.out, HBv2_11.out⟩, HJ2⟩
               case measure => simp [intOf]; omega
              | true =>
               have HYua : Hid (AlikeF z d) := hua.1 rfl
               clear hua
               go_wp2_with fail
               go_ret
               exact BoolIs.no (fun h => by have hk := h.2.2.1.2 i (by rw [HLC.out.1]; omega); unfold FlAtOk at hk; rw [HEd.out] at hk; exact hk.2 j (by omega) (by rw [HEz.out]; exact HYua.out)) hb11
             ·
              have hb9 := HW.out.1
              have HBv1_9 : Hid ((wr).heap[qv1]? = some (.cells #[.slice o1 c.s.cs.length c1, .slice o2 c.s.ws.length c2, .slice o3 kv.length c3, .slice o4 c.s.bl.length c4, .int .i64 c.s.nx, .int .i64 c.s.sq, .slice (some ⟨g5, 0, none⟩) n5 c5, .int .i64 c.now, .slice o6 n6 c6, .slice o7 n7 c7] 58)) := HW.out.2.1
              have HBv2_9 : Hid ((wr).heap[qv2]? = some (.cells #[.int .i64 d.qmt, .string d.qpa, .slice ku2 d.qfs.length kuc2, .string d.qbd, .slice ku4 d.who.length kuc4, .string d.opa, .slice ku6 d.oxs.length kuc6, .slice ku7 d.oys.length kuc7, .int .i64 d.ost, .slice ku9 d.ofs.length kuc9, .string d.obd, .int .i64 d.otm, .bool true] 129)) := HW.out.2.2
              clear HW hb8 HBv1_8 HBv2_8
              have HNA : Hid (∀ k, k < i → ¬ AlikeF (flAt c.fl k) d) := fun m hm => HJ.out m (by omega)
              clear HJ
              have HN2 : Hid (∀ m, m < i + 1 → FlAtOk c.fl m) := fun m hm => by
               by_cases e : m = i
               ·
                subst e
                unfold FlAtOk
                rw [HEd.out]
                exact ⟨⟨HYur.out, HYuw.out, HOB.out⟩, HNA.out⟩
               · exact HN.out m (by omega)
              go_wp2_with fail
              go_roundw
              case rel => exact ⟨i + 1, by omega, by go_num, ⟨hb9, HBv1_9.out⟩, HN2⟩
              case measure => simp [intOf]; omega
       ·
        have hb4 := HW.out.1
        have HBv1_4 : Hid ((wr).heap[qv1]? = some (.cells #[.slice o1 c.s.cs.length c1, .slice o2 c.s.ws.length c2, .slice o3 kv.length c3, .slice o4 c.s.bl.length c4, .int .i64 c.s.nx, .int .i64 c.s.sq, .slice o5 n5 c5, .int .i64 c.now, .slice o6 n6 c6, .slice o7 n7 c7] 58)) := HW.out.2
        clear HW hb3 HBv1_3
        have HFA : Hid (∀ m, m < c.fl.length → FlAtOk c.fl m) := fun m hm => HN.out m (by rw [HLC.out.1] at hm; omega)
        clear HN
        have cv1_6 := (k10c HBv1_4).2.2.2.2.2.2.1
        go_wp2_with fail
        go_ret
        exact BoolIs.yes ⟨HYus.out, HYun.out, ⟨by rw [HLC.out.1]; exact Hf5.out, HFA.out⟩, by rw [HLC.out.2.1]; exact He5.out, by rw [HLC.out.2.2]; exact Hr5.out⟩ hb4
end Go.Proofs.YtbmhonfgffjpcaaGreat
namespace Go.Proofs.YtbmhonfgffjpcaaGreat
open Go.RowKit
open Go.Lib hiding intOf
/-- A call answers a list of ints of its own. -/
def IntsIs (zs : List Int) (w : World) (e : Ending) (w' : World) : Prop := ∃ (o : Option Addr) (m p : Nat), e = .returned (.slice o m p) ∧ w'.ownsRow w.heap.size 3 1 (.slice o m p) m (zs.map (Value.int .i64)) ∧ zs.length = m ∧ m ≤ 25 ∧ Below w.heap.size w w'
theorem specWaiting_any (v1 v2 V VB F E R : Value) (kv : List (KpD × Value × Value × Value)) (fv : List FlV) (ev : List SeV) (rv : List RpV) (c : CaD) (B : Nat) (w : World) (h : CacheO w B v1 v2 V VB F E R kv fv ev rv c) (hz : CaSmall c) (hp : CacheP c) :
  Calls Tryz.prog 48 #[.agg #[v1, v2, V, VB, .int .i64 c.s.nx, .int .i64 c.s.sq, F, .int .i64 c.now, E, R]] w fun e w' => IntsIs (whoTo c.fl c.fl.length) w e w' := by
 obtain ⟨o1, c1, rfl⟩ := slice_of_owns h.shelf.disk.cells
 obtain ⟨o2, c2, rfl⟩ := slice_of_owns h.shelf.disk.pend
 obtain ⟨o3, c3, rfl⟩ := h.shelf.kept.len
 obtain ⟨o4, c4, rfl⟩ := slice_of_owns h.shelf.bans
 obtain ⟨o5, c5, rfl⟩ := h.fls.len
 obtain ⟨o6, c6, rfl⟩ := h.ses.len
 obtain ⟨o7, c7, rfl⟩ := h.rps.len
 obtain ⟨n3, hn3⟩ := exq kv.length
 obtain ⟨n4, hn4⟩ := exq (c.s.bl.length)
 obtain ⟨n5, hn5⟩ := exq fv.length
 obtain ⟨n6, hn6⟩ := exq ev.length
 obtain ⟨n7, hn7⟩ := exq rv.length
 rw [← hn3, ← hn4, ← hn5, ← hn6, ← hn7] at h ⊢
 have HLK : Hid (kv.length = n3) := hn3.symm
 have HLB : Hid (c.s.bl.length = n4) := hn4.symm
 have HLF : Hid (fv.length = n5) := hn5.symm
 have HLE : Hid (ev.length = n6) := hn6.symm
 have HLR : Hid (rv.length = n7) := hn7.symm
 have HLC : Hid (c.fl.length = n5 ∧ c.se.length = n6 ∧ c.sn.length = n7 ∧ c.s.ks.length = n3) := ⟨by rw [← h.hf, List.length_map, hn5], by rw [← h.he, List.length_map, hn6], by rw [← h.hr, List.length_map, hn7], by rw [← h.hk, List.length_map, hn3]⟩
 have HFD : Hid (fv.map (·.d) = c.fl) := h.hf
 have HED : Hid (ev.map (·.d) = c.se) := h.he
 have HKS : Hid (kv.map (·.1) = c.s.ks) := h.hk
 have HZ : Hid (CaSmall c) := hz
 have bn3 : n3 ≤ 1048576 := by rw [← HLC.out.2.2.2]; exact hz.s.k
 have bn4 : n4 ≤ 1048576 := by rw [← HLB.out]; exact hz.s.b
 have bn5 : n5 ≤ 1048576 := by rw [← HLC.out.1]; exact hz.nf
 have bn6 : n6 ≤ 1048576 := by rw [← HLC.out.2.1]; exact hz.ne
 have bn7 : n7 ≤ 1048576 := by rw [← HLC.out.2.2.1]; exact hz.nr
 have HCA : Hid (∀ W, Below w.heap.size w W → CacheO W B (.slice o1 c.s.cs.length c1) (.slice o2 c.s.ws.length c2) (.slice o3 n3 c3) (.slice o4 n4 c4) (.slice o5 n5 c5) (.slice o6 n6 c6) (.slice o7 n7 c7) kv fv ev rv c) := fun W hb => h.below hb
 have HKP : Hid (∀ W, Below w.heap.size w W → KeptsO W B (.slice o3 n3 c3) kv) := fun W hb => (h.below hb).shelf.kept
 have HBN : Hid (∀ W, Below w.heap.size w W → BanA W o4 n4 c.s.bl) := fun W hb => by
  have h1 := (h.below hb).shelf.bans
  rw [HLB.out] at h1
  exact ban_view h1
 have HC4 : Hid (n4 ≤ c4) := by
  have h1 := h.shelf.bans
  rw [HLB.out] at h1
  exact owns_cap h1
 clear hn3 hn4 hn5 hn6 hn7 h hz
 have HPP : Hid (CacheP c) := hp
 have bn5' : n5 ≤ 5 := by rw [← HLC.out.1]; exact hp.2.2.1.1
 have bn7' : n7 ≤ 1500 := by rw [← HLC.out.2.2.1]; exact hp.2.2.2.2
 clear hp
 obtain ⟨i0, hi, hz0, hz1, hz2⟩ := info_parts infoInt
 have HFL : Hid (∀ W, Below w.heap.size w W → FlsO W B (.slice o5 n5 c5) fv) := fun W hb => (HCA.out W hb).fls
 have HFS : Hid (∀ x ∈ fv, FlSmall x.d) := fun x hx => HZ.out.fl _ (by rw [← HFD.out]; exact List.mem_map.2 ⟨x, hx, rfl⟩)
 have hb0 : Below w.heap.size w w := Below.refl _ _
 go_enter Tryz.func48, Tryz.ntmps48
 go_upto_region 1 with fail
 obtain ⟨qv1, hqv1⟩ := exq ((w).heap.size)
 obtain ⟨w1, hW1⟩ := exq ((w).alloc (.cells #[.slice o1 c.s.cs.length c1, .slice o2 c.s.ws.length c2, .slice o3 n3 c3, .slice o4 n4 c4, .int .i64 c.s.nx, .int .i64 c.s.sq, .slice o5 n5 c5, .int .i64 c.now, .slice o6 n6 c6, .slice o7 n7 c7] 58))
 have hz1 : (w).heap.size = qv1 := hqv1.symm
 first | rw [← hW1, ← hqv1] | rw [← hW1]
 have hs1 := hsa hW1 hz1
 have bw := bal hW1
 have hb1 := hbt hb0 bw
 have HBv1_1 := hnew hW1 hz1
 clear hb0 bw hW1 hz1
 clear hs1 hqv1
 go_upto_region 2 with fail
 obtain ⟨qv2, hqv2⟩ := exq ((w1).heap.size)
 obtain ⟨w2, hW2⟩ := exq ((w1).alloc (.cells #[] 3))
 have hz2 : (w1).heap.size = qv2 := hqv2.symm
 first | rw [← hW2, ← hqv2] | rw [← hW2]
 have hs2 := hsa hW2 hz2
 have bw := bal hW2
 have hb2 := hbt hb1 bw
 have HBv1_2 := hblk HBv1_1 bw
 have HBv2_2 := hnew hW2 hz2
 have HGv2 := hge hz2 hb1
 have HQv2 : Hid ((w1).heap.size ≤ qv2) := by show _ ≤ _; omega
 clear hb1 HBv1_1 bw hW2 hz2
 clear hs2 hqv2
 go_wp2_with fail
 have HZ0 : Hid ((w2).ownsRow w.heap.size 3 1 (.slice (some ⟨qv2, 0, none⟩) 0 0) 0 ((([] : List Int)).map (Value.int .i64))) := by show World.ownsRow _ _ _ _ _ _ _; exact (⟨rfl, .inr ⟨_, 0, #[], rfl, HGv2.out, HBv2_2.out, Nat.le_refl _, Nat.zero_le _, rfl, rfl⟩⟩)
 obtain ⟨wW, hwW⟩ := exq w2
 rw [← hwW] at hb2 HBv1_2 HZ0 ⊢
 clear hwW
 go_loopw [3, 4] (fun x3 i wr => ∃ (i' mz : Nat) (oz : Option Addr) (pz : Nat) (zs : List Int), i' ≤ n5 ∧ mz ≤ 0 + 5 * i' ∧ i = .int .i64 (i' : Int) ∧ x3 = .slice oz mz pz ∧ Hid (Below w.heap.size w (wr) ∧ (wr).heap[qv1]? = some (.cells #[.slice o1 c.s.cs.length c1, .slice o2 c.s.ws.length c2, .slice o3 n3 c3, .slice o4 n4 c4, .int .i64 c.s.nx, .int .i64 c.s.sq, .slice o5 n5 c5, .int .i64 c.now, .slice o6 n6 c6, .slice o7 n7 c7] 58)) ∧ Hid (zs = whoTo c.fl i') ∧ Hid (wr.ownsRow w.heap.size 3 1 (.slice oz mz pz) mz ((zs).map (Value.int .i64)))) (fun _ i _ => n5 - (intOf i).toNat)
 case atStart => exact ⟨0, 0, (some ⟨qv2, 0, none⟩), 0, [], Nat.zero_le _, by omega, rfl, rfl, ⟨hb2, HBv1_2.out⟩, rfl, HZ0⟩
 case round =>
  clear HZ0
  obtain ⟨i, mz, oz, pz, zs, hi', hmz, rfl, rfl, HW, HE0, HR0⟩ := hrel
  by_cases hlt : (i : Int) < (n5 : Int)
  ·
   have hb3 := HW.out.1
   have HBv1_3 : Hid ((wr).heap[qv1]? = some (.cells #[.slice o1 c.s.cs.length c1, .slice o2 c.s.ws.length c2, .slice o3 n3 c3, .slice o4 n4 c4, .int .i64 c.s.nx, .int .i64 c.s.sq, .slice o5 n5 c5, .int .i64 c.now, .slice o6 n6 c6, .slice o7 n7 c7] 58)) := HW.out.2
   clear HW hb2 HBv1_2
   have HOz_3 : Hid ((wr).ownsRow w.heap.size 3 1 (.slice oz mz pz) mz (zs.map (Value.int .i64))) := HR0.out
   clear HR0
   obtain ⟨g5, p5, hV, _, _⟩ := (HFL.out _ hb3).look i (by rw [HLF.out]; omega)
   rw [HLF.out] at hV
   injection hV with hV1 hV2 hV3
   subst hV1 hV3
   clear hV2
   obtain ⟨dX, hdX⟩ := exq (flvAt fv i)
   have HMd : Hid (dX ∈ fv) := by show _ ∈ _; rw [hdX]; exact getD_mem0 _ fv i (by rw [HLF.out]; omega)
   have HEd : Hid (flAt c.fl i = dX.d) := by show _ = _; rw [hdX, ← HFD.out]; exact getD_map0 _ _ _ fv i (by rw [HLF.out]; omega)
   have HKd : Hid (∀ W, Below w.heap.size w W → FlAt W g5 i dX) := fun W hb => by
    obtain ⟨g', p', hV, _, hc⟩ := (HFL.out W hb).look i (by rw [HLF.out]; omega)
    injection hV with hV1 _ _
    cases hV1
    rw [hdX]
    exact hc
   have HRd : Hid (∀ W, Below w.heap.size w W → RowsO W B (flR dX)) := fun W hb => (HFL.out W hb).item HMd.out
   have HSd : Hid (FlSmall dX.d) := HFS.out _ HMd.out
   clear hdX
   obtain ⟨d, kuv2, kuv4, kuv6, kuv7, kuv9⟩ := dX
   obtain ⟨ku2, kuc2, hu⟩ := slice_of_owns ((HRd.out _ hb3).own (⟨171, 2, kuv2, d.qfs.length, flatF d.qfs⟩ : Rw) (by simp [flR]))
   obtain rfl : kuv2 = .slice ku2 d.qfs.length kuc2 := hu
   obtain ⟨ku4, kuc4, hu⟩ := slice_of_owns ((HRd.out _ hb3).own (⟨3, 1, kuv4, d.who.length, d.who.map (Value.int .i64)⟩ : Rw) (by simp [flR]))
   obtain rfl : kuv4 = .slice ku4 d.who.length kuc4 := hu
   obtain ⟨ku6, kuc6, hu⟩ := slice_of_owns ((HRd.out _ hb3).own (⟨9, 1, kuv6, d.oxs.length, d.oxs.map Value.string⟩ : Rw) (by simp [flR]))
   obtain rfl : kuv6 = .slice ku6 d.oxs.length kuc6 := hu
   obtain ⟨ku7, kuc7, hu⟩ := slice_of_owns ((HRd.out _ hb3).own (⟨9, 1, kuv7, d.oys.length, d.oys.map Value.string⟩ : Rw) (by simp [flR]))
   obtain rfl : kuv7 = .slice ku7 d.oys.length kuc7 := hu
   obtain ⟨ku9, kuc9, hu⟩ := slice_of_owns ((HRd.out _ hb3).own (⟨171, 2, kuv9, d.ofs.length, flatF d.ofs⟩ : Rw) (by simp [flR]))
   obtain rfl : kuv9 = .slice ku9 d.ofs.length kuc9 := hu
   have r0d := (HKd.out _ hb3).c0
   have r1d := (HKd.out _ hb3).c1
   have r2d := (HKd.out _ hb3).c2
   have r3d := (HKd.out _ hb3).c3
   have r4d := (HKd.out _ hb3).c4
   have r5d := (HKd.out _ hb3).c5
   have r6d := (HKd.out _ hb3).c6
   have r7d := (HKd.out _ hb3).c7
   have r8d := (HKd.out _ hb3).c8
   have r9d := (HKd.out _ hb3).c9
   have r10d := (HKd.out _ hb3).c10
   have r11d := (HKd.out _ hb3).c11
   have r12d := (HKd.out _ hb3).c12
   dsimp only at r0d r1d r2d r3d r4d r5d r6d r7d r8d r9d r10d r11d r12d
   have hwho : d.who.length ≤ 5 := by have h1 := CacheP.who HPP.out (i := i) (by rw [HLC.out.1]; omega); rw [HEd.out] at h1; exact h1
   have cv1_6 := (k10c HBv1_3).2.2.2.2.2.2.1
   have h63 : mz + d.who.length ≤ maxLen := by unfold maxLen; omega
   have h47 : (mz + d.who.length) * 8 ≤ 140737488355328 := by omega
   go_wp2_with (at_builtin; refine wpList_append_src (by rfl) _ _ _ (by rfl) w.heap.size 3 i0 (.int .i64 0) 1 8 Tryz.underlying109 hi hz0 hz1 hz2 rfl (by decide) _ _ _ (by rfl) HOz_3.out _ _ _ (by rfl) (Src.of_owns ((HRd.out _ hb3).own (⟨3, 1, (.slice ku4 d.who.length kuc4), d.who.length, d.who.map (Value.int .i64)⟩ : Rw) (by simp [flR])) (ints_ones _)) h63 h47 hb3.size ?_)
   intro v1 w4 hown2 hgrow
   clear r0d r1d r2d r3d r4d r5d r6d r7d r8d r9d r10d r11d r12d cv1_6
   have hb4 : Below w.heap.size w (w4) := hb3.grown hgrow hb3.size (fun g hg => owns_ge HOz_3.out hg)
   have HBv1_4 : Hid ((w4).heap[qv1]? = some (.cells #[.slice o1 c.s.cs.length c1, .slice o2 c.s.ws.length c2, .slice o3 n3 c3, .slice o4 n4 c4, .int .i64 c.s.nx, .int .i64 c.s.sq, .slice (some ⟨g5, 0, none⟩) n5 c5, .int .i64 c.now, .slice o6 n6 c6, .slice o7 n7 c7] 58)) := (hgrow.block _ (Array.getElem?_eq_some_iff.1 HBv1_3.out).1 (fun e => own_ne HOz_3.out HBv1_3.out (by decide) _ e.symm rfl)).trans HBv1_3.out
   obtain ⟨ozp, pzp, rfl⟩ := slice_of_owns hown2
   have HOzp_4 : Hid ((w4).ownsRow w.heap.size 3 1 (.slice ozp (mz + d.who.length) pzp) (mz + d.who.length) ((zs.map (Value.int .i64)) ++ (d.who.map (Value.int .i64)))) := hown2
   clear hb3 HOz_3 HBv1_3 hown2 hgrow h63 h47
   have HR2 : Hid (w4.ownsRow w.heap.size 3 1 (.slice ozp (mz + d.who.length) pzp) (mz + d.who.length) ((zs ++ d.who).map (Value.int .i64))) := by
    show World.ownsRow _ _ _ _ _ _ _
    rw [List.map_append]
    exact HOzp_4.out
   have HE2 : Hid (zs ++ d.who = whoTo c.fl (i + 1)) := by
    show _ = _
    rw [whoTo_succ c.fl i (by rw [HLC.out.1]; omega), HEd.out, HE0.out]
   go_wp2_with fail
   go_roundw
   case rel => exact ⟨i + 1, (mz + d.who.length), ozp, pzp, zs ++ d.who, by omega, by omega, by go_num, rfl, ⟨hb4, HBv1_4.out⟩, HE2, HR2⟩
   case measure => simp [intOf]; omega
  ·
   have hb3 := HW.out.1
   have HBv1_3 : Hid ((wr).heap[qv1]? = some (.cells #[.slice o1 c.s.cs.length c1, .slice o2 c.s.ws.length c2, .slice o3 n3 c3, .slice o4 n4 c4, .int .i64 c.s.nx, .int .i64 c.s.sq, .slice o5 n5 c5, .int .i64 c.now, .slice o6 n6 c6, .slice o7 n7 c7] 58)) := HW.out.2
   clear HW hb2 HBv1_2
   have HOz_3 : Hid ((wr).ownsRow w.heap.size 3 1 (.slice oz mz pz) mz (zs.map (Value.int .i64))) := HR0.out
   clear HR0
   obtain rfl : n5 = i := by omega
   have HEW := HE0
   clear HE0
   have cv1_6 := (k10c HBv1_3).2.2.2.2.2.2.1
   go_wp2_with fail
   go_ret
   exact ⟨oz, mz, pz, rfl, by rw [HLC.out.1, ← HEW.out]; exact HOz_3.out, by rw [HLC.out.1, ← HEW.out]; have h1 := HOz_3.out.1; rw [List.length_map] at h1; omega, by omega, hb3⟩
theorem specJudgeOnce_any (v1 v2 V VB F E R : Value) (kv : List (KpD × Value × Value × Value)) (fv : List FlV) (ev : List SeV) (rv : List RpV) (c : CaD) (B : Nat) (w : World) (h : CacheO w B v1 v2 V VB F E R kv fv ev rv c) (hz : CaSmall c) :
  Calls Tryz.prog 16 #[.agg #[v1, v2, V, VB, .int .i64 c.s.nx, .int .i64 c.s.sq, F, .int .i64 c.now, E, R]] w fun e w' => BoolIs (JOnceP c) w e w' := by
 obtain ⟨o1, c1, rfl⟩ := slice_of_owns h.shelf.disk.cells
 obtain ⟨o2, c2, rfl⟩ := slice_of_owns h.shelf.disk.pend
 obtain ⟨o3, c3, rfl⟩ := h.shelf.kept.len
 obtain ⟨o4, c4, rfl⟩ := slice_of_owns h.shelf.bans
 obtain ⟨o5, c5, rfl⟩ := h.fls.len
 obtain ⟨o6, c6, rfl⟩ := h.ses.len
 obtain ⟨o7, c7, rfl⟩ := h.rps.len
 obtain ⟨n3, hn3⟩ := exq kv.length
 obtain ⟨n4, hn4⟩ := exq (c.s.bl.length)
 obtain ⟨n5, hn5⟩ := exq fv.length
 obtain ⟨n6, hn6⟩ := exq ev.length
 obtain ⟨n7, hn7⟩ := exq rv.length
 rw [← hn3, ← hn4, ← hn5, ← hn6, ← hn7] at h ⊢
 have HLK : Hid (kv.length = n3) := hn3.symm
 have HLB : Hid (c.s.bl.length = n4) := hn4.symm
 have HLF : Hid (fv.length = n5) := hn5.symm
 have HLE : Hid (ev.length = n6) := hn6.symm
 have HLR : Hid (rv.length = n7) := hn7.symm
 have HLC : Hid (c.fl.length = n5 ∧ c.se.length = n6 ∧ c.sn.length = n7 ∧ c.s.ks.length = n3) := ⟨by rw [← h.hf, List.length_map, hn5], by rw [← h.he, List.length_map, hn6], by rw [← h.hr, List.length_map, hn7], by rw [← h.hk, List.length_map, hn3]⟩
 have HFD : Hid (fv.map (·.d) = c.fl) := h.hf
 have HED : Hid (ev.map (·.d) = c.se) := h.he
 have HRD : Hid (rv.map (·.d) = c.sn) := h.hr
 have HKS : Hid (kv.map (·.1) = c.s.ks) := h.hk
 have HZ : Hid (CaSmall c) := hz
 have bn3 : n3 ≤ 1048576 := by rw [← HLC.out.2.2.2]; exact hz.s.k
 have bn4 : n4 ≤ 1048576 := by rw [← HLB.out]; exact hz.s.b
 have bn5 : n5 ≤ 1048576 := by rw [← HLC.out.1]; exact hz.nf
 have bn6 : n6 ≤ 1048576 := by rw [← HLC.out.2.1]; exact hz.ne
 have bn7 : n7 ≤ 1048576 := by rw [← HLC.out.2.2.1]; exact hz.nr
 have HCA : Hid (∀ W, Below w.heap.size w W → CacheO W B (.slice o1 c.s.cs.length c1) (.slice o2 c.s.ws.length c2) (.slice o3 n3 c3) (.slice o4 n4 c4) (.slice o5 n5 c5) (.slice o6 n6 c6) (.slice o7 n7 c7) kv fv ev rv c) := fun W hb => h.below hb
 have HKP : Hid (∀ W, Below w.heap.size w W → KeptsO W B (.slice o3 n3 c3) kv) := fun W hb => (h.below hb).shelf.kept
 have HBN : Hid (∀ W, Below w.heap.size w W → BanA W o4 n4 c.s.bl) := fun W hb => by
  have h1 := (h.below hb).shelf.bans
  rw [HLB.out] at h1
  exact ban_view h1
 have HC4 : Hid (n4 ≤ c4) := by
  have h1 := h.shelf.bans
  rw [HLB.out] at h1
  exact owns_cap h1
 clear hn3 hn4 hn5 hn6 hn7 h hz
 have hb0 : Below w.heap.size w w := Below.refl _ _
 go_enter Tryz.func16, Tryz.ntmps16
 go_upto_region 1 with fail
 obtain ⟨qv1, hqv1⟩ := exq ((w).heap.size)
 obtain ⟨w1, hW1⟩ := exq ((w).alloc (.cells #[.slice o1 c.s.cs.length c1, .slice o2 c.s.ws.length c2, .slice o3 n3 c3, .slice o4 n4 c4, .int .i64 c.s.nx, .int .i64 c.s.sq, .slice o5 n5 c5, .int .i64 c.now, .slice o6 n6 c6, .slice o7 n7 c7] 58))
 have hz1 : (w).heap.size = qv1 := hqv1.symm
 first | rw [← hW1, ← hqv1] | rw [← hW1]
 have hs1 := hsa hW1 hz1
 have bw := bal hW1
 have hb1 := hbt hb0 bw
 have HBv1_1 := hnew hW1 hz1
 clear hb0 bw hW1 hz1
 clear hs1 hqv1
 have cv1_0 := (k10c HBv1_1).1
 have cv1_1 := (k10c HBv1_1).2.1
 have cv1_2 := (k10c HBv1_1).2.2.1
 have cv1_3 := (k10c HBv1_1).2.2.2.1
 have cv1_4 := (k10c HBv1_1).2.2.2.2.1
 have cv1_5 := (k10c HBv1_1).2.2.2.2.2.1
 have cv1_6 := (k10c HBv1_1).2.2.2.2.2.2.1
 have cv1_7 := (k10c HBv1_1).2.2.2.2.2.2.2.1
 have cv1_8 := (k10c HBv1_1).2.2.2.2.2.2.2.2.1
 have cv1_9 := (k10c HBv1_1).2.2.2.2.2.2.2.2.2
 go_wp2_with fail
 refine (specCacheOk_any _ _ _ _ _ _ _ kv fv ev rv c B _ (HCA.out _ hb1) HZ.out).mono ?_
 rintro e w2 ⟨us, rfl, hus, bw⟩
 have hb2 := hbt hb1 bw
 have HBv1_2 := hblk HBv1_1 bw
 clear hb1 HBv1_1 bw
 clear cv1_0 cv1_1 cv1_2 cv1_3 cv1_4 cv1_5 cv1_6 cv1_7 cv1_8 cv1_9
 cases us with
 | false =>
  have HNus : Hid (¬ (CacheP c)) := fun h => nomatch hus.2 h
  clear hus
  go_wp2_with fail
  go_ret
  exact BoolIs.no (fun h => HNus.out h.1) hb2
 | true =>
  have HYus : Hid (CacheP c) := hus.1 rfl
  clear hus
  have cv1_0 := (k10c HBv1_2).1
  have cv1_1 := (k10c HBv1_2).2.1
  have cv1_2 := (k10c HBv1_2).2.2.1
  have cv1_3 := (k10c HBv1_2).2.2.2.1
  have cv1_4 := (k10c HBv1_2).2.2.2.2.1
  have cv1_5 := (k10c HBv1_2).2.2.2.2.2.1
  have cv1_6 := (k10c HBv1_2).2.2.2.2.2.2.1
  have cv1_7 := (k10c HBv1_2).2.2.2.2.2.2.2.1
  have cv1_8 := (k10c HBv1_2).2.2.2.2.2.2.2.2.1
  have cv1_9 := (k10c HBv1_2).2.2.2.2.2.2.2.2.2
  go_wp2_with fail
  refine (specWaiting_any _ _ _ _ _ _ _ kv fv ev rv c B _ (HCA.out _ hb2) HZ.out HYus.out).mono ?_
  rintro e w3 ⟨oy, my, py, rfl, hown, hly, hm25, bw⟩
  have HLY : Hid ((whoTo c.fl c.fl.length).length = my) := hly
  clear hly
  have hb3 := hbt hb2 bw
  have HBv1_3 := hblk HBv1_2 bw
  have HOy_3 := hwd hown hb2.size
  clear hown
  clear hb2 HBv1_2 bw
  clear cv1_0 cv1_1 cv1_2 cv1_3 cv1_4 cv1_5 cv1_6 cv1_7 cv1_8 cv1_9
  have bn7' : n7 ≤ 1500 := by rw [← HLC.out.2.2.1]; exact HYus.out.2.2.2.2
  obtain ⟨i0, hi, hz0, hz1, hz2⟩ := info_parts infoInt
  go_wp2_with fail
  have HZ0 : Hid ((w3).ownsRow w.heap.size 3 1 (.slice oy my py) my ((whoTo c.fl c.fl.length).map (Value.int .i64))) := by show World.ownsRow _ _ _ _ _ _ _; exact HOy_3.out
  clear HOy_3
  obtain ⟨wQ, hwQ⟩ := exq w3
  rw [← hwQ] at hb3 HBv1_3 HZ0 ⊢
  clear hwQ
  go_loopw [3, 4] (fun x3 i wr => ∃ (i' mz : Nat) (oz : Option Addr) (pz : Nat) (zs : List Int), i' ≤ n7 ∧ mz ≤ 25 + 1 * i' ∧ i = .int .i64 (i' : Int) ∧ x3 = .slice oz mz pz ∧ Hid (Below w.heap.size w (wr) ∧ (wr).heap[qv1]? = some (.cells #[.slice o1 c.s.cs.length c1, .slice o2 c.s.ws.length c2, .slice o3 n3 c3, .slice o4 n4 c4, .int .i64 c.s.nx, .int .i64 c.s.sq, .slice o5 n5 c5, .int .i64 c.now, .slice o6 n6 c6, .slice o7 n7 c7] 58)) ∧ Hid (zs = whoTo c.fl c.fl.length ++ cliTo c.sn i') ∧ Hid (wr.ownsRow w.heap.size 3 1 (.slice oz mz pz) mz ((zs).map (Value.int .i64)))) (fun _ i _ => n7 - (intOf i).toNat)
  case atStart => exact ⟨0, my, oy, py, whoTo c.fl c.fl.length, Nat.zero_le _, by omega, rfl, rfl, ⟨hb3, HBv1_3.out⟩, (List.append_nil _).symm, HZ0⟩
  case round =>
   clear HZ0
   obtain ⟨i, mz, oz, pz, zs, hi', hmz, rfl, rfl, HW, HE0, HR0⟩ := hrel
   by_cases hlt : (i : Int) < (n7 : Int)
   ·
    have hb4 := HW.out.1
    have HBv1_4 : Hid ((wr).heap[qv1]? = some (.cells #[.slice o1 c.s.cs.length c1, .slice o2 c.s.ws.length c2, .slice o3 n3 c3, .slice o4 n4 c4, .int .i64 c.s.nx, .int .i64 c.s.sq, .slice o5 n5 c5, .int .i64 c.now, .slice o6 n6 c6, .slice o7 n7 c7] 58)) := HW.out.2
    clear HW hb3 HBv1_3
    have HOz_4 : Hid ((wr).ownsRow w.heap.size 3 1 (.slice oz mz pz) mz (zs.map (Value.int .i64))) := HR0.out
    clear HR0
    obtain ⟨g7, p7, hV, _, _⟩ := (HCA.out _ hb4).rps.look i (by rw [HLR.out]; omega)
    rw [HLR.out] at hV
    injection hV with hV1 hV2 hV3
    subst hV1 hV3
    clear hV2
    obtain ⟨dX, hdX⟩ := exq (rpvAt rv i)
    have HMd : Hid (dX ∈ rv) := by show _ ∈ _; rw [hdX]; exact getD_mem0 _ rv i (by rw [HLR.out]; omega)
    have HEd : Hid (rpAt c.sn i = dX.d) := by show _ = _; rw [hdX, ← HRD.out]; exact getD_map0 _ _ _ rv i (by rw [HLR.out]; omega)
    have HKd : Hid (∀ W, Below w.heap.size w W → RpAt W g7 i dX) := fun W hb => by
     obtain ⟨g', p', hV, _, hc⟩ := (HCA.out W hb).rps.look i (by rw [HLR.out]; omega)
     injection hV with hV1 _ _
     cases hV1
     rw [hdX]
     exact hc
    have HRd : Hid (∀ W, Below w.heap.size w W → RowsO W B (rpR dX)) := fun W hb => (HCA.out W hb).rps.item HMd.out
    have HSd : Hid (RpSmall dX.d) := HZ.out.sn _ (by rw [← HRD.out]; exact List.mem_map.2 ⟨_, HMd.out, rfl⟩)
    clear hdX
    obtain ⟨d, kuv3, kuv6, kuv11, kuv12, kuv14⟩ := dX
    obtain ⟨ku3, kuc3, hu⟩ := slice_of_owns ((HRd.out _ hb4).own (⟨171, 2, kuv3, d.qfs.length, flatF d.qfs⟩ : Rw) (by simp [rpR]))
    obtain rfl : kuv3 = .slice ku3 d.qfs.length kuc3 := hu
    obtain ⟨ku6, kuc6, hu⟩ := slice_of_owns ((HRd.out _ hb4).own (⟨171, 2, kuv6, d.rfs.length, flatF d.rfs⟩ : Rw) (by simp [rpR]))
    obtain rfl : kuv6 = .slice ku6 d.rfs.length kuc6 := hu
    obtain ⟨ku11, kuc11, hu⟩ := slice_of_owns ((HRd.out _ hb4).own (⟨9, 1, kuv11, d.oxs.length, d.oxs.map Value.string⟩ : Rw) (by simp [rpR]))
    obtain rfl : kuv11 = .slice ku11 d.oxs.length kuc11 := hu
    obtain ⟨ku12, kuc12, hu⟩ := slice_of_owns ((HRd.out _ hb4).own (⟨9, 1, kuv12, d.oys.length, d.oys.map Value.string⟩ : Rw) (by simp [rpR]))
    obtain rfl : kuv12 = .slice ku12 d.oys.length kuc12 := hu
    obtain ⟨ku14, kuc14, hu⟩ := slice_of_owns ((HRd.out _ hb4).own (⟨171, 2, kuv14, d.ofs.length, flatF d.ofs⟩ : Rw) (by simp [rpR]))
    obtain rfl : kuv14 = .slice ku14 d.ofs.length kuc14 := hu
    have r0d := (HKd.out _ hb4).c0
    dsimp only at r0d
    have cv1_9 := (k10c HBv1_4).2.2.2.2.2.2.2.2.2
    have hown := HOz_4.out
    have h63 : mz + 1 ≤ maxLen := by unfold maxLen; omega
    have h47 : (mz + 1) * 8 ≤ 140737488355328 := by omega
    have HBS : ∀ o, w.heap.size ≤ (wr.alloc o).heap.size := fun o => by have := hb4.size; simp; omega
    go_wp2_with (at_builtin; refine wpList_append_own _ rfl _ _ 109 rfl w.heap.size 3 i0 (.int .i64 0) 1 8 Tryz.underlying109 hi hz0 hz1 hz2 rfl (by decide) _ _ _ rfl (hown.alloc _) ⟨wr.heap.size, 0, none⟩ 1 1 [.int .i64 d.cli] rfl rfl (cell_one_new _ _ _) (by intro u hu; simp at hu; subst hu; rfl) h63 h47 (HBS _) ?_)
    intro v1 w5 hown2 hgrow _
    have bA : Below wr.heap.size wr (wr.alloc (.cells #[.int .i64 d.cli] 3)) := (Below.refl _ _).alloc (Nat.le_refl _) _
    have rowGe : ∀ g, (.slice oz mz pz : Value).ownBlock = some g → w.heap.size ≤ g := fun g hg => owns_ge hown hg
    clear r0d cv1_9
    have hb5 : Below w.heap.size w (w5) := (hb4.trans (bA.mono hb4.size)).grown hgrow (HBS _) rowGe
    have HBv1_5 : Hid ((w5).heap[qv1]? = some (.cells #[.slice o1 c.s.cs.length c1, .slice o2 c.s.ws.length c2, .slice o3 n3 c3, .slice o4 n4 c4, .int .i64 c.s.nx, .int .i64 c.s.sq, .slice o5 n5 c5, .int .i64 c.now, .slice o6 n6 c6, .slice (some ⟨g7, 0, none⟩) n7 c7] 58)) := (hgrow.block _ (Nat.lt_of_lt_of_le (Array.getElem?_eq_some_iff.1 HBv1_4.out).1 bA.size) (fun e => own_ne hown HBv1_4.out (by decide) _ e.symm rfl)).trans (blk_below HBv1_4.out bA)
    obtain ⟨ozp, pzp, rfl⟩ := slice_of_owns hown2
    have HOzp_5 : Hid ((w5).ownsRow w.heap.size 3 1 (.slice ozp (mz + 1) pzp) (mz + 1) ((zs.map (Value.int .i64)) ++ [.int .i64 d.cli])) := hown2
    clear hb4 HOz_4 HBv1_4 hown h63 h47 HBS hown2 hgrow bA rowGe
    have HR2 : Hid (w5.ownsRow w.heap.size 3 1 (.slice ozp (mz + 1) pzp) (mz + 1) ((zs ++ [d.cli]).map (Value.int .i64))) := by
     show World.ownsRow _ _ _ _ _ _ _
     rw [List.map_append]
     exact HOzp_5.out
    have HE2 : Hid (zs ++ [d.cli] = whoTo c.fl c.fl.length ++ cliTo c.sn (i + 1)) := by
     show _ = _
     rw [cliTo_succ c.sn i (by rw [HLC.out.2.2.1]; omega), HEd.out, HE0.out, List.append_assoc]
    go_wp2_with fail
    go_roundw
    case rel => exact ⟨i + 1, (mz + 1), ozp, pzp, zs ++ [d.cli], by omega, by omega, by go_num, rfl, ⟨hb5, HBv1_5.out⟩, HE2, HR2⟩
    case measure => simp [intOf]; omega
   ·
    have hb4 := HW.out.1
    have HBv1_4 : Hid ((wr).heap[qv1]? = some (.cells #[.slice o1 c.s.cs.length c1, .slice o2 c.s.ws.length c2, .slice o3 n3 c3, .slice o4 n4 c4, .int .i64 c.s.nx, .int .i64 c.s.sq, .slice o5 n5 c5, .int .i64 c.now, .slice o6 n6 c6, .slice o7 n7 c7] 58)) := HW.out.2
    clear HW hb3 HBv1_3
    have HOz_4 : Hid ((wr).ownsRow w.heap.size 3 1 (.slice oz mz pz) mz (zs.map (Value.int .i64))) := HR0.out
    clear HR0
    obtain rfl : n7 = i := by omega
    have HEQ := HE0
    clear HE0
    have cv1_9 := (k10c HBv1_4).2.2.2.2.2.2.2.2.2
    obtain ⟨wB, hwB⟩ := exq wr
    go_wp2_with fail
    rw [← hwB] at hb4 HOz_4 HBv1_4 ⊢
    clear hwB
    have hzs : zs = whoTo c.fl c.fl.length ++ cliTo c.sn c.sn.length := by rw [HLC.out.2.2.1]; exact HEQ.out
    have hlz : zs.length = mz := by
     have h1 := HOz_4.out.1
     rw [List.length_map] at h1
     omega
    have HLZ : Hid (zs.length = mz) := hlz
    have HON : Hid (OnceP c ↔ ∀ a b, a < b → b < mz → zs.getD b 0 ≠ zs.getD a 0) := by
     show OnceP c ↔ _
     unfold OnceP
     rw [← hzs, nodup_get, hlz]
    have HIV : Hid (∀ W, Below wB.heap.size wB W → IntsV W oz mz zs) := fun W hb => by
     have h1 := HOz_4.out
     have h2 : wB.ownsRow w.heap.size 3 1 (.slice oz mz pz) zs.length (zs.map (Value.int .i64)) := by rw [hlz]; exact h1
     obtain ⟨oa, cp, e1, e2⟩ := ints_view h2
     injection e1 with e3 _ _
     subst e3
     rw [hlz] at e2
     exact e2.below hb
    have HBB : Hid (Below w.heap.size w wB) := hb4
    clear hzs hlz hb4 HOz_4 HBv1_4
    go_loopw [5] (fun i wr => ∃ i' : Nat, i' ≤ mz ∧ i = .int .i64 (i' : Int) ∧ Hid (Below wB.heap.size wB wr) ∧ Hid (∀ a b, a < b → b < i' → zs.getD b 0 ≠ zs.getD a 0)) (fun i _ => mz - (intOf i).toNat)
    case atStart => exact ⟨0, Nat.zero_le _, rfl, Below.refl _ _, fun a b h1 h2 => absurd h2 (by omega)⟩
    case round =>
     obtain ⟨i, hi2, rfl, HW, HN⟩ := hrel
     by_cases hlt2 : (i : Int) < (mz : Int)
     ·
      go_wp2_with fail
      go_loopw [6] (fun k wr => ∃ k' : Nat, k' ≤ i ∧ k = .int .i64 (k' : Int) ∧ Hid (Below wB.heap.size wB wr) ∧ Hid (∀ a, a < k' → zs.getD i 0 ≠ zs.getD a 0)) (fun k _ => i - (intOf k).toNat)
      case atStart => exact ⟨0, Nat.zero_le _, rfl, HW, fun a h => absurd h (by omega)⟩
      case round =>
       clear HW
       obtain ⟨k, hk, rfl, HW, HJ⟩ := hrel
       by_cases hlk : (k : Int) < (i : Int)
       ·
        obtain ⟨g, hoa, hgl, r1⟩ := (HIV.out _ HW.out).2 i (by omega)
        obtain ⟨g', hob, hgl', r2⟩ := (HIV.out _ HW.out).2 k (by omega)
        subst hoa
        injection hob with hob
        injection hob with hob _ _
        subst hob
        obtain ⟨x, hx⟩ := exq (zs.getD i 0)
        obtain ⟨y, hy⟩ := exq (zs.getD k 0)
        rw [← hx] at r1
        rw [← hy] at r2
        have hin : ¬ mz ≤ i := by omega
        have hkn : ¬ mz ≤ k := by omega
        have hkm : (k : Int) < (mz : Int) := by omega
        by_cases he : x = y
        ·
         have HNO : Hid (¬ JOnceP c) := fun h => HON.out.1 h.2.1 k i (by omega) (by omega) (by rw [← hx, ← hy]; exact he)
         have HB2 : Hid (Below w.heap.size w wr.drew) := HBB.out.trans (HW.out.drew.mono HBB.out.size)
         have heb : ((x : Int) == (y : Int)) = true := by simpa using he
         clear hx hy HN HJ HON HIV
         subst he
         go_wp2_with fail
         go_region
         go_wp2_with fail
         go_ret
         exact BoolIs.no HNO.out HB2.out
        ·
         have HJ2 : Hid (∀ a, a < k + 1 → zs.getD i 0 ≠ zs.getD a 0) := fun a ha => by
          by_cases e : a = k
          ·
           subst e
           rw [← hx, ← hy]
           exact he
          · exact HJ.out a (by omega)
         have HW2 : Hid (Below wB.heap.size wB wr.drew) := HW.out.drew
         have heb : ((x : Int) == (y : Int)) = false := by simpa using he
         clear hx hy
         go_wp2_with fail
         go_region
         go_wp2_with fail
         go_roundw
         case rel => exact ⟨k + 1, by omega, by go_num, HW2, HJ2⟩
         case measure => simp [intOf]; omega
       ·
        obtain rfl : k = i := by omega
        have HN2 : Hid (∀ a b, a < b → b < k + 1 → zs.getD b 0 ≠ zs.getD a 0) := fun a b hab hb => by
         by_cases e : b = k
         ·
          subst e
          exact HJ.out a hab
         · exact HN.out a b hab (by omega)
        go_wp2_with fail
        go_roundw
        case rel => exact ⟨k + 1, by omega, by go_num, HW, HN2⟩
        case measure => simp [intOf]; omega
     ·
      obtain rfl : i = mz := by omega
      have HY : Hid (JOnceP c) := ⟨HYus.out, HON.out.2 HN.out, fun _ _ _ => trivial⟩
      have HB2 : Hid (Below w.heap.size w wr) := HBB.out.trans (HW.out.mono HBB.out.size)
      go_wp2_with fail
      go_ret
      exact BoolIs.yes HY.out HB2.out
end Go.Proofs.YtbmhonfgffjpcaaGreat
namespace Go.Proofs.YtbmhonfgffjpcaaGreat
open Go.RowKit Go.WideShapes
open Go.Lib hiding intOf
/-- An object's seven cells among the arguments. -/
theorem objCells {H : Type} {enc : TypeId × Value → H} {W : World} {fuel : Nat} {d0 d1 d2 d3 d4 d5 d6 : Value} {x : DataW H × List MemPlace} (hf : DataW.trod enc Tryz.prog W 0 (fun _ => true) true fuel 41 [d0, d1, d2, d3, d4, d5, d6] = some x) :
  ∃ (p : ByteArray) (a1 : Option Addr) (n1 c1 : Nat) (xs : List ByteArray) (a2 : Option Addr) (n2 c2 : Nat) (ys : List ByteArray) (st : Int) (a3 : Option Addr) (n3 c3 : Nat) (fs : List (ByteArray × ByteArray)) (b : ByteArray) (t : Int), (d0 = .string p ∧ d1 = .slice a1 n1 c1 ∧ d2 = .slice a2 n2 c2 ∧ d3 = .int .i64 st ∧ d4 = .slice a3 n3 c3 ∧ d5 = .string b ∧ d6 = .int .i64 t) ∧ ArgT W W.heap.size a1 n1 xs ∧ ArgT W W.heap.size a2 n2 ys ∧ ArgF W W.heap.size a3 n3 fs ∧ n1 ≤ maxLen ∧ n2 ≤ maxLen ∧ n3 ≤ maxLen ∧ (∀ i, i < n1 → (textAt xs i).size ≤ maxLen) ∧ (∀ i, i < n2 → (textAt ys i).size ≤ maxLen) ∧ WalkF n3 fs ∧ p.size ≤ maxLen ∧ b.size ≤ maxLen := by
 obtain ⟨ys, q, _, _, _, hyl, hg⟩ := DataW.trod_struct Tryz.underlying41 hf
 have hcR : Tryz.prog.cellsOf 39 = 3 := by kernel_rfl
 have e3 : Tryz.prog.cellsOf 3 = 1 := by kernel_rfl
 have e9 : Tryz.prog.cellsOf 9 = 1 := by kernel_rfl
 have eL : Tryz.prog.cellsOf 35 = 1 := by kernel_rfl
 have eS : Tryz.prog.cellsOf 22 = 1 := by kernel_rfl
 have g0 := hg 0 _ rfl
 have g1 := hg 1 _ rfl
 have g2 := hg 2 _ rfl
 have g3 := hg 3 _ rfl
 have g4 := hg 4 _ rfl
 simp [e3, e9, eS, hcR] at g0 g1 g2 g3 g4
 have hy5 : ys.length = 5 := hyl
 rw [List.getElem?_eq_getElem (show 0 < ys.length by omega)] at g0
 rw [List.getElem?_eq_getElem (show 1 < ys.length by omega)] at g1
 rw [List.getElem?_eq_getElem (show 2 < ys.length by omega)] at g2
 rw [List.getElem?_eq_getElem (show 3 < ys.length by omega)] at g3
 rw [List.getElem?_eq_getElem (show 4 < ys.length by omega)] at g4
 obtain ⟨zs, q2, _, _, _, hzl, hk⟩ := DataW.trod_struct Tryz.underlying39 g3
 have k0 := hk 0 _ rfl
 have k1 := hk 1 _ rfl
 have k2 := hk 2 _ rfl
 simp [e3, e9, eL] at k0 k1 k2
 have hz3 : zs.length = 3 := hzl
 rw [List.getElem?_eq_getElem (show 0 < zs.length by omega)] at k0
 rw [List.getElem?_eq_getElem (show 1 < zs.length by omega)] at k1
 rw [List.getElem?_eq_getElem (show 2 < zs.length by omega)] at k2
 obtain ⟨p, hp, _, hps⟩ := DataW.trod_string Tryz.underlying9 g0
 obtain ⟨t, ht, _, _⟩ := DataW.trod_int Tryz.underlying3 g4
 obtain ⟨st, hst, _, _⟩ := DataW.trod_int Tryz.underlying3 k0
 obtain ⟨b, hb, _, hbs⟩ := DataW.trod_string Tryz.underlying9 k2
 obtain ⟨a1, n1, c1, rfl⟩ : ∃ a n cap, d1 = .slice a n cap := by
  rcases DataW.trod_slice Tryz.underlying22 g1 with ⟨h, _⟩ | ⟨a, n, cap, _, _, _, _, h, _⟩
  · exact ⟨none, 0, 0, by simpa using h⟩
  · exact ⟨_, n, cap, by simpa using h⟩
 obtain ⟨a2, n2, c2, rfl⟩ : ∃ a n cap, d2 = .slice a n cap := by
  rcases DataW.trod_slice Tryz.underlying22 g2 with ⟨h, _⟩ | ⟨a, n, cap, _, _, _, _, h, _⟩
  · exact ⟨none, 0, 0, by simpa using h⟩
  · exact ⟨_, n, cap, by simpa using h⟩
 obtain ⟨a3, n3, c3, rfl⟩ : ∃ a n cap, d4 = .slice a n cap := by
  rcases DataW.trod_slice Tryz.underlying35 k1 with ⟨h, _⟩ | ⟨a, n, cap, _, _, _, _, h, _⟩
  · exact ⟨none, 0, 0, by simpa using h⟩
  · exact ⟨_, n, cap, by simpa using h⟩
 obtain ⟨xs, x1, x2, x3⟩ := openTexts g1
 obtain ⟨ws, y1, y2, y3⟩ := openTexts g2
 obtain ⟨fs, z1, z2, z3⟩ := openFields k1
 simp only [List.cons.injEq, and_true] at hp ht hst hb
 subst hp ht hst hb
 exact ⟨p, a1, n1, c1, xs, a2, n2, c2, ws, st, a3, n3, c3, fs, b, t, ⟨rfl, rfl, rfl, rfl, rfl, rfl, rfl⟩, x1, y1, z1, x2, y2, z2, x3, y3, z3, hps, hbs⟩
/-- A list of what is kept among the arguments. -/
theorem openKeptS {H : Type} {enc : TypeId × Value → H} {W : World} {fuel : Nat} {a : Option Addr} {n cap : Nat} {x : DataW H × List MemPlace} (h : DataW.trod enc Tryz.prog W 0 (fun _ => true) true fuel 26 [.slice a n cap] = some x) :
  ∃ ks, ArgKept W W.heap.size a n ks ∧ n ≤ maxLen ∧ ∀ k ∈ ks, KpMax k := by
 rcases Go.Deep.open_slice Tryz.underlying26 h with ⟨hcs, _⟩ | ⟨ad, len, c, m, q, Dd, Pl, hcs, _, hl, hm, hmm, _, hx⟩
 ·
  simp at hcs
  obtain ⟨rfl, rfl, rfl⟩ := hcs
  exact ⟨[], ⟨rfl, fun i hi => absurd hi (by omega)⟩, Nat.zero_le _, fun x hx => by simp at hx⟩
 ·
  simp at hcs
  obtain ⟨rfl, rfl, rfl⟩ := hcs
  have hm2 : m = cap := by simpa using hmm
  have ce : Tryz.prog.cellsOf 158 = 9 := by kernel_rfl
  have co : Tryz.prog.cellsOf 41 = 7 := by kernel_rfl
  have ci : Tryz.prog.cellsOf 3 = 1 := by kernel_rfl
  have each : ∀ i, i < n → ∃ y : KpD, (∃ (a1 : Option Addr) (n1 c1 : Nat) (a2 : Option Addr) (n2 c2 : Nat) (a3 : Option Addr) (n3 c3 : Nat), (W.cell? (ad.add (i * 9 + 0)) = some (.string y.p) ∧ W.cell? (ad.add (i * 9 + 1)) = some (.slice a1 n1 c1) ∧ W.cell? (ad.add (i * 9 + 2)) = some (.slice a2 n2 c2) ∧ W.cell? (ad.add (i * 9 + 3)) = some (.int .i64 y.st) ∧ W.cell? (ad.add (i * 9 + 4)) = some (.slice a3 n3 c3) ∧ W.cell? (ad.add (i * 9 + 5)) = some (.string y.b) ∧ W.cell? (ad.add (i * 9 + 6)) = some (.int .i64 y.t) ∧ W.cell? (ad.add (i * 9 + 7)) = some (.int .i64 y.a) ∧ W.cell? (ad.add (i * 9 + 8)) = some (.int .i64 y.q)) ∧ ArgT W W.heap.size a1 n1 y.xs ∧ ArgT W W.heap.size a2 n2 y.ys ∧ ArgF W W.heap.size a3 n3 y.fs) ∧ KpMax y := by
   intro i hi
   obtain ⟨cs', h1, h2⟩ := hx i (by omega)
   rw [ce] at h1
   obtain ⟨_, hlen, hcell⟩ := World.cells?_some h1
   obtain ⟨xs, k, hk, hxy, _, hxl, hf⟩ := DataW.trod_struct Tryz.underlying158 h2
   match xs, hxl, cs', hlen with
   | [x0, x1, x2], _, [v0, v1, v2, v3, v4, v5, v6, v7, v8], _ =>
    have g0 := hf 0 _ rfl
    have g1 := hf 1 _ rfl
    have g2 := hf 2 _ rfl
    simp [ci, co] at g0 g1 g2
    obtain ⟨p, a1, n1, c1, xs, a2, n2, c2, ys, st, a3, n3, c3, fs, b, t, ⟨rfl, rfl, rfl, rfl, rfl, rfl, rfl⟩, w1, w2, w3, m1, m2, m3, s1, s2, s3, s4, s5⟩ := objCells g0
    obtain ⟨ka, e1, _, _⟩ := DataW.trod_int Tryz.underlying3 g1
    obtain ⟨kq, e2, _, _⟩ := DataW.trod_int Tryz.underlying3 g2
    simp only [List.cons.injEq, and_true] at e1 e2
    subst e1 e2
    have c0x := hcell 0 (by omega)
    have c1x := hcell 1 (by omega)
    have c2x := hcell 2 (by omega)
    have c3x := hcell 3 (by omega)
    have c4x := hcell 4 (by omega)
    have c5x := hcell 5 (by omega)
    have c6x := hcell 6 (by omega)
    have c7x := hcell 7 (by omega)
    have c8x := hcell 8 (by omega)
    rw [Go.Deep.add_add] at c0x c1x c2x c3x c4x c5x c6x c7x c8x
    refine ⟨⟨p, xs, ys, st, fs, b, t, ka, kq⟩, ⟨a1, n1, c1, a2, n2, c2, a3, n3, c3, ⟨by simpa using c0x, by simpa using c1x, by simpa using c2x, by simpa using c3x, by simpa using c4x, by simpa using c5x, by simpa using c6x, by simpa using c7x, by simpa using c8x⟩, w1, w2, w3⟩, ?_⟩
    unfold KpMax
    show xs.length ≤ maxLen ∧ ys.length ≤ maxLen ∧ fs.length ≤ maxLen ∧ (∀ i, i < xs.length → (textAt xs i).size ≤ maxLen) ∧ (∀ i, i < ys.length → (textAt ys i).size ≤ maxLen) ∧ WalkF fs.length fs ∧ p.size ≤ maxLen ∧ b.size ≤ maxLen
    rw [w1.len, w2.len, w3.len]
    exact ⟨m1, m2, m3, s1, s2, s3, s4, s5⟩
  haveI : Inhabited KpD := ⟨zeroK⟩
  obtain ⟨q, hq⟩ := Go.Deep.choose_lt each
  have hat : ∀ i, i < n → kpAt ((List.range n).map q) i = q i := fun i hi => by
   unfold kpAt
   rw [List.getD_eq_getElem?_getD, List.getElem?_map, List.getElem?_range hi]
   rfl
  refine ⟨(List.range n).map q, ⟨by simp, fun i hi => ?_⟩, by omega, fun x hx => ?_⟩
  ·
   obtain ⟨⟨a1, n1, c1, a2, n2, c2, a3, n3, c3, cc, w1, w2, w3⟩, _⟩ := hq i hi
   have hsp : ad.spot = none := by
    obtain ⟨⟨_, _, _, _, _, _, _, _, _, c3, _⟩, _⟩ := hq 0 (by omega)
    have := World.cell?_spot c3.1
    simpa [Addr.add] using this
   obtain ⟨b, off, sp⟩ := ad
   simp only at hsp
   subst hsp
   simp only [addr_add] at cc
   rw [hat i hi]
   have hlt := World.block_lt_of_cell? W _ cc.1
   exact ⟨b, off, rfl, hlt, a1, n1, c1, a2, n2, c2, a3, n3, c3, ⟨by simpa [Nat.add_assoc] using cc.1, by simpa [Nat.add_assoc] using cc.2.1, by simpa [Nat.add_assoc] using cc.2.2.1, by simpa [Nat.add_assoc] using cc.2.2.2.1, by simpa [Nat.add_assoc] using cc.2.2.2.2.1, by simpa [Nat.add_assoc] using cc.2.2.2.2.2.1, by simpa [Nat.add_assoc] using cc.2.2.2.2.2.2.1, by simpa [Nat.add_assoc] using cc.2.2.2.2.2.2.2.1, by simpa [Nat.add_assoc] using cc.2.2.2.2.2.2.2.2⟩, w1, w2, w3⟩
  ·
   obtain ⟨i, hi, rfl⟩ := List.mem_map.1 hx
   exact (hq i (List.mem_range.1 hi)).2
end Go.Proofs.YtbmhonfgffjpcaaGreat
namespace Go.Proofs.YtbmhonfgffjpcaaGreat
open Go.RowKit
open Go.Lib hiding intOf
theorem cellsReq {H : Type} {enc : TypeId × Value → H} {W : World} {fuel : Nat} {d0 d1 d2 d3 : Value} {x : DataW H × List MemPlace} (hf : DataW.trod enc Tryz.prog W 0 (fun _ => true) true fuel 37 [d0, d1, d2, d3] = some x) :
  ∃ (mt : Int) (pa : ByteArray) (fs : List (ByteArray × ByteArray)) (bd : ByteArray) (a : Option Addr) (n cap : Nat), (d0 = .int .i64 mt ∧ d1 = .string pa ∧ d2 = .slice a n cap ∧ d3 = .string bd) ∧ ArgF W W.heap.size a n fs ∧ n ≤ maxLen ∧ WalkF n fs ∧ pa.size ≤ maxLen ∧ bd.size ≤ maxLen := by
 obtain ⟨ys, q, _, _, _, hyl, hg⟩ := DataW.trod_struct Tryz.underlying37 hf
 have e3 : Tryz.prog.cellsOf 3 = 1 := by kernel_rfl
 have e9 : Tryz.prog.cellsOf 9 = 1 := by kernel_rfl
 have eL : Tryz.prog.cellsOf 35 = 1 := by kernel_rfl
 have g0 := hg 0 _ rfl
 have g1 := hg 1 _ rfl
 have g2 := hg 2 _ rfl
 have g3 := hg 3 _ rfl
 simp [e3, e9, eL] at g0 g1 g2 g3
 have hyz : ys.length = 4 := hyl
 rw [List.getElem?_eq_getElem (show 0 < ys.length by omega)] at g0
 rw [List.getElem?_eq_getElem (show 1 < ys.length by omega)] at g1
 rw [List.getElem?_eq_getElem (show 2 < ys.length by omega)] at g2
 rw [List.getElem?_eq_getElem (show 3 < ys.length by omega)] at g3
 obtain ⟨mt, hmt, _, _⟩ := DataW.trod_int Tryz.underlying3 g0
 obtain ⟨pa, hpa, _, spa⟩ := DataW.trod_string Tryz.underlying9 g1
 obtain ⟨a, n, cap, rfl⟩ : ∃ a n cap, d2 = .slice a n cap := by
  rcases DataW.trod_slice Tryz.underlying35 g2 with ⟨h, _⟩ | ⟨a, n, cap, _, _, _, _, h, _⟩
  · exact ⟨none, 0, 0, by simpa using h⟩
  · exact ⟨_, n, cap, by simpa using h⟩
 obtain ⟨fs, h1, h2, h3⟩ := openFields g2
 obtain ⟨bd, hbd, _, sbd⟩ := DataW.trod_string Tryz.underlying9 g3
 simp only [List.cons.injEq, and_true] at hmt hpa hbd
 subst hmt hpa hbd
 exact ⟨mt, pa, fs, bd, a, n, cap, ⟨rfl, rfl, rfl, rfl⟩, h1, h2, h3, spa, sbd⟩
theorem cellsResp {H : Type} {enc : TypeId × Value → H} {W : World} {fuel : Nat} {d0 d1 d2 : Value} {x : DataW H × List MemPlace} (hf : DataW.trod enc Tryz.prog W 0 (fun _ => true) true fuel 39 [d0, d1, d2] = some x) :
  ∃ (st : Int) (fs : List (ByteArray × ByteArray)) (bd : ByteArray) (a : Option Addr) (n cap : Nat), (d0 = .int .i64 st ∧ d1 = .slice a n cap ∧ d2 = .string bd) ∧ ArgF W W.heap.size a n fs ∧ n ≤ maxLen ∧ WalkF n fs ∧ bd.size ≤ maxLen := by
 obtain ⟨ys, q, _, _, _, hyl, hg⟩ := DataW.trod_struct Tryz.underlying39 hf
 have e3 : Tryz.prog.cellsOf 3 = 1 := by kernel_rfl
 have e9 : Tryz.prog.cellsOf 9 = 1 := by kernel_rfl
 have eL : Tryz.prog.cellsOf 35 = 1 := by kernel_rfl
 have g0 := hg 0 _ rfl
 have g1 := hg 1 _ rfl
 have g2 := hg 2 _ rfl
 simp [e3, e9, eL] at g0 g1 g2
 have hyz : ys.length = 3 := hyl
 rw [List.getElem?_eq_getElem (show 0 < ys.length by omega)] at g0
 rw [List.getElem?_eq_getElem (show 1 < ys.length by omega)] at g1
 rw [List.getElem?_eq_getElem (show 2 < ys.length by omega)] at g2
 obtain ⟨st, hst, _, _⟩ := DataW.trod_int Tryz.underlying3 g0
 obtain ⟨a, n, cap, rfl⟩ : ∃ a n cap, d1 = .slice a n cap := by
  rcases DataW.trod_slice Tryz.underlying35 g1 with ⟨h, _⟩ | ⟨a, n, cap, _, _, _, _, h, _⟩
  · exact ⟨none, 0, 0, by simpa using h⟩
  · exact ⟨_, n, cap, by simpa using h⟩
 obtain ⟨fs, h1, h2, h3⟩ := openFields g1
 obtain ⟨bd, hbd, _, sbd⟩ := DataW.trod_string Tryz.underlying9 g2
 simp only [List.cons.injEq, and_true] at hst hbd
 subst hst hbd
 exact ⟨st, fs, bd, a, n, cap, ⟨rfl, rfl, rfl⟩, h1, h2, h3, sbd⟩
end Go.Proofs.YtbmhonfgffjpcaaGreat
