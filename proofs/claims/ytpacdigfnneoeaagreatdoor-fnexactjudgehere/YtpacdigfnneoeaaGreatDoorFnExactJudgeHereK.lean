/- What the proof of FnExactJudgeHere leans on: contracts of the program's and the specification's functions, and plain facts (part 11 of 11). -/
import Derived.Test.YtpacdigfnneoeaaGreatDoorFnExactJudgeHereJ
set_option maxHeartbeats 16000000
set_option maxRecDepth 100000
namespace Go.Proofs.YtpacdigfnneoeaaGreatDoor
open Go.RowKit
open Go.Lib hiding intOf
theorem l17Resp_any (s1 s2 : Int) (v1 v2 : Value) (n1 n2 B1 B2 : Nat) (f1 f2 : Fs) (b1 b2 : Tx) (w : World) (h1 : FieldsV w B1 v1 n1 f1) (h2 : FieldsV w B2 v2 n2 f2) (hn1 : n1 ≤ 1048577) (hn2 : n2 ≤ 1048577) :
  Calls Tryz.prog 39 #[.agg #[.int .i64 s1, v1, .string b1], .agg #[.int .i64 s2, v2, .string b2]] w fun e w' => BoolIs (SameRP s1 f1 b1 s2 f2 b2) w e w' := by
 obtain ⟨o1, c1, hsl, _⟩ := h1.slice
 subst hsl
 obtain ⟨o2, c2, hsl, _⟩ := h2.slice
 subst hsl
 have HV1 : Hid (∀ W, Below w.heap.size w W → FieldsV W B1 (.slice o1 n1 c1) n1 f1) := fun W h => h1.below h
 have HV2 : Hid (∀ W, Below w.heap.size w W → FieldsV W B2 (.slice o2 n2 c2) n2 f2) := fun W h => h2.below h
 clear h1 h2
 have hb0 := Below.refl w.heap.size w
 go_enter Tryz.func39, Tryz.ntmps39
 go_upto_region 1 with fail
 obtain ⟨q1, hq1⟩ := exq (w.heap.size)
 obtain ⟨w1, hW1⟩ := exq (w.alloc (.cells #[.int .i64 s1, .slice o1 n1 c1, .string b1] 60))
 have hz1 := hq1.symm
 rw [← hW1]; try rw [← hq1]
 have hs1 := hsa hW1 hz1
 have bw := bal hW1
 have hb1 := hbt hb0 bw
 have B1_1 := hnew hW1 hz1
 clear hb0 bw hW1 hz1
 obtain ⟨q2, hq2⟩ := exq (q1 + 1)
 obtain ⟨w2, hW2⟩ := exq (w1.alloc (.cells #[.int .i64 s2, .slice o2 n2 c2, .string b2] 60))
 have hz2 : w1.heap.size = q2 := by rw [hq2]; exact hs1
 rw [← hW2]; try rw [← hq2]
 have hs2 := hsa hW2 hz2
 have bw := bal hW2
 have hb2 := hbt hb1 bw
 have B1_2 := hblk B1_1 bw
 have B2_2 := hnew hW2 hz2
 clear hb1 bw hW2 hz2
 clear hs2 hq2 hs1 hq1
 by_cases hc1 : s1 = s2
 rotate_left
 ·have hc1b : ((s1 : Int) == (s2 : Int)) = false := by simpa using hc1
  have hc1n : ((s1 : Int) != (s2 : Int)) = true := by simpa using hc1
  have HES := hid hc1
  have hc1H := hid hc1
  clear hc1
  have c1_0 := (k3c B1_2).1
  have c2_0 := (k3c B2_2).1
  go_wp2_with fail
  go_ret
  exact BoolIs.no (fun h => HES.out h.1) hb2
 have hc1b : ((s1 : Int) == (s2 : Int)) = true := by simpa using hc1
 have hc1n : ((s1 : Int) != (s2 : Int)) = false := by simpa using hc1
 have HES := hid hc1
 have hc1H := hid hc1
 clear hc1
 by_cases hc2 : b1 = b2
 rotate_left
 ·have hc2b : ((b1).toList == (b2).toList) = false := text_beq_no hc2
  have HEB := hid hc2
  clear hc2
  have c1_0 := (k3c B1_2).1
  have c1_2 := (k3c B1_2).2.2
  have c2_0 := (k3c B2_2).1
  have c2_2 := (k3c B2_2).2.2
  go_wp2_with fail
  go_ret
  exact BoolIs.no (fun h => HEB.out h.2.2) hb2
 have hc2b : ((b1).toList == (b2).toList) = true := (text_beq _ _).2 hc2
 have HEB := hid hc2
 clear hc2
 have c1_0 := (k3c B1_2).1
 have c1_1 := (k3c B1_2).2.1
 have c1_2 := (k3c B1_2).2.2
 have c2_0 := (k3c B2_2).1
 have c2_1 := (k3c B2_2).2.1
 have c2_2 := (k3c B2_2).2.2
 go_wp2_with fail
 refine (l15Fields_any _ _ n1 n2 B1 B2 f1 f2 _ (HV1.out _ hb2) (HV2.out _ hb2) (by omega) (by omega)).mono ?_
 rintro e w3 ⟨uf, rfl, huf, bw⟩
 have hb3 := hbt hb2 bw
 have B1_3 := hblk B1_2 bw
 have B2_3 := hblk B2_2 bw
 clear hb2 bw
 clear c1_0 c1_1 c1_2 c2_0 c2_1 c2_2
 cases uf
 rotate_left
 ·have HYuf : Hid (f1 = f2) := huf.1 rfl
  clear huf
  go_wp2_with fail
  go_ret
  exact BoolIs.yes ⟨HES.out, HYuf.out, HEB.out⟩ hb3
 have HNuf : Hid (¬ (f1 = f2)) := fun h => nomatch huf.2 h
 clear huf
 go_wp2_with fail
 go_ret
 exact BoolIs.no (fun h => HNuf.out h.2.1) hb3
theorem l17Here_any (v1 v2 V VB F E R : Value) (kv : Ks) (fv : List FlV) (ev : List SeV) (rv : List RpV) (c : CaD) (B : Nat) (w : World) (h : CacheO w B v1 v2 V VB F E R kv fv ev rv c) (hz : CaSmall c) (a : RpD) (t3 t6 t11 t12 t14 : Value) (C : Nat) (hr : RowsO w C (rpR (⟨a, t3, t6, t11, t12, t14⟩ : RpV))) (ha : RpSmall a) (ht : TimesR a) :
  Calls Tryz.prog 14 #[.agg #[v1, v2, V, VB, .int .i64 c.s.nx, .int .i64 c.s.sq, F, .int .i64 c.now, E, R], .agg #[.int .i64 a.cli, .int .i64 a.qmt, .string a.qpa, t3, .string a.qbd, .int .i64 a.rst, t6, .string a.rbd, .int .i64 a.knd, .int .i64 a.tim, .string a.opa, t11, t12, .int .i64 a.ost, t14, .string a.obd, .int .i64 a.otm, .int .i64 a.bns]] w fun e w' => BoolIs (HereRP c a) w e w' := by
 obtain ⟨o1, c1, rfl⟩ := slice_of_owns h.shelf.disk.cells
 obtain ⟨o2, c2, rfl⟩ := slice_of_owns h.shelf.disk.pend
 obtain ⟨o3, c3, rfl⟩ := h.shelf.kept.len
 obtain ⟨o4, c4, rfl⟩ := slice_of_owns h.shelf.bans
 obtain ⟨o5, c5, rfl⟩ := h.fls.len
 obtain ⟨o6, c6, rfl⟩ := h.ses.len
 obtain ⟨o7, c7, rfl⟩ := h.rps.len
 obtain ⟨n3, hn3⟩ := exq kv.length
 obtain ⟨n4, hn4⟩ := exq (c.s.bl.length)
 obtain ⟨n5, hn5⟩ := exq fv.length
 obtain ⟨n6, hn6⟩ := exq ev.length
 obtain ⟨n7, hn7⟩ := exq rv.length
 rw [← hn3, ← hn4, ← hn5, ← hn6, ← hn7] at h ⊢
 have HLK : Hid (kv.length = n3) := hn3.symm
 have HLB : Hid (c.s.bl.length = n4) := hn4.symm
 have HLF : Hid (fv.length = n5) := hn5.symm
 have HLE : Hid (ev.length = n6) := hn6.symm
 have HLR : Hid (rv.length = n7) := hn7.symm
 have HLC : Hid (c.fl.length = n5 ∧ c.se.length = n6 ∧ c.sn.length = n7 ∧ c.s.ks.length = n3) := ⟨by rw [← h.hf, List.length_map, hn5], by rw [← h.he, List.length_map, hn6], by rw [← h.hr, List.length_map, hn7], by rw [← h.hk, List.length_map, hn3]⟩
 have HFD : Hid (fv.map (·.d) = c.fl) := h.hf
 have HED : Hid (ev.map (·.d) = c.se) := h.he
 have HKS : Hid (kv.map (·.1) = c.s.ks) := h.hk
 have HZ := hid hz
 have bn3 : n3 ≤ 1048576 := by rw [← HLC.out.2.2.2]; exact hz.s.k
 have bn4 : n4 ≤ 1048576 := by rw [← HLB.out]; exact hz.s.b
 have bn5 : n5 ≤ 1048576 := by rw [← HLC.out.1]; exact hz.nf
 have bn6 : n6 ≤ 1048576 := by rw [← HLC.out.2.1]; exact hz.ne
 have bn7 : n7 ≤ 1048576 := by rw [← HLC.out.2.2.1]; exact hz.nr
 have HCA : Hid (∀ W, Below w.heap.size w W → CacheO W B (.slice o1 c.s.cs.length c1) (.slice o2 c.s.ws.length c2) (.slice o3 n3 c3) (.slice o4 n4 c4) (.slice o5 n5 c5) (.slice o6 n6 c6) (.slice o7 n7 c7) kv fv ev rv c) := fun W hb => h.below hb
 have HKP : Hid (∀ W, Below w.heap.size w W → KeptsO W B (.slice o3 n3 c3) kv) := fun W hb => (h.below hb).shelf.kept
 have HBN : Hid (∀ W, Below w.heap.size w W → BanA W o4 n4 c.s.bl) := fun W hb => by
  have h1 := (h.below hb).shelf.bans
  rw [HLB.out] at h1
  exact ban_view h1
 have HC4 : Hid (n4 ≤ c4) := by
  have h1 := h.shelf.bans
  rw [HLB.out] at h1
  exact owns_cap h1
 clear hn3 hn4 hn5 hn6 hn7 h hz
 obtain ⟨ka3, kac3, hu⟩ := slice_of_owns (hr.own (⟨185, 2, t3, a.qfs.length, flatF a.qfs⟩ : Rw) (by simp [rpR]))
 obtain rfl : t3 = .slice ka3 a.qfs.length kac3 := hu
 obtain ⟨ka6, kac6, hu⟩ := slice_of_owns (hr.own (⟨185, 2, t6, a.rfs.length, flatF a.rfs⟩ : Rw) (by simp [rpR]))
 obtain rfl : t6 = .slice ka6 a.rfs.length kac6 := hu
 obtain ⟨ka11, kac11, hu⟩ := slice_of_owns (hr.own (⟨9, 1, t11, a.oxs.length, a.oxs.map Value.string⟩ : Rw) (by simp [rpR]))
 obtain rfl : t11 = .slice ka11 a.oxs.length kac11 := hu
 obtain ⟨ka12, kac12, hu⟩ := slice_of_owns (hr.own (⟨9, 1, t12, a.oys.length, a.oys.map Value.string⟩ : Rw) (by simp [rpR]))
 obtain rfl : t12 = .slice ka12 a.oys.length kac12 := hu
 obtain ⟨ka14, kac14, hu⟩ := slice_of_owns (hr.own (⟨185, 2, t14, a.ofs.length, flatF a.ofs⟩ : Rw) (by simp [rpR]))
 obtain rfl : t14 = .slice ka14 a.ofs.length kac14 := hu
 have HRa : Hid (∀ W, Below w.heap.size w W → RowsO W C (rpR (⟨a, .slice ka3 a.qfs.length kac3, .slice ka6 a.rfs.length kac6, .slice ka11 a.oxs.length kac11, .slice ka12 a.oys.length kac12, .slice ka14 a.ofs.length kac14⟩ : RpV))) := fun W hb => hr.below hb
 have HSa := hid ha
 have HTa := hid ht
 have ban : a.rfs.length ≤ 1048576 := ha.rfs.1
 obtain ⟨rS, hrS⟩ := exq (ansS a.qfs a.ofs a.ost)
 obtain ⟨rF, hrF⟩ := exq (ansF a.qfs a.ofs a.ost a.obd a.otm a.tim)
 obtain ⟨rB, hrB⟩ := exq (ansB a.qfs a.ofs a.obd)
 obtain ⟨nF, hnF⟩ := exq rF.length
 have bnF : nF ≤ 1048577 := by
  rw [hnF, hrF]
  have h1 := ansF_le a.qfs a.ofs a.ost a.obd a.otm a.tim
  have h2 := ha.ofs.1
  omega
 have HNF : Hid (rF.length = nF) := hnF.symm
 have HANS : Hid (AnsweredP a ↔ SameRP a.rst a.rfs a.rbd rS rF rB) := by show _ ↔ _; rw [hrS, hrF, hrB]; exact Iff.rfl
 have HAE : Hid (ansS a.qfs a.ofs a.ost = rS ∧ ansF a.qfs a.ofs a.ost a.obd a.otm a.tim = rF ∧ ansB a.qfs a.ofs a.obd = rB) := ⟨hrS.symm, hrF.symm, hrB.symm⟩
 obtain ⟨kc, hkc⟩ := exq ((ccR (getV a.qfs ccName)))
 have HCK : Hid ((ccR (getV a.qfs ccName)) = kc) := hkc.symm
 obtain ⟨x0, x1, x2, x3, x4, x5⟩ := kc
 clear hr ha ht hrS hrF hrB hnF hkc
 have hb0 := Below.refl w.heap.size w
 go_enter Tryz.func14, Tryz.ntmps14
 go_upto_region 1 with fail
 obtain ⟨q1, hq1⟩ := exq (w.heap.size)
 obtain ⟨w1, hW1⟩ := exq (w.alloc (.cells #[.slice o1 c.s.cs.length c1, .slice o2 c.s.ws.length c2, .slice o3 n3 c3, .slice o4 n4 c4, .int .i64 c.s.nx, .int .i64 c.s.sq, .slice o5 n5 c5, .int .i64 c.now, .slice o6 n6 c6, .slice o7 n7 c7] 48))
 have hz1 := hq1.symm
 rw [← hW1]; try rw [← hq1]
 have hs1 := hsa hW1 hz1
 have bw := bal hW1
 have hb1 := hbt hb0 bw
 have B1_1 := hnew hW1 hz1
 clear hb0 bw hW1 hz1
 obtain ⟨q2, hq2⟩ := exq (q1 + 1)
 obtain ⟨w2, hW2⟩ := exq (w1.alloc (.cells #[.int .i64 a.cli, .int .i64 a.qmt, .string a.qpa, .slice ka3 a.qfs.length kac3, .string a.qbd, .int .i64 a.rst, .slice ka6 a.rfs.length kac6, .string a.rbd, .int .i64 a.knd, .int .i64 a.tim, .string a.opa, .slice ka11 a.oxs.length kac11, .slice ka12 a.oys.length kac12, .int .i64 a.ost, .slice ka14 a.ofs.length kac14, .string a.obd, .int .i64 a.otm, .int .i64 a.bns] 64))
 have hz2 : w1.heap.size = q2 := by rw [hq2]; exact hs1
 rw [← hW2]; try rw [← hq2]
 have hs2 := hsa hW2 hz2
 have bw := bal hW2
 have hb2 := hbt hb1 bw
 have B1_2 := hblk B1_1 bw
 have B2_2 := hnew hW2 hz2
 clear hb1 bw hW2 hz2
 clear hs2 hq2 hs1 hq1
 have c2_10 := hcl B2_2 10 rfl
 have Acv2_10 := hca B2_2 10 rfl
 have Afcv2_10 := hfa B2_2 10
 have c2_11 := hcl B2_2 11 rfl
 have Acv2_11 := hca B2_2 11 rfl
 have Afcv2_11 := hfa B2_2 11
 have c2_12 := hcl B2_2 12 rfl
 have Acv2_12 := hca B2_2 12 rfl
 have Afcv2_12 := hfa B2_2 12
 have c2_13 := hcl B2_2 13 rfl
 have Acv2_13 := hca B2_2 13 rfl
 have Afcv2_13 := hfa B2_2 13
 have c2_14 := hcl B2_2 14 rfl
 have Acv2_14 := hca B2_2 14 rfl
 have Afcv2_14 := hfa B2_2 14
 have c2_15 := hcl B2_2 15 rfl
 have Acv2_15 := hca B2_2 15 rfl
 have Afcv2_15 := hfa B2_2 15
 have c2_16 := hcl B2_2 16 rfl
 have Acv2_16 := hca B2_2 16 rfl
 have Afcv2_16 := hfa B2_2 16
 go_upto_region 2 with fail
 obtain ⟨q3, hq3⟩ := exq (w2.heap.size)
 obtain ⟨w3, hW3⟩ := exq (w2.alloc (.cells #[.string a.opa, .slice ka11 a.oxs.length kac11, .slice ka12 a.oys.length kac12, .int .i64 a.ost, .slice ka14 a.ofs.length kac14, .string a.obd, .int .i64 a.otm] 62))
 have hz3 := hq3.symm
 rw [← hW3]; try rw [← hq3]
 have hs3 := hsa hW3 hz3
 have bw := bal hW3
 have hb3 := hbt hb2 bw
 have B1_3 := hblk B1_2 bw
 have B2_3 := hblk B2_2 bw
 have B3_3 := hnew hW3 hz3
 clear hb2 bw hW3 hz3
 clear hs3 hq3
 clear c2_10 Acv2_10 Afcv2_10 c2_11 Acv2_11 Afcv2_11 c2_12 Acv2_12 Afcv2_12 c2_13 Acv2_13 Afcv2_13 c2_14 Acv2_14 Afcv2_14 c2_15 Acv2_15 Afcv2_15 c2_16 Acv2_16 Afcv2_16
 have c2_3 := hcl B2_3 3 rfl
 go_wp2_with fail
 refine (specCcOf_r a _ _ _ _ _ C _ (HRa.out _ hb3) HSa.out).mono ?_
 rintro e w4 ⟨rfl, bw⟩
 rw [HCK.out]
 unfold CcD.v
 dsimp only
 have hb4 := hbt hb3 bw
 have B1_4 := hblk B1_3 bw
 have B2_4 := hblk B2_3 bw
 have B3_4 := hblk B3_3 bw
 clear hb3 bw
 clear c2_3
 go_upto_region 3 with fail
 obtain ⟨q4, hq4⟩ := exq (w4.heap.size)
 obtain ⟨w5, hW5⟩ := exq (w4.alloc (.cells #[.bool x0, .bool x1, .bool x2, .bool x3, .bool x4, .int .i64 x5] 106))
 have hz5 := hq4.symm
 rw [← hW5]; try rw [← hq4]
 have hs5 := hsa hW5 hz5
 have bw := bal hW5
 have hb5 := hbt hb4 bw
 have B1_5 := hblk B1_4 bw
 have B2_5 := hblk B2_4 bw
 have B3_5 := hblk B3_4 bw
 have B4_5 := hnew hW5 hz5
 clear hb4 bw hW5 hz5
 clear hs5 hq4
 have c2_9 := hcl B2_5 9 rfl
 have c3_4 := (k7c B3_5).2.2.2.2.1
 have c3_6 := (k7c B3_5).2.2.2.2.2.2
 go_wp2_with fail
 refine (specFresh_r a _ _ _ _ _ C _ (HRa.out _ hb5) HSa.out HTa.out).mono ?_
 rintro e w6 ⟨ff, rfl, hff, bw⟩
 have hb6 := hbt hb5 bw
 have B1_6 := hblk B1_5 bw
 have B2_6 := hblk B2_5 bw
 have B3_6 := hblk B3_5 bw
 have B4_6 := hblk B4_5 bw
 clear hb5 bw
 clear c2_9 c3_4 c3_6
 cases ff
 ·have HNff : Hid (¬ (freshOf a.ofs a.otm a.tim = true)) := fun h => nomatch hff.2 h
  clear hff
  go_wp2_with fail
  go_ret
  exact BoolIs.no (fun h => HNff.out h.1) hb6
 have HYff : Hid (freshOf a.ofs a.otm a.tim = true) := hff.1 rfl
 clear hff
 by_cases hc1 : a.opa = a.qpa
 rotate_left
 ·have hc1b : ((a.opa).toList == (a.qpa).toList) = false := text_beq_no hc1
  have HPE := hid hc1
  clear hc1
  have c2_2 := hcl B2_6 2 rfl
  have c3_0 := (k7c B3_6).1
  go_wp2_with fail
  go_ret
  exact BoolIs.no (fun h => HPE.out h.2.1) hb6
 have hc1b : ((a.opa).toList == (a.qpa).toList) = true := (text_beq _ _).2 hc1
 have HPE := hid hc1
 clear hc1
 have c2_2 := hcl B2_6 2 rfl
 have c2_3 := hcl B2_6 3 rfl
 have c3_0 := (k7c B3_6).1
 have c3_1 := (k7c B3_6).2.1
 have c3_2 := (k7c B3_6).2.2.1
 go_wp2_with fail
 refine (specSuits_r a _ _ _ _ _ C _ (HRa.out _ hb6) HSa.out).mono ?_
 rintro e w7 ⟨su, rfl, hsu, bw⟩
 have hb7 := hbt hb6 bw
 have B1_7 := hblk B1_6 bw
 have B2_7 := hblk B2_6 bw
 have B3_7 := hblk B3_6 bw
 have B4_7 := hblk B4_6 bw
 clear hb6 bw
 clear c2_2 c2_3 c3_0 c3_1 c3_2
 cases su
 ·have HNsu : Hid (¬ (suitsP a.oxs a.oys a.qfs = true)) := fun h => nomatch hsu.2 h
  clear hsu
  go_wp2_with fail
  go_ret
  exact BoolIs.no (fun h => HNsu.out h.2.2.1) hb7
 have HYsu : Hid (suitsP a.oxs a.oys a.qfs = true) := hsu.1 rfl
 clear hsu
 go_upto_region 5 with fail
 refine wp_region_held_drew (S := fun W => W.heap[q2]? = some (.cells #[.int .i64 a.cli, .int .i64 a.qmt, .string a.qpa, .slice ka3 a.qfs.length kac3, .string a.qbd, .int .i64 a.rst, .slice ka6 a.rfs.length kac6, .string a.rbd, .int .i64 a.knd, .int .i64 a.tim, .string a.opa, .slice ka11 a.oxs.length kac11, .slice ka12 a.oys.length kac12, .int .i64 a.ost, .slice ka14 a.ofs.length kac14, .string a.obd, .int .i64 a.otm, .int .i64 a.bns] 64) ∧ W.heap[q4]? = some (.cells #[.bool x0, .bool x1, .bool x2, .bool x3, .bool x4, .int .i64 x5] 106) ∧ W.heap[q3]? = some (.cells #[.string a.opa, .slice ka11 a.oxs.length kac11, .slice ka12 a.oys.length kac12, .int .i64 a.ost, .slice ka14 a.ofs.length kac14, .string a.obd, .int .i64 a.otm] 62) ∧ W.heap[q1]? = some (.cells #[.slice o1 c.s.cs.length c1, .slice o2 c.s.ws.length c2, .slice o3 n3 c3, .slice o4 n4 c4, .int .i64 c.s.nx, .int .i64 c.s.sq, .slice o5 n5 c5, .int .i64 c.now, .slice o6 n6 c6, .slice o7 n7 c7] 48)) (by kernel_rfl) ⟨B2_7.out, B4_7.out, B3_7.out, B1_7.out⟩ (fun _ => ?_)
 obtain ⟨w8, hX⟩ := exq w7.drew
 have bw := bdr hX
 rw [← hX]
 have hb8 := hbt hb7 bw
 have B1_8 := hblk B1_7 bw
 have B2_8 := hblk B2_7 bw
 have B3_8 := hblk B3_7 bw
 have B4_8 := hblk B4_7 bw
 have hS8 := And.intro B2_8.out (And.intro B4_8.out (And.intro B3_8.out B1_8.out))
 clear hb7 bw hX
 refine tkP 0 (.pointer (some ⟨q2, 1, none⟩)) 41 rfl rfl hS8 (tkP 1 (.pointer (some ⟨q2, 1, none⟩)) 42 rfl rfl hS8 ?_)
 go_frame
 refine tkL 2 (.int .i64 a.qmt) 43 rfl rfl (Or.inl ⟨by rfl, by intro W hW; obtain ⟨hhv2, hhv4, hhv3, hhv1⟩ := hW; have y1 := (cell_of hhv2 1).trans rfl; go_simp⟩) hS8 ?_
 go_frame
 by_cases hc2 : a.qmt = 1
 rotate_left
 ·have hc2b : ((a.qmt : Int) == (1 : Int)) = false := by simpa using hc2
  have hc2n : ((a.qmt : Int) != (1 : Int)) = true := by simpa using hc2
  have HME := hid hc2
  have hc2H := hid hc2
  clear hc2
  refine tkP 3 (.bool false) 44 rfl rfl hS8 (tkP 4 (.bool false) 45 rfl rfl hS8 (tkN 5 46 rfl rfl hS8 ?_))
  go_frame
  refine tkN 6 47 rfl rfl hS8 (tkN 7 48 rfl rfl hS8 (tkP 8 (.bool false) 49 rfl rfl hS8 ?_))
  go_frame
  refine tkP 9 (.bool false) 50 rfl rfl hS8 (tkN 10 51 rfl rfl hS8 (tkN 11 52 rfl rfl hS8 ?_))
  go_frame
  refine tkN 12 53 rfl rfl hS8 (tkP 13 (.bool false) 54 rfl rfl hS8 (tkP 14 (.bool false) 55 rfl rfl hS8 ?_))
  go_frame
  refine tkN 15 56 rfl rfl hS8 (tkN 16 57 rfl rfl hS8 (tkN 17 58 rfl rfl hS8 ?_))
  go_frame
  refine tkN 18 59 rfl rfl hS8 (tkN 19 60 rfl rfl hS8 (tkN 20 61 rfl rfl hS8 ?_))
  go_frame
  refine tkN 21 62 rfl rfl hS8 (tkN 22 63 rfl rfl hS8 (tkN 23 64 rfl rfl hS8 ?_))
  go_frame
  refine tkP 24 (.bool false) 65 rfl rfl hS8 (tkP 25 (.bool false) 66 rfl rfl hS8 (tkN 26 67 rfl rfl hS8 ?_))
  go_frame
  refine tkN 27 68 rfl rfl hS8 (tkN 28 69 rfl rfl hS8 (tkN 29 70 rfl rfl hS8 ?_))
  go_frame
  refine tkP 30 (.bool false) 71 rfl rfl hS8 (tkP 31 (.bool false) 4 rfl rfl hS8 ?_)
  go_frame
  clear hS8
  refine wdn ?_
  go_wp2_with fail
  go_ret
  exact BoolIs.no (fun h => HME.out h.2.2.2.1.1) hb8
 have hc2b : ((a.qmt : Int) == (1 : Int)) = true := by simpa using hc2
 have hc2n : ((a.qmt : Int) != (1 : Int)) = false := by simpa using hc2
 have HME := hid hc2
 have hc2H := hid hc2
 clear hc2
 refine tkP 3 (.bool true) 44 rfl rfl hS8 (tkP 4 (.bool true) 45 rfl rfl hS8 (tkP 5 (.pointer (some ⟨q4, 1, none⟩)) 46 rfl rfl hS8 ?_))
 go_frame
 refine tkL 6 (.bool x1) 47 rfl rfl (Or.inl ⟨by rfl, by intro W hW; obtain ⟨hhv2, hhv4, hhv3, hhv1⟩ := hW; have y1 := (cell_of hhv4 1).trans rfl; go_simp⟩) hS8 ?_
 go_frame
 cases x1
 rotate_left
 ·have HX1 : Hid ((ccR (getV a.qfs ccName)).nc = true) := by show _ = _; rw [HCK.out]
  refine tkP 7 (.bool false) 48 rfl rfl hS8 (tkP 8 (.bool false) 49 rfl rfl hS8 (tkP 9 (.bool false) 50 rfl rfl hS8 ?_))
  go_frame
  refine tkN 10 51 rfl rfl hS8 (tkN 11 52 rfl rfl hS8 (tkN 12 53 rfl rfl hS8 ?_))
  go_frame
  refine tkP 13 (.bool false) 54 rfl rfl hS8 (tkP 14 (.bool false) 55 rfl rfl hS8 (tkN 15 56 rfl rfl hS8 ?_))
  go_frame
  refine tkN 16 57 rfl rfl hS8 (tkN 17 58 rfl rfl hS8 (tkN 18 59 rfl rfl hS8 ?_))
  go_frame
  refine tkN 19 60 rfl rfl hS8 (tkN 20 61 rfl rfl hS8 (tkN 21 62 rfl rfl hS8 ?_))
  go_frame
  refine tkN 22 63 rfl rfl hS8 (tkN 23 64 rfl rfl hS8 (tkP 24 (.bool false) 65 rfl rfl hS8 ?_))
  go_frame
  refine tkP 25 (.bool false) 66 rfl rfl hS8 (tkN 26 67 rfl rfl hS8 (tkN 27 68 rfl rfl hS8 ?_))
  go_frame
  refine tkN 28 69 rfl rfl hS8 (tkN 29 70 rfl rfl hS8 (tkP 30 (.bool false) 71 rfl rfl hS8 ?_))
  go_frame
  refine tkP 31 (.bool false) 4 rfl rfl hS8 ?_
  go_frame
  clear hS8
  refine wdn ?_
  go_wp2_with fail
  go_ret
  exact BoolIs.no (fun h => by have h1 := h.2.2.2.1.2.1; rw [HX1.out] at h1; cases h1) hb8
 have HX1 : Hid ((ccR (getV a.qfs ccName)).nc = false) := by show _ = _; rw [HCK.out]
 refine tkP 7 (.bool true) 48 rfl rfl hS8 (tkP 8 (.bool true) 49 rfl rfl hS8 (tkP 9 (.bool true) 50 rfl rfl hS8 ?_))
 go_frame
 refine tkP 10 (.pointer (some ⟨q4, 0, none⟩)) 51 rfl rfl hS8 ?_
 go_frame
 refine tkL 11 (.bool x0) 52 rfl rfl (Or.inl ⟨by rfl, by intro W hW; obtain ⟨hhv2, hhv4, hhv3, hhv1⟩ := hW; have y0 := (cell_of hhv4 0).trans rfl; go_simp⟩) hS8 ?_
 go_frame
 cases x0
 rotate_left
 ·have HX0 : Hid ((ccR (getV a.qfs ccName)).ns = true) := by show _ = _; rw [HCK.out]
  refine tkP 12 (.bool false) 53 rfl rfl hS8 (tkP 13 (.bool false) 54 rfl rfl hS8 (tkP 14 (.bool false) 55 rfl rfl hS8 ?_))
  go_frame
  refine tkN 15 56 rfl rfl hS8 (tkN 16 57 rfl rfl hS8 (tkN 17 58 rfl rfl hS8 ?_))
  go_frame
  refine tkN 18 59 rfl rfl hS8 (tkN 19 60 rfl rfl hS8 (tkN 20 61 rfl rfl hS8 ?_))
  go_frame
  refine tkN 21 62 rfl rfl hS8 (tkN 22 63 rfl rfl hS8 (tkN 23 64 rfl rfl hS8 ?_))
  go_frame
  refine tkP 24 (.bool false) 65 rfl rfl hS8 (tkP 25 (.bool false) 66 rfl rfl hS8 (tkN 26 67 rfl rfl hS8 ?_))
  go_frame
  refine tkN 27 68 rfl rfl hS8 (tkN 28 69 rfl rfl hS8 (tkN 29 70 rfl rfl hS8 ?_))
  go_frame
  refine tkP 30 (.bool false) 71 rfl rfl hS8 (tkP 31 (.bool false) 4 rfl rfl hS8 ?_)
  go_frame
  clear hS8
  refine wdn ?_
  go_wp2_with fail
  go_ret
  exact BoolIs.no (fun h => by have h1 := h.2.2.2.1.2.2; rw [HX0.out] at h1; cases h1) hb8
 have HX0 : Hid ((ccR (getV a.qfs ccName)).ns = false) := by show _ = _; rw [HCK.out]
 refine tkP 12 (.bool true) 53 rfl rfl hS8 (tkP 13 (.bool true) 54 rfl rfl hS8 (tkP 14 (.bool true) 55 rfl rfl hS8 ?_))
 go_frame
 refine tkP 15 (.pointer (some ⟨q2, 5, none⟩)) 56 rfl rfl hS8 ?_
 go_frame
 refine tkL 16 (.agg #[.int .i64 a.rst, .slice ka6 a.rfs.length kac6, .string a.rbd]) 57 rfl rfl (Or.inl ⟨by rfl, by intro W hW; obtain ⟨hhv2, hhv4, hhv3, hhv1⟩ := hW; have y5 := (cell_of hhv2 5).trans rfl; have y6 := (cell_of hhv2 6).trans rfl; have y7 := (cell_of hhv2 7).trans rfl; go_simp⟩) hS8 ?_
 go_frame
 refine tkP 17 (.pointer (some ⟨q2, 1, none⟩)) 58 rfl rfl hS8 ?_
 go_frame
 refine tkL 18 (.agg #[.int .i64 a.qmt, .string a.qpa, .slice ka3 a.qfs.length kac3, .string a.qbd]) 59 rfl rfl (Or.inl ⟨by rfl, by intro W hW; obtain ⟨hhv2, hhv4, hhv3, hhv1⟩ := hW; have y1 := (cell_of hhv2 1).trans rfl; have y2 := (cell_of hhv2 2).trans rfl; have y3 := (cell_of hhv2 3).trans rfl; have y4 := (cell_of hhv2 4).trans rfl; go_simp⟩) hS8 ?_
 go_frame
 refine tkL 19 (.agg #[.string a.opa, .slice ka11 a.oxs.length kac11, .slice ka12 a.oys.length kac12, .int .i64 a.ost, .slice ka14 a.ofs.length kac14, .string a.obd, .int .i64 a.otm]) 60 rfl rfl (Or.inl ⟨by rfl, by intro W hW; obtain ⟨hhv2, hhv4, hhv3, hhv1⟩ := hW; have y0 := (cell_of hhv3 0).trans rfl; have y1 := (cell_of hhv3 1).trans rfl; have y2 := (cell_of hhv3 2).trans rfl; have y3 := (cell_of hhv3 3).trans rfl; have y4 := (cell_of hhv3 4).trans rfl; have y5 := (cell_of hhv3 5).trans rfl; have y6 := (cell_of hhv3 6).trans rfl; go_simp⟩) hS8 ?_
 go_frame
 refine tkP 20 (.pointer (some ⟨q2, 9, none⟩)) 61 rfl rfl hS8 ?_
 go_frame
 refine tkL 21 (.int .i64 a.tim) 62 rfl rfl (Or.inl ⟨by rfl, by intro W hW; obtain ⟨hhv2, hhv4, hhv3, hhv1⟩ := hW; have y9 := (cell_of hhv2 9).trans rfl; go_simp⟩) hS8 ?_
 go_frame
 refine rd1 22 rfl (fun K hK => ?_)
 go_simp
 refine (specAnswer_r a _ _ _ _ _ C _ (HRa.out _ hb8) HSa.out HTa.out).mono ?_
 rintro e w9 ⟨vv, rfl, ownAN, bw⟩
 rw [HAE.out.2.1] at ownAN
 rw [HAE.out.1, HAE.out.2.2]
 obtain ⟨oAN, pAN, rfl⟩ := slice_of_owns ownAN
 rw [HNF.out] at ownAN ⊢
 have hb9 := hbt hb8 bw
 have B1_9 := hblk B1_8 bw
 have B2_9 := hblk B2_8 bw
 have B3_9 := hblk B3_8 bw
 have B4_9 := hblk B4_8 bw
 have HOAN_9 := hwd ownAN hb8.size
 clear ownAN
 clear hb8 bw
 have hS9 := And.intro B2_9.out (And.intro B4_9.out (And.intro B3_9.out B1_9.out))
 refine hK.out _ _ hS9 (fun _ => ?_)
 clear hK K hS8
 refine rd1 23 rfl (fun K hK => ?_)
 go_simp
 refine (l17Resp_any a.rst rS _ _ _ nF C w.heap.size a.rfs rF a.rbd rB _ (rpR_r (HRa.out _ hb9)) (FieldsV.of_owns (show World.ownsRow _ _ _ _ _ rF.length _ by rw [HNF.out]; exact HOAN_9.out) |> (fun h => by rw [HNF.out] at h; exact h)) (by omega) bnF).mono ?_
 rintro e w10 ⟨ur, rfl, hur, bw⟩
 have hb10 := hbt hb9 bw
 have HOAN_10 := hown HOAN_9 bw
 have B1_10 := hblk B1_9 bw
 have B2_10 := hblk B2_9 bw
 have B3_10 := hblk B3_9 bw
 have B4_10 := hblk B4_9 bw
 clear hb9 bw
 have hS10 := And.intro B2_10.out (And.intro B4_10.out (And.intro B3_10.out B1_10.out))
 refine hK.out _ _ hS10 (fun _ => ?_)
 clear hK K hS9
 refine tkP 24 (.bool ur) 65 rfl rfl hS10 (tkP 25 (.bool ur) 66 rfl rfl hS10 ?_)
 go_frame
 cases ur
 ·have HNur : Hid (¬ (SameRP a.rst a.rfs a.rbd rS rF rB)) := fun h => nomatch hur.2 h
  clear hur
  refine tkN 26 67 rfl rfl hS10 (tkN 27 68 rfl rfl hS10 (tkN 28 69 rfl rfl hS10 ?_))
  go_frame
  refine tkN 29 70 rfl rfl hS10 (tkP 30 (.bool false) 71 rfl rfl hS10 (tkP 31 (.bool false) 4 rfl rfl hS10 ?_))
  go_frame
  clear hS10
  refine wdn ?_
  go_wp2_with fail
  go_ret
  exact BoolIs.no (fun h => HNur.out (HANS.out.1 h.2.2.2.2.1)) hb10
 have HYur : Hid (SameRP a.rst a.rfs a.rbd rS rF rB) := hur.1 rfl
 clear hur
 refine tkL 26 (.agg #[.slice o1 c.s.cs.length c1, .slice o2 c.s.ws.length c2, .slice o3 n3 c3, .slice o4 n4 c4, .int .i64 c.s.nx, .int .i64 c.s.sq, .slice o5 n5 c5, .int .i64 c.now, .slice o6 n6 c6, .slice o7 n7 c7]) 67 rfl rfl (Or.inl ⟨by rfl, by intro W hW; obtain ⟨hhv2, hhv4, hhv3, hhv1⟩ := hW; have y0 := (cell_of hhv1 0).trans rfl; have y1 := (cell_of hhv1 1).trans rfl; have y2 := (cell_of hhv1 2).trans rfl; have y3 := (cell_of hhv1 3).trans rfl; have y4 := (cell_of hhv1 4).trans rfl; have y5 := (cell_of hhv1 5).trans rfl; have y6 := (cell_of hhv1 6).trans rfl; have y7 := (cell_of hhv1 7).trans rfl; have y8 := (cell_of hhv1 8).trans rfl; have y9 := (cell_of hhv1 9).trans rfl; go_simp⟩) hS10 ?_
 go_frame
 refine tkL 27 (.agg #[.int .i64 a.cli, .int .i64 a.qmt, .string a.qpa, .slice ka3 a.qfs.length kac3, .string a.qbd, .int .i64 a.rst, .slice ka6 a.rfs.length kac6, .string a.rbd, .int .i64 a.knd, .int .i64 a.tim, .string a.opa, .slice ka11 a.oxs.length kac11, .slice ka12 a.oys.length kac12, .int .i64 a.ost, .slice ka14 a.ofs.length kac14, .string a.obd, .int .i64 a.otm, .int .i64 a.bns]) 68 rfl rfl (yieldsIf_load_mid (by rfl) 64 _ rfl q2 0 rfl [.int .i64 a.cli, .int .i64 a.qmt, .string a.qpa, .slice ka3 a.qfs.length kac3, .string a.qbd, .int .i64 a.rst, .slice ka6 a.rfs.length kac6, .string a.rbd, .int .i64 a.knd, .int .i64 a.tim, .string a.opa, .slice ka11 a.oxs.length kac11, .slice ka12 a.oys.length kac12, .int .i64 a.ost, .slice ka14 a.ofs.length kac14, .string a.obd, .int .i64 a.otm, .int .i64 a.bns] _ (fun W hW => by obtain ⟨hhv2, hhv4, hhv3, hhv1⟩ := hW; exact range_of hhv2) Tryz.underlying64 rfl (by kernel_rfl)) hS10 ?_
 go_frame
 refine rd1 28 rfl (fun K hK => ?_)
 go_simp
 refine (specComes_any _ _ _ _ _ _ _ kv fv ev rv c B _ (HCA.out _ hb10) HZ.out a _ _ _ _ _ C (HRa.out _ hb10) HSa.out).mono ?_
 rintro e w11 ⟨rr, rfl, hla, bw⟩
 have HLA : Hid (0 ≤ rr ↔ GivenP c.se a) := hla.given
 clear hla
 have hb11 := hbt hb10 bw
 have HOAN_11 := hown HOAN_10 bw
 have B1_11 := hblk B1_10 bw
 have B2_11 := hblk B2_10 bw
 have B3_11 := hblk B3_10 bw
 have B4_11 := hblk B4_10 bw
 clear hb10 bw
 have hS11 := And.intro B2_11.out (And.intro B4_11.out (And.intro B3_11.out B1_11.out))
 refine hK.out _ _ hS11 (fun _ => ?_)
 clear hK K hS10
 by_cases hc3 : 0 ≤ rr
 rotate_left
 ·have HRR := hid hc3
  refine tkP 29 (.bool false) 70 rfl rfl hS11 (tkP 30 (.bool false) 71 rfl rfl hS11 (tkP 31 (.bool false) 4 rfl rfl hS11 ?_))
  go_frame
  clear hS11
  refine wdn ?_
  go_wp2_with fail
  go_ret
  exact BoolIs.no (fun h => by have h1 := HLA.out.2 h.2.2.2.2.2; have h2 := HRR.out; omega) hb11
 have HRR : Hid (0 ≤ rr) := hc3
 refine tkP 29 (.bool true) 70 rfl rfl hS11 (tkP 30 (.bool true) 71 rfl rfl hS11 (tkP 31 (.bool true) 4 rfl rfl hS11 ?_))
 go_frame
 clear hS11
 refine wdn ?_
 go_wp2_with fail
 go_ret
 exact BoolIs.yes ⟨HYff.out, HPE.out, HYsu.out, ⟨HME.out, HX1.out, HX0.out⟩, HANS.out.2 HYur.out, HLA.out.1 (by have h2 := HRR.out; omega)⟩ hb11
theorem specJudgeHere_any (v1 v2 V VB F E R : Value) (kv : Ks) (fv : List FlV) (ev : List SeV) (rv : List RpV) (c : CaD) (B : Nat) (w : World) (h : CacheO w B v1 v2 V VB F E R kv fv ev rv c) (hz : CaSmall c) (ht : TimesOk c) :
  Calls Tryz.prog 5 #[.agg #[v1, v2, V, VB, .int .i64 c.s.nx, .int .i64 c.s.sq, F, .int .i64 c.now, E, R]] w fun e w' => BoolIs (JHereP c) w e w' := by
 obtain ⟨o1, c1, rfl⟩ := slice_of_owns h.shelf.disk.cells
 obtain ⟨o2, c2, rfl⟩ := slice_of_owns h.shelf.disk.pend
 obtain ⟨o3, c3, rfl⟩ := h.shelf.kept.len
 obtain ⟨o4, c4, rfl⟩ := slice_of_owns h.shelf.bans
 obtain ⟨o5, c5, rfl⟩ := h.fls.len
 obtain ⟨o6, c6, rfl⟩ := h.ses.len
 obtain ⟨o7, c7, rfl⟩ := h.rps.len
 obtain ⟨n3, hn3⟩ := exq kv.length
 obtain ⟨n4, hn4⟩ := exq (c.s.bl.length)
 obtain ⟨n5, hn5⟩ := exq fv.length
 obtain ⟨n6, hn6⟩ := exq ev.length
 obtain ⟨n7, hn7⟩ := exq rv.length
 rw [← hn3, ← hn4, ← hn5, ← hn6, ← hn7] at h ⊢
 have HLK : Hid (kv.length = n3) := hn3.symm
 have HLB : Hid (c.s.bl.length = n4) := hn4.symm
 have HLF : Hid (fv.length = n5) := hn5.symm
 have HLE : Hid (ev.length = n6) := hn6.symm
 have HLR : Hid (rv.length = n7) := hn7.symm
 have HLC : Hid (c.fl.length = n5 ∧ c.se.length = n6 ∧ c.sn.length = n7 ∧ c.s.ks.length = n3) := ⟨by rw [← h.hf, List.length_map, hn5], by rw [← h.he, List.length_map, hn6], by rw [← h.hr, List.length_map, hn7], by rw [← h.hk, List.length_map, hn3]⟩
 have HFD : Hid (fv.map (·.d) = c.fl) := h.hf
 have HED : Hid (ev.map (·.d) = c.se) := h.he
 have HRD : Hid (rv.map (·.d) = c.sn) := h.hr
 have HKS : Hid (kv.map (·.1) = c.s.ks) := h.hk
 have HZ := hid hz
 have bn3 : n3 ≤ 1048576 := by rw [← HLC.out.2.2.2]; exact hz.s.k
 have bn4 : n4 ≤ 1048576 := by rw [← HLB.out]; exact hz.s.b
 have bn5 : n5 ≤ 1048576 := by rw [← HLC.out.1]; exact hz.nf
 have bn6 : n6 ≤ 1048576 := by rw [← HLC.out.2.1]; exact hz.ne
 have bn7 : n7 ≤ 1048576 := by rw [← HLC.out.2.2.1]; exact hz.nr
 have HCA : Hid (∀ W, Below w.heap.size w W → CacheO W B (.slice o1 c.s.cs.length c1) (.slice o2 c.s.ws.length c2) (.slice o3 n3 c3) (.slice o4 n4 c4) (.slice o5 n5 c5) (.slice o6 n6 c6) (.slice o7 n7 c7) kv fv ev rv c) := fun W hb => h.below hb
 have HKP : Hid (∀ W, Below w.heap.size w W → KeptsO W B (.slice o3 n3 c3) kv) := fun W hb => (h.below hb).shelf.kept
 have HBN : Hid (∀ W, Below w.heap.size w W → BanA W o4 n4 c.s.bl) := fun W hb => by
  have h1 := (h.below hb).shelf.bans
  rw [HLB.out] at h1
  exact ban_view h1
 have HC4 : Hid (n4 ≤ c4) := by
  have h1 := h.shelf.bans
  rw [HLB.out] at h1
  exact owns_cap h1
 clear hn3 hn4 hn5 hn6 hn7 h hz
 have HTI := hid ht
 clear ht
 have hb0 := Below.refl w.heap.size w
 go_enter Tryz.func5, Tryz.ntmps5
 go_upto_region 1 with fail
 obtain ⟨q1, hq1⟩ := exq (w.heap.size)
 obtain ⟨w1, hW1⟩ := exq (w.alloc (.cells #[.slice o1 c.s.cs.length c1, .slice o2 c.s.ws.length c2, .slice o3 n3 c3, .slice o4 n4 c4, .int .i64 c.s.nx, .int .i64 c.s.sq, .slice o5 n5 c5, .int .i64 c.now, .slice o6 n6 c6, .slice o7 n7 c7] 48))
 have hz1 := hq1.symm
 rw [← hW1]; try rw [← hq1]
 have hs1 := hsa hW1 hz1
 have bw := bal hW1
 have hb1 := hbt hb0 bw
 have B1_1 := hnew hW1 hz1
 clear hb0 bw hW1 hz1
 clear hs1 hq1
 have c1_0 := (k10c B1_1).1
 have c1_1 := (k10c B1_1).2.1
 have c1_2 := (k10c B1_1).2.2.1
 have c1_3 := (k10c B1_1).2.2.2.1
 have c1_4 := (k10c B1_1).2.2.2.2.1
 have c1_5 := (k10c B1_1).2.2.2.2.2.1
 have c1_6 := (k10c B1_1).2.2.2.2.2.2.1
 have c1_7 := (k10c B1_1).2.2.2.2.2.2.2.1
 have c1_8 := (k10c B1_1).2.2.2.2.2.2.2.2.1
 have c1_9 := (k10c B1_1).2.2.2.2.2.2.2.2.2
 go_wp2_with fail
 refine (specCacheOk_any _ _ _ _ _ _ _ kv fv ev rv c B _ (HCA.out _ hb1) HZ.out).mono ?_
 rintro e w2 ⟨us, rfl, hus, bw⟩
 have hb2 := hbt hb1 bw
 have B1_2 := hblk B1_1 bw
 clear hb1 bw
 clear c1_0 c1_1 c1_2 c1_3 c1_4 c1_5 c1_6 c1_7 c1_8 c1_9
 cases us
 ·have HNus : Hid (¬ (CacheP c)) := fun h => nomatch hus.2 h
  clear hus
  go_wp2_with fail
  go_ret
  exact BoolIs.no (fun h => HNus.out h.1) hb2
 have HYus : Hid (CacheP c) := hus.1 rfl
 clear hus
 go_wp2_with fail
 obtain ⟨wA, hwA⟩ := exq w2
 rw [← hwA] at hb2 B1_2 ⊢
 clear hwA
 go_loopw [3] (fun i wr => ∃ i' : Nat, i' ≤ n7 ∧ i = .int .i64 (i' : Int) ∧ Hid (Below w.heap.size w (wr) ∧ wr.heap[q1]? = some (.cells #[.slice o1 c.s.cs.length c1, .slice o2 c.s.ws.length c2, .slice o3 n3 c3, .slice o4 n4 c4, .int .i64 c.s.nx, .int .i64 c.s.sq, .slice o5 n5 c5, .int .i64 c.now, .slice o6 n6 c6, .slice o7 n7 c7] 48)) ∧ Hid (∀ m, m < i' → (rpAt c.sn m).knd = 1 → HereRP c (rpAt c.sn m))) (fun i _ => n7 - (intOf i).toNat)
 case atStart => exact ⟨0, Nat.zero_le _, rfl, ⟨hb2, B1_2.out⟩, fun m hm => absurd hm (by omega)⟩
 case round =>
  obtain ⟨i, hi, rfl, HW, HN⟩ := hrel
  by_cases hlt : (i : Int) < (n7 : Int)
  rotate_left
  ·have hb3 := HW.out.1
   have B1_3 := hid HW.out.2
   clear HW hb2
   have HFA : Hid (EachHere (HereRP c) c.sn) := fun m hm => HN.out m (by rw [HLC.out.2.2.1] at hm; omega)
   clear HN
   have c1_9 := (k10c B1_3).2.2.2.2.2.2.2.2.2
   go_wp2_with fail
   go_ret
   exact BoolIs.yes ⟨HYus.out, trivial, HFA.out⟩ hb3
  have hb3 := HW.out.1
  have B1_3 := hid HW.out.2
  clear HW hb2
  have HTM : Hid (∀ x ∈ rv, TimesR x.d) := fun x hx => HTI.out _ (by rw [← HRD.out]; exact List.mem_map.2 ⟨x, hx, rfl⟩)
  obtain ⟨g7, p7, hV, _, _⟩ := (HCA.out _ hb3).rps.look i (by rw [HLR.out]; omega)
  rw [HLR.out] at hV
  injection hV with hV1 hV2 hV3
  subst hV1 hV3
  clear hV2
  obtain ⟨dX, hdX⟩ := exq (rpvAt rv i)
  have HMd : Hid (dX ∈ rv) := by show _ ∈ _; rw [hdX]; exact getD_mem0 _ rv i (by rw [HLR.out]; omega)
  have HEd : Hid (rpAt c.sn i = dX.d) := by show _ = _; rw [hdX, ← HRD.out]; exact getD_map0 _ _ _ rv i (by rw [HLR.out]; omega)
  have HKd : Hid (∀ W, Below w.heap.size w W → RpAt W g7 i dX) := fun W hb => by
   obtain ⟨g', p', hV, _, hc⟩ := (HCA.out W hb).rps.look i (by rw [HLR.out]; omega)
   injection hV with hV1 _ _
   cases hV1
   rw [hdX]
   exact hc
  have HRd : Hid (∀ W, Below w.heap.size w W → RowsO W B (rpR dX)) := fun W hb => (HCA.out W hb).rps.item HMd.out
  have HSd : Hid (RpSmall dX.d) := HZ.out.sn _ (by rw [← HRD.out]; exact List.mem_map.2 ⟨_, HMd.out, rfl⟩)
  clear hdX
  obtain ⟨d, kuv3, kuv6, kuv11, kuv12, kuv14⟩ := dX
  obtain ⟨ku3, kc3, hu⟩ := slice_of_owns ((HRd.out _ hb3).own (⟨185, 2, kuv3, d.qfs.length, flatF d.qfs⟩ : Rw) (by simp [rpR]))
  obtain rfl : kuv3 = .slice ku3 d.qfs.length kc3 := hu
  obtain ⟨ku6, kc6, hu⟩ := slice_of_owns ((HRd.out _ hb3).own (⟨185, 2, kuv6, d.rfs.length, flatF d.rfs⟩ : Rw) (by simp [rpR]))
  obtain rfl : kuv6 = .slice ku6 d.rfs.length kc6 := hu
  obtain ⟨ku11, kc11, hu⟩ := slice_of_owns ((HRd.out _ hb3).own (⟨9, 1, kuv11, d.oxs.length, d.oxs.map Value.string⟩ : Rw) (by simp [rpR]))
  obtain rfl : kuv11 = .slice ku11 d.oxs.length kc11 := hu
  obtain ⟨ku12, kc12, hu⟩ := slice_of_owns ((HRd.out _ hb3).own (⟨9, 1, kuv12, d.oys.length, d.oys.map Value.string⟩ : Rw) (by simp [rpR]))
  obtain rfl : kuv12 = .slice ku12 d.oys.length kc12 := hu
  obtain ⟨ku14, kc14, hu⟩ := slice_of_owns ((HRd.out _ hb3).own (⟨185, 2, kuv14, d.ofs.length, flatF d.ofs⟩ : Rw) (by simp [rpR]))
  obtain rfl : kuv14 = .slice ku14 d.ofs.length kc14 := hu
  have HTd : Hid (TimesR d) := HTM.out _ HMd.out
  clear HTM
  have hin : ¬ n7 ≤ i := by omega
  have HEL7 : Hid (∀ W, Below w.heap.size w W → (W.cell? ⟨g7, i * 18, none⟩ = some (.int .i64 d.cli) ∧ W.cell? ⟨g7, i * 18 + 1, none⟩ = some (.int .i64 d.qmt) ∧ W.cell? ⟨g7, i * 18 + 2, none⟩ = some (.string d.qpa) ∧ W.cell? ⟨g7, i * 18 + 3, none⟩ = some (.slice ku3 d.qfs.length kc3) ∧ W.cell? ⟨g7, i * 18 + 4, none⟩ = some (.string d.qbd) ∧ W.cell? ⟨g7, i * 18 + 5, none⟩ = some (.int .i64 d.rst) ∧ W.cell? ⟨g7, i * 18 + 6, none⟩ = some (.slice ku6 d.rfs.length kc6) ∧ W.cell? ⟨g7, i * 18 + 7, none⟩ = some (.string d.rbd) ∧ W.cell? ⟨g7, i * 18 + 8, none⟩ = some (.int .i64 d.knd) ∧ W.cell? ⟨g7, i * 18 + 9, none⟩ = some (.int .i64 d.tim) ∧ W.cell? ⟨g7, i * 18 + 10, none⟩ = some (.string d.opa) ∧ W.cell? ⟨g7, i * 18 + 11, none⟩ = some (.slice ku11 d.oxs.length kc11) ∧ W.cell? ⟨g7, i * 18 + 12, none⟩ = some (.slice ku12 d.oys.length kc12) ∧ W.cell? ⟨g7, i * 18 + 13, none⟩ = some (.int .i64 d.ost) ∧ W.cell? ⟨g7, i * 18 + 14, none⟩ = some (.slice ku14 d.ofs.length kc14) ∧ W.cell? ⟨g7, i * 18 + 15, none⟩ = some (.string d.obd) ∧ W.cell? ⟨g7, i * 18 + 16, none⟩ = some (.int .i64 d.otm) ∧ W.cell? ⟨g7, i * 18 + 17, none⟩ = some (.int .i64 d.bns))) := fun W hb => by
   have c := HKd.out W hb
   exact ⟨c.c0, c.c1, c.c2, c.c3, c.c4, c.c5, c.c6, c.c7, c.c8, c.c9, c.c10, c.c11, c.c12, c.c13, c.c14, c.c15, c.c16, c.c17⟩
  have c1_9 := (k10c B1_3).2.2.2.2.2.2.2.2.2
  go_upto_region 6 with fail
  clear c1_9
  refine wp_region_held_drew (S := fun W => W.heap[q1]? = some (.cells #[.slice o1 c.s.cs.length c1, .slice o2 c.s.ws.length c2, .slice o3 n3 c3, .slice o4 n4 c4, .int .i64 c.s.nx, .int .i64 c.s.sq, .slice o5 n5 c5, .int .i64 c.now, .slice o6 n6 c6, .slice (some ⟨g7, 0, none⟩) n7 c7] 48) ∧ (W.cell? ⟨g7, i * 18, none⟩ = some (.int .i64 d.cli) ∧ W.cell? ⟨g7, i * 18 + 1, none⟩ = some (.int .i64 d.qmt) ∧ W.cell? ⟨g7, i * 18 + 2, none⟩ = some (.string d.qpa) ∧ W.cell? ⟨g7, i * 18 + 3, none⟩ = some (.slice ku3 d.qfs.length kc3) ∧ W.cell? ⟨g7, i * 18 + 4, none⟩ = some (.string d.qbd) ∧ W.cell? ⟨g7, i * 18 + 5, none⟩ = some (.int .i64 d.rst) ∧ W.cell? ⟨g7, i * 18 + 6, none⟩ = some (.slice ku6 d.rfs.length kc6) ∧ W.cell? ⟨g7, i * 18 + 7, none⟩ = some (.string d.rbd) ∧ W.cell? ⟨g7, i * 18 + 8, none⟩ = some (.int .i64 d.knd) ∧ W.cell? ⟨g7, i * 18 + 9, none⟩ = some (.int .i64 d.tim) ∧ W.cell? ⟨g7, i * 18 + 10, none⟩ = some (.string d.opa) ∧ W.cell? ⟨g7, i * 18 + 11, none⟩ = some (.slice ku11 d.oxs.length kc11) ∧ W.cell? ⟨g7, i * 18 + 12, none⟩ = some (.slice ku12 d.oys.length kc12) ∧ W.cell? ⟨g7, i * 18 + 13, none⟩ = some (.int .i64 d.ost) ∧ W.cell? ⟨g7, i * 18 + 14, none⟩ = some (.slice ku14 d.ofs.length kc14) ∧ W.cell? ⟨g7, i * 18 + 15, none⟩ = some (.string d.obd) ∧ W.cell? ⟨g7, i * 18 + 16, none⟩ = some (.int .i64 d.otm) ∧ W.cell? ⟨g7, i * 18 + 17, none⟩ = some (.int .i64 d.bns))) (by kernel_rfl) ⟨B1_3.out, (by first | exact HEL7.out _ hb3 | exact HEL7.out _ hb3.drew)⟩ (fun _ => ?_)
  obtain ⟨w4, hX⟩ := exq wr.drew
  have bw := bdr hX
  rw [← hX]
  have hb4 := hbt hb3 bw
  have B1_4 := hblk B1_3 bw
  have hS4 := And.intro B1_4.out (HEL7.out _ hb4)
  clear hb3 bw hX
  refine tkP 0 (.pointer (some ⟨q1, 9, none⟩)) 14 rfl rfl hS4 ?_
  go_frame
  refine tkL 1 (.slice (some ⟨g7, 0, none⟩) n7 c7) 15 rfl rfl (Or.inl ⟨by rfl, by intro W hW; obtain ⟨hhv1, hhE_7⟩ := hW; have y9 := (cell_of hhv1 9).trans rfl; go_simp⟩) hS4 ?_
  go_frame
  refine tkP 2 (.int .i64 (i : Int)) 16 rfl rfl hS4 (tkP 3 (.pointer (some ⟨g7, i * 18, none⟩)) 17 rfl rfl hS4 (tkP 4 (.pointer (some ⟨g7, i * 18 + 8, none⟩)) 18 rfl rfl hS4 ?_))
  go_frame
  refine tkL 5 (.int .i64 d.knd) 19 rfl rfl (Or.inl ⟨by rfl, by intro W hW; obtain ⟨hhv1, hhE_7⟩ := hW; have y8 := hhE_7.2.2.2.2.2.2.2.2.1; go_simp⟩) hS4 ?_
  go_frame
  by_cases hc1 : d.knd = 1
  rotate_left
  ·have hc1b : ((d.knd : Int) == (1 : Int)) = false := by simpa using hc1
   have hc1n : ((d.knd : Int) != (1 : Int)) = true := by simpa using hc1
   have HKN := hid hc1
   have hc1H := hid hc1
   clear hc1
   refine tkP 6 (.bool false) 20 rfl rfl hS4 (tkP 7 (.bool false) 21 rfl rfl hS4 (tkN 8 22 rfl rfl hS4 ?_))
   go_frame
   refine tkN 9 23 rfl rfl hS4 (tkN 10 24 rfl rfl hS4 (tkN 11 25 rfl rfl hS4 ?_))
   go_frame
   refine tkN 12 26 rfl rfl hS4 (tkN 13 27 rfl rfl hS4 (tkN 14 28 rfl rfl hS4 ?_))
   go_frame
   refine tkN 15 29 rfl rfl hS4 (tkP 16 (.bool false) 30 rfl rfl hS4 ?_)
   go_frame
   clear hS4
   refine wdn ?_
   have HN2 : Hid (∀ m, m < i + 1 → (rpAt c.sn m).knd = 1 → HereRP c (rpAt c.sn m)) := fun m' hm' => by
    by_cases e : m' = i
    ·subst e
     exact fun h1 => by rw [HEd.out] at h1; exact absurd h1 HKN.out
    · exact HN.out m' (by omega)
   go_wp2_with fail
   go_roundw
   case rel => exact ⟨i + 1, by omega, by go_num, ⟨hb4, B1_4.out⟩, HN2⟩
   case measure => simp [intOf]; omega
  have hc1b : ((d.knd : Int) == (1 : Int)) = true := by simpa using hc1
  have hc1n : ((d.knd : Int) != (1 : Int)) = false := by simpa using hc1
  have HKN := hid hc1
  have hc1H := hid hc1
  clear hc1
  refine tkP 6 (.bool true) 20 rfl rfl hS4 (tkP 7 (.bool true) 21 rfl rfl hS4 ?_)
  go_frame
  refine tkL 8 (.agg #[.slice o1 c.s.cs.length c1, .slice o2 c.s.ws.length c2, .slice o3 n3 c3, .slice o4 n4 c4, .int .i64 c.s.nx, .int .i64 c.s.sq, .slice o5 n5 c5, .int .i64 c.now, .slice o6 n6 c6, .slice (some ⟨g7, 0, none⟩) n7 c7]) 22 rfl rfl (Or.inl ⟨by rfl, by intro W hW; obtain ⟨hhv1, hhE_7⟩ := hW; have y0 := (cell_of hhv1 0).trans rfl; have y1 := (cell_of hhv1 1).trans rfl; have y2 := (cell_of hhv1 2).trans rfl; have y3 := (cell_of hhv1 3).trans rfl; have y4 := (cell_of hhv1 4).trans rfl; have y5 := (cell_of hhv1 5).trans rfl; have y6 := (cell_of hhv1 6).trans rfl; have y7 := (cell_of hhv1 7).trans rfl; have y8 := (cell_of hhv1 8).trans rfl; have y9 := (cell_of hhv1 9).trans rfl; go_simp⟩) hS4 ?_
  go_frame
  refine tkP 9 (.pointer (some ⟨q1, 9, none⟩)) 23 rfl rfl hS4 ?_
  go_frame
  refine tkL 10 (.slice (some ⟨g7, 0, none⟩) n7 c7) 24 rfl rfl (Or.inl ⟨by rfl, by intro W hW; obtain ⟨hhv1, hhE_7⟩ := hW; have y9 := (cell_of hhv1 9).trans rfl; go_simp⟩) hS4 ?_
  go_frame
  refine tkP 11 (.int .i64 (i : Int)) 25 rfl rfl hS4 (tkP 12 (.pointer (some ⟨g7, i * 18, none⟩)) 26 rfl rfl hS4 ?_)
  go_frame
  refine tkL 13 (.agg #[.int .i64 d.cli, .int .i64 d.qmt, .string d.qpa, .slice ku3 d.qfs.length kc3, .string d.qbd, .int .i64 d.rst, .slice ku6 d.rfs.length kc6, .string d.rbd, .int .i64 d.knd, .int .i64 d.tim, .string d.opa, .slice ku11 d.oxs.length kc11, .slice ku12 d.oys.length kc12, .int .i64 d.ost, .slice ku14 d.ofs.length kc14, .string d.obd, .int .i64 d.otm, .int .i64 d.bns]) 27 rfl rfl (yieldsIf_load_mid (by rfl) 64 _ rfl g7 (i * 18) rfl [.int .i64 d.cli, .int .i64 d.qmt, .string d.qpa, .slice ku3 d.qfs.length kc3, .string d.qbd, .int .i64 d.rst, .slice ku6 d.rfs.length kc6, .string d.rbd, .int .i64 d.knd, .int .i64 d.tim, .string d.opa, .slice ku11 d.oxs.length kc11, .slice ku12 d.oys.length kc12, .int .i64 d.ost, .slice ku14 d.ofs.length kc14, .string d.obd, .int .i64 d.otm, .int .i64 d.bns] _ (fun W hW => by obtain ⟨hhv1, hhE_7⟩ := hW; exact range_cons (hhE_7.1) (range_cons (hhE_7.2.1) (range_cons (hhE_7.2.2.1) (range_cons (hhE_7.2.2.2.1) (range_cons (hhE_7.2.2.2.2.1) (range_cons (hhE_7.2.2.2.2.2.1) (range_cons (hhE_7.2.2.2.2.2.2.1) (range_cons (hhE_7.2.2.2.2.2.2.2.1) (range_cons (hhE_7.2.2.2.2.2.2.2.2.1) (range_cons (hhE_7.2.2.2.2.2.2.2.2.2.1) (range_cons (hhE_7.2.2.2.2.2.2.2.2.2.2.1) (range_cons (hhE_7.2.2.2.2.2.2.2.2.2.2.2.1) (range_cons (hhE_7.2.2.2.2.2.2.2.2.2.2.2.2.1) (range_cons (hhE_7.2.2.2.2.2.2.2.2.2.2.2.2.2.1) (range_cons (hhE_7.2.2.2.2.2.2.2.2.2.2.2.2.2.2.1) (range_cons (hhE_7.2.2.2.2.2.2.2.2.2.2.2.2.2.2.2.1) (range_cons (hhE_7.2.2.2.2.2.2.2.2.2.2.2.2.2.2.2.2.1) (range_cons (hhE_7.2.2.2.2.2.2.2.2.2.2.2.2.2.2.2.2.2) (range_nil _ _ _))))))))))))))))))) Tryz.underlying64 rfl (by kernel_rfl)) hS4 ?_
  go_frame
  refine rd1 14 rfl (fun K hK => ?_)
  go_simp
  refine (l17Here_any _ _ _ _ _ _ _ kv fv ev rv c B _ (HCA.out _ hb4) HZ.out d _ _ _ _ _ B (HRd.out _ hb4) HSd.out HTd.out).mono ?_
  rintro e w5 ⟨uh, rfl, huh, bw⟩
  have hb5 := hbt hb4 bw
  have B1_5 := hblk B1_4 bw
  clear hb4 bw
  have hS5 := And.intro B1_5.out (HEL7.out _ hb5)
  refine hK.out _ _ hS5 (fun _ => ?_)
  clear hK K hS4
  cases uh
  ·have HNuh : Hid (¬ (HereRP c d)) := fun h => nomatch huh.2 h
   clear huh
   refine tkP 15 (.bool true) 29 rfl rfl hS5 (tkP 16 (.bool true) 30 rfl rfl hS5 ?_)
   go_frame
   clear hS5
   refine wdn ?_
   go_wp2_with fail
   go_ret
   exact BoolIs.no (fun h => by have h1 := h.2.2 i (by rw [HLC.out.2.2.1]; omega) (by rw [HEd.out]; exact HKN.out); rw [HEd.out] at h1; exact HNuh.out h1) hb5
  have HYuh : Hid (HereRP c d) := huh.1 rfl
  clear huh
  refine tkP 15 (.bool false) 29 rfl rfl hS5 (tkP 16 (.bool false) 30 rfl rfl hS5 ?_)
  go_frame
  clear hS5
  refine wdn ?_
  have HN2 : Hid (∀ m, m < i + 1 → (rpAt c.sn m).knd = 1 → HereRP c (rpAt c.sn m)) := fun m' hm' => by
   by_cases e : m' = i
   ·subst e
    exact fun _ => by rw [HEd.out]; exact HYuh.out
   · exact HN.out m' (by omega)
  go_wp2_with fail
  go_roundw
  case rel => exact ⟨i + 1, by omega, by go_num, ⟨hb5, B1_5.out⟩, HN2⟩
  case measure => simp [intOf]; omega
end Go.Proofs.YtpacdigfnneoeaaGreatDoor
namespace Go.Proofs.YtpacdigfnneoeaaGreatDoor
open Go.RowKit Go.WideShapes
open Go.Lib hiding intOf
theorem objCells {H : Type} {enc : TypeId × Value → H} {W : World} {fuel : Nat} {d0 d1 d2 d3 d4 d5 d6 : Value} {x : DataW H × List MemPlace} (hf : DataW.trod enc Tryz.prog W 0 (fun _ => true) true fuel 89 [d0, d1, d2, d3, d4, d5, d6] = some x) :
  ∃ (p : Tx) (a1 : Oa) (n1 c1 : Nat) (xs : Ts) (a2 : Oa) (n2 c2 : Nat) (ys : Ts) (st : Int) (a3 : Oa) (n3 c3 : Nat) (fs : Fs) (b : Tx) (t : Int), (d0 = .string p ∧ d1 = .slice a1 n1 c1 ∧ d2 = .slice a2 n2 c2 ∧ d3 = .int .i64 st ∧ d4 = .slice a3 n3 c3 ∧ d5 = .string b ∧ d6 = .int .i64 t) ∧ ArgT W W.heap.size a1 n1 xs ∧ ArgT W W.heap.size a2 n2 ys ∧ ArgF W W.heap.size a3 n3 fs ∧ n1 ≤ maxLen ∧ n2 ≤ maxLen ∧ n3 ≤ maxLen ∧ (∀ i, i < n1 → (textAt xs i).size ≤ maxLen) ∧ (∀ i, i < n2 → (textAt ys i).size ≤ maxLen) ∧ WalkF n3 fs ∧ p.size ≤ maxLen ∧ b.size ≤ maxLen := by
 obtain ⟨ys, q, _, _, _, hyl, hg⟩ := DataW.trod_struct Tryz.underlying89 hf
 have hcR : Tryz.prog.cellsOf 87 = 3 := by kernel_rfl
 have e3 : Tryz.prog.cellsOf 3 = 1 := by kernel_rfl
 have e9 : Tryz.prog.cellsOf 9 = 1 := by kernel_rfl
 have eL : Tryz.prog.cellsOf 82 = 1 := by kernel_rfl
 have eS : Tryz.prog.cellsOf 22 = 1 := by kernel_rfl
 have g0 := hg 0 _ rfl
 have g1 := hg 1 _ rfl
 have g2 := hg 2 _ rfl
 have g3 := hg 3 _ rfl
 have g4 := hg 4 _ rfl
 simp [e3, e9, eS, hcR] at g0 g1 g2 g3 g4
 have hy5 : ys.length = 5 := hyl
 rw [List.getElem?_eq_getElem (show 0 < ys.length by omega)] at g0
 rw [List.getElem?_eq_getElem (show 1 < ys.length by omega)] at g1
 rw [List.getElem?_eq_getElem (show 2 < ys.length by omega)] at g2
 rw [List.getElem?_eq_getElem (show 3 < ys.length by omega)] at g3
 rw [List.getElem?_eq_getElem (show 4 < ys.length by omega)] at g4
 obtain ⟨zs, q2, _, _, _, hzl, hk⟩ := DataW.trod_struct Tryz.underlying87 g3
 have k0 := hk 0 _ rfl
 have k1 := hk 1 _ rfl
 have k2 := hk 2 _ rfl
 simp [e3, e9, eL] at k0 k1 k2
 have hz3 : zs.length = 3 := hzl
 rw [List.getElem?_eq_getElem (show 0 < zs.length by omega)] at k0
 rw [List.getElem?_eq_getElem (show 1 < zs.length by omega)] at k1
 rw [List.getElem?_eq_getElem (show 2 < zs.length by omega)] at k2
 obtain ⟨p, hp, _, hps⟩ := DataW.trod_string Tryz.underlying9 g0
 obtain ⟨t, ht, _, _⟩ := DataW.trod_int Tryz.underlying3 g4
 obtain ⟨st, hst, _, _⟩ := DataW.trod_int Tryz.underlying3 k0
 obtain ⟨b, hb, _, hbs⟩ := DataW.trod_string Tryz.underlying9 k2
 obtain ⟨a1, n1, c1, rfl⟩ : ∃ a n cap, d1 = .slice a n cap := by
  rcases DataW.trod_slice Tryz.underlying22 g1 with ⟨h, _⟩ | ⟨a, n, cap, _, _, _, _, h, _⟩
  · exact ⟨none, 0, 0, by simpa using h⟩
  · exact ⟨_, n, cap, by simpa using h⟩
 obtain ⟨a2, n2, c2, rfl⟩ : ∃ a n cap, d2 = .slice a n cap := by
  rcases DataW.trod_slice Tryz.underlying22 g2 with ⟨h, _⟩ | ⟨a, n, cap, _, _, _, _, h, _⟩
  · exact ⟨none, 0, 0, by simpa using h⟩
  · exact ⟨_, n, cap, by simpa using h⟩
 obtain ⟨a3, n3, c3, rfl⟩ : ∃ a n cap, d4 = .slice a n cap := by
  rcases DataW.trod_slice Tryz.underlying82 k1 with ⟨h, _⟩ | ⟨a, n, cap, _, _, _, _, h, _⟩
  · exact ⟨none, 0, 0, by simpa using h⟩
  · exact ⟨_, n, cap, by simpa using h⟩
 obtain ⟨xs, x1, x2, x3⟩ := openTexts g1
 obtain ⟨ws, y1, y2, y3⟩ := openTexts g2
 obtain ⟨fs, z1, z2, z3⟩ := openFields k1
 simp only [List.cons.injEq, and_true] at hp ht hst hb
 subst hp ht hst hb
 exact ⟨p, a1, n1, c1, xs, a2, n2, c2, ws, st, a3, n3, c3, fs, b, t, ⟨rfl, rfl, rfl, rfl, rfl, rfl, rfl⟩, x1, y1, z1, x2, y2, z2, x3, y3, z3, hps, hbs⟩
theorem openKeptS {H : Type} {enc : TypeId × Value → H} {W : World} {fuel : Nat} {a : Oa} {n cap : Nat} {x : DataW H × List MemPlace} (h : DataW.trod enc Tryz.prog W 0 (fun _ => true) true fuel 26 [.slice a n cap] = some x) :
  ∃ ks, ArgKept W W.heap.size a n ks ∧ n ≤ maxLen ∧ ∀ k ∈ ks, KpMax k := by
 rcases Go.Deep.open_slice Tryz.underlying26 h with ⟨hcs, _⟩ | ⟨ad, len, c, m, q, Dd, Pl, hcs, _, hl, hm, hmm, _, hx⟩
 ·simp at hcs
  obtain ⟨rfl, rfl, rfl⟩ := hcs
  exact ⟨[], ⟨rfl, fun i hi => absurd hi (by omega)⟩, Nat.zero_le _, fun x hx => by simp at hx⟩
 ·simp at hcs
  obtain ⟨rfl, rfl, rfl⟩ := hcs
  have hm2 : m = cap := by simpa using hmm
  have ce : Tryz.prog.cellsOf 133 = 9 := by kernel_rfl
  have co : Tryz.prog.cellsOf 89 = 7 := by kernel_rfl
  have ci : Tryz.prog.cellsOf 3 = 1 := by kernel_rfl
  have each : ∀ i, i < n → ∃ y : KpD, (∃ (a1 : Oa) (n1 c1 : Nat) (a2 : Oa) (n2 c2 : Nat) (a3 : Oa) (n3 c3 : Nat), (W.cell? (ad.add (i * 9 + 0)) = some (.string y.p) ∧ W.cell? (ad.add (i * 9 + 1)) = some (.slice a1 n1 c1) ∧ W.cell? (ad.add (i * 9 + 2)) = some (.slice a2 n2 c2) ∧ W.cell? (ad.add (i * 9 + 3)) = some (.int .i64 y.st) ∧ W.cell? (ad.add (i * 9 + 4)) = some (.slice a3 n3 c3) ∧ W.cell? (ad.add (i * 9 + 5)) = some (.string y.b) ∧ W.cell? (ad.add (i * 9 + 6)) = some (.int .i64 y.t) ∧ W.cell? (ad.add (i * 9 + 7)) = some (.int .i64 y.a) ∧ W.cell? (ad.add (i * 9 + 8)) = some (.int .i64 y.q)) ∧ ArgT W W.heap.size a1 n1 y.xs ∧ ArgT W W.heap.size a2 n2 y.ys ∧ ArgF W W.heap.size a3 n3 y.fs) ∧ KpMax y := by
   intro i hi
   obtain ⟨cs', h1, h2⟩ := hx i (by omega)
   rw [ce] at h1
   obtain ⟨_, hlen, hcell⟩ := World.cells?_some h1
   obtain ⟨xs, k, hk, hxy, _, hxl, hf⟩ := DataW.trod_struct Tryz.underlying133 h2
   match xs, hxl, cs', hlen with
   | [x0, x1, x2], _, [v0, v1, v2, v3, v4, v5, v6, v7, v8], _ =>
    have g0 := hf 0 _ rfl
    have g1 := hf 1 _ rfl
    have g2 := hf 2 _ rfl
    simp [ci, co] at g0 g1 g2
    obtain ⟨p, a1, n1, c1, xs, a2, n2, c2, ys, st, a3, n3, c3, fs, b, t, ⟨rfl, rfl, rfl, rfl, rfl, rfl, rfl⟩, w1, w2, w3, m1, m2, m3, s1, s2, s3, s4, s5⟩ := objCells g0
    obtain ⟨ka, e1, _, _⟩ := DataW.trod_int Tryz.underlying3 g1
    obtain ⟨kq, e2, _, _⟩ := DataW.trod_int Tryz.underlying3 g2
    simp only [List.cons.injEq, and_true] at e1 e2
    subst e1 e2
    have c0x := hcell 0 (by omega)
    have c1x := hcell 1 (by omega)
    have c2x := hcell 2 (by omega)
    have c3x := hcell 3 (by omega)
    have c4x := hcell 4 (by omega)
    have c5x := hcell 5 (by omega)
    have c6x := hcell 6 (by omega)
    have c7x := hcell 7 (by omega)
    have c8x := hcell 8 (by omega)
    rw [Go.Deep.add_add] at c0x c1x c2x c3x c4x c5x c6x c7x c8x
    refine ⟨⟨p, xs, ys, st, fs, b, t, ka, kq⟩, ⟨a1, n1, c1, a2, n2, c2, a3, n3, c3, ⟨by simpa using c0x, by simpa using c1x, by simpa using c2x, by simpa using c3x, by simpa using c4x, by simpa using c5x, by simpa using c6x, by simpa using c7x, by simpa using c8x⟩, w1, w2, w3⟩, ?_⟩
    unfold KpMax
    show xs.length ≤ maxLen ∧ ys.length ≤ maxLen ∧ fs.length ≤ maxLen ∧ (∀ i, i < xs.length → (textAt xs i).size ≤ maxLen) ∧ (∀ i, i < ys.length → (textAt ys i).size ≤ maxLen) ∧ WalkF fs.length fs ∧ p.size ≤ maxLen ∧ b.size ≤ maxLen
    rw [w1.len, w2.len, w3.len]
    exact ⟨m1, m2, m3, s1, s2, s3, s4, s5⟩
  haveI : Inhabited KpD := ⟨zeroK⟩
  obtain ⟨q, hq⟩ := Go.Deep.choose_lt each
  have hat : ∀ i, i < n → kpAt ((List.range n).map q) i = q i := fun i hi => by
   unfold kpAt
   rw [List.getD_eq_getElem?_getD, List.getElem?_map, List.getElem?_range hi]
   rfl
  refine ⟨(List.range n).map q, ⟨by simp, fun i hi => ?_⟩, by omega, fun x hx => ?_⟩
  ·obtain ⟨⟨a1, n1, c1, a2, n2, c2, a3, n3, c3, cc, w1, w2, w3⟩, _⟩ := hq i hi
   have hsp : ad.spot = none := by
    obtain ⟨⟨_, _, _, _, _, _, _, _, _, c3, _⟩, _⟩ := hq 0 (by omega)
    have := World.cell?_spot c3.1
    simpa [Addr.add] using this
   obtain ⟨b, off, sp⟩ := ad
   simp only at hsp
   subst hsp
   simp only [addr_add] at cc
   rw [hat i hi]
   have hlt := World.block_lt_of_cell? W _ cc.1
   exact ⟨b, off, rfl, hlt, a1, n1, c1, a2, n2, c2, a3, n3, c3, ⟨by simpa [Nat.add_assoc] using cc.1, by simpa [Nat.add_assoc] using cc.2.1, by simpa [Nat.add_assoc] using cc.2.2.1, by simpa [Nat.add_assoc] using cc.2.2.2.1, by simpa [Nat.add_assoc] using cc.2.2.2.2.1, by simpa [Nat.add_assoc] using cc.2.2.2.2.2.1, by simpa [Nat.add_assoc] using cc.2.2.2.2.2.2.1, by simpa [Nat.add_assoc] using cc.2.2.2.2.2.2.2.1, by simpa [Nat.add_assoc] using cc.2.2.2.2.2.2.2.2⟩, w1, w2, w3⟩
  ·obtain ⟨i, hi, rfl⟩ := List.mem_map.1 hx
   exact (hq i (List.mem_range.1 hi)).2
end Go.Proofs.YtpacdigfnneoeaaGreatDoor
namespace Go.Proofs.YtpacdigfnneoeaaGreatDoor
open Go.RowKit
open Go.Lib hiding intOf
theorem cellsReq {H : Type} {enc : TypeId × Value → H} {W : World} {fuel : Nat} {d0 d1 d2 d3 : Value} {x : DataW H × List MemPlace} (hf : DataW.trod enc Tryz.prog W 0 (fun _ => true) true fuel 84 [d0, d1, d2, d3] = some x) :
  ∃ (mt : Int) (pa : Tx) (fs : Fs) (bd : Tx) (a : Oa) (n cap : Nat), (d0 = .int .i64 mt ∧ d1 = .string pa ∧ d2 = .slice a n cap ∧ d3 = .string bd) ∧ ArgF W W.heap.size a n fs ∧ n ≤ maxLen ∧ WalkF n fs ∧ pa.size ≤ maxLen ∧ bd.size ≤ maxLen := by
 obtain ⟨ys, q, _, _, _, hyl, hg⟩ := DataW.trod_struct Tryz.underlying84 hf
 have e3 : Tryz.prog.cellsOf 3 = 1 := by kernel_rfl
 have e9 : Tryz.prog.cellsOf 9 = 1 := by kernel_rfl
 have eL : Tryz.prog.cellsOf 82 = 1 := by kernel_rfl
 have g0 := hg 0 _ rfl
 have g1 := hg 1 _ rfl
 have g2 := hg 2 _ rfl
 have g3 := hg 3 _ rfl
 simp [e3, e9, eL] at g0 g1 g2 g3
 have hyz : ys.length = 4 := hyl
 rw [List.getElem?_eq_getElem (show 0 < ys.length by omega)] at g0
 rw [List.getElem?_eq_getElem (show 1 < ys.length by omega)] at g1
 rw [List.getElem?_eq_getElem (show 2 < ys.length by omega)] at g2
 rw [List.getElem?_eq_getElem (show 3 < ys.length by omega)] at g3
 obtain ⟨mt, hmt, _, _⟩ := DataW.trod_int Tryz.underlying3 g0
 obtain ⟨pa, hpa, _, spa⟩ := DataW.trod_string Tryz.underlying9 g1
 obtain ⟨a, n, cap, rfl⟩ : ∃ a n cap, d2 = .slice a n cap := by
  rcases DataW.trod_slice Tryz.underlying82 g2 with ⟨h, _⟩ | ⟨a, n, cap, _, _, _, _, h, _⟩
  · exact ⟨none, 0, 0, by simpa using h⟩
  · exact ⟨_, n, cap, by simpa using h⟩
 obtain ⟨fs, h1, h2, h3⟩ := openFields g2
 obtain ⟨bd, hbd, _, sbd⟩ := DataW.trod_string Tryz.underlying9 g3
 simp only [List.cons.injEq, and_true] at hmt hpa hbd
 subst hmt hpa hbd
 exact ⟨mt, pa, fs, bd, a, n, cap, ⟨rfl, rfl, rfl, rfl⟩, h1, h2, h3, spa, sbd⟩
theorem cellsResp {H : Type} {enc : TypeId × Value → H} {W : World} {fuel : Nat} {d0 d1 d2 : Value} {x : DataW H × List MemPlace} (hf : DataW.trod enc Tryz.prog W 0 (fun _ => true) true fuel 87 [d0, d1, d2] = some x) :
  ∃ (st : Int) (fs : Fs) (bd : Tx) (a : Oa) (n cap : Nat), (d0 = .int .i64 st ∧ d1 = .slice a n cap ∧ d2 = .string bd) ∧ ArgF W W.heap.size a n fs ∧ n ≤ maxLen ∧ WalkF n fs ∧ bd.size ≤ maxLen := by
 obtain ⟨ys, q, _, _, _, hyl, hg⟩ := DataW.trod_struct Tryz.underlying87 hf
 have e3 : Tryz.prog.cellsOf 3 = 1 := by kernel_rfl
 have e9 : Tryz.prog.cellsOf 9 = 1 := by kernel_rfl
 have eL : Tryz.prog.cellsOf 82 = 1 := by kernel_rfl
 have g0 := hg 0 _ rfl
 have g1 := hg 1 _ rfl
 have g2 := hg 2 _ rfl
 simp [e3, e9, eL] at g0 g1 g2
 have hyz : ys.length = 3 := hyl
 rw [List.getElem?_eq_getElem (show 0 < ys.length by omega)] at g0
 rw [List.getElem?_eq_getElem (show 1 < ys.length by omega)] at g1
 rw [List.getElem?_eq_getElem (show 2 < ys.length by omega)] at g2
 obtain ⟨st, hst, _, _⟩ := DataW.trod_int Tryz.underlying3 g0
 obtain ⟨a, n, cap, rfl⟩ : ∃ a n cap, d1 = .slice a n cap := by
  rcases DataW.trod_slice Tryz.underlying82 g1 with ⟨h, _⟩ | ⟨a, n, cap, _, _, _, _, h, _⟩
  · exact ⟨none, 0, 0, by simpa using h⟩
  · exact ⟨_, n, cap, by simpa using h⟩
 obtain ⟨fs, h1, h2, h3⟩ := openFields g1
 obtain ⟨bd, hbd, _, sbd⟩ := DataW.trod_string Tryz.underlying9 g2
 simp only [List.cons.injEq, and_true] at hst hbd
 subst hst hbd
 exact ⟨st, fs, bd, a, n, cap, ⟨rfl, rfl, rfl⟩, h1, h2, h3, sbd⟩
theorem openFlightS {H : Type} {enc : TypeId × Value → H} {W : World} {fuel : Nat} {a : Oa} {n cap : Nat} {x : DataW H × List MemPlace} (h : DataW.trod enc Tryz.prog W 0 (fun _ => true) true fuel 30 [.slice a n cap] = some x) :
  ∃ ks, ArgFlight W W.heap.size a n ks ∧ n ≤ maxLen ∧ ∀ k ∈ ks, FlMax k := by
 rcases Go.Deep.open_slice Tryz.underlying30 h with ⟨hcs, _⟩ | ⟨ad, len, c, m, q, Dd, Pl, hcs, _, hl, hm, hmm, _, hx⟩
 ·simp at hcs
  obtain ⟨rfl, rfl, rfl⟩ := hcs
  exact ⟨[], ⟨rfl, fun i hi => absurd hi (by omega)⟩, Nat.zero_le _, fun x hx => by simp at hx⟩
 ·simp at hcs
  obtain ⟨rfl, rfl, rfl⟩ := hcs
  have hm2 : m = cap := by simpa using hmm
  have ce : Tryz.prog.cellsOf 91 = 13 := by kernel_rfl
  have cReq : Tryz.prog.cellsOf 84 = 4 := by kernel_rfl
  have cIntS : Tryz.prog.cellsOf 85 = 1 := by kernel_rfl
  have cObj : Tryz.prog.cellsOf 89 = 7 := by kernel_rfl
  have cb : Tryz.prog.cellsOf 4 = 1 := by kernel_rfl
  have each : ∀ i, i < n → ∃ y : FlD, (∃ (a2 : Oa) (c2 : Nat) (a4 : Oa) (c4 : Nat) (a6 : Oa) (c6 : Nat) (a7 : Oa) (c7 : Nat) (a9 : Oa) (c9 : Nat), (W.cell? (ad.add (i * 13 + 0)) = some (.int .i64 y.qmt) ∧ W.cell? (ad.add (i * 13 + 1)) = some (.string y.qpa) ∧ W.cell? (ad.add (i * 13 + 2)) = some (.slice a2 y.qfs.length c2) ∧ W.cell? (ad.add (i * 13 + 3)) = some (.string y.qbd) ∧ W.cell? (ad.add (i * 13 + 4)) = some (.slice a4 y.who.length c4) ∧ W.cell? (ad.add (i * 13 + 5)) = some (.string y.opa) ∧ W.cell? (ad.add (i * 13 + 6)) = some (.slice a6 y.oxs.length c6) ∧ W.cell? (ad.add (i * 13 + 7)) = some (.slice a7 y.oys.length c7) ∧ W.cell? (ad.add (i * 13 + 8)) = some (.int .i64 y.ost) ∧ W.cell? (ad.add (i * 13 + 9)) = some (.slice a9 y.ofs.length c9) ∧ W.cell? (ad.add (i * 13 + 10)) = some (.string y.obd) ∧ W.cell? (ad.add (i * 13 + 11)) = some (.int .i64 y.otm) ∧ W.cell? (ad.add (i * 13 + 12)) = some (.bool y.has)) ∧ ArgF W W.heap.size a2 y.qfs.length y.qfs ∧ ArgI W W.heap.size a4 y.who.length y.who ∧ ArgT W W.heap.size a6 y.oxs.length y.oxs ∧ ArgT W W.heap.size a7 y.oys.length y.oys ∧ ArgF W W.heap.size a9 y.ofs.length y.ofs) ∧ FlMax y := by
   intro i hi
   obtain ⟨cs', h1, h2⟩ := hx i (by omega)
   rw [ce] at h1
   obtain ⟨_, hlen, hcell⟩ := World.cells?_some h1
   obtain ⟨xs, k, hk, hxy, _, hxl, hf⟩ := DataW.trod_struct Tryz.underlying91 h2
   match xs, hxl, cs', hlen with
   | [x0, x1, x2, x3], _, [v0, v1, v2, v3, v4, v5, v6, v7, v8, v9, v10, v11, v12], _ =>
    have g0 := hf 0 _ rfl
    have g1 := hf 1 _ rfl
    have g2 := hf 2 _ rfl
    have g3 := hf 3 _ rfl
    simp [cReq, cIntS, cObj, cb] at g0 g1 g2 g3
    obtain ⟨qmt, qpa, qfs, qbd, a2, n2, c2, ⟨rfl, rfl, rfl, rfl⟩, w2, m2, s2, zqpa, zqbd⟩ := cellsReq g0
    obtain ⟨a4, n4, c4, rfl⟩ : ∃ a n cap, v4 = .slice a n cap := by
     rcases DataW.trod_slice Tryz.underlying85 g1 with ⟨h, _⟩ | ⟨a, n, cap, _, _, _, _, h, _⟩
     · exact ⟨none, 0, 0, by simpa using h⟩
     · exact ⟨_, n, cap, by simpa using h⟩
    obtain ⟨who, w4, m4⟩ := openIntsT g1
    obtain ⟨opa, a6, n6, c6, oxs, a7, n7, c7, oys, ost, a9, n9, c9, ofs, obd, otm, ⟨rfl, rfl, rfl, rfl, rfl, rfl, rfl⟩, w6, w7, w9, m6, m7, m9, s6, s7, s9, zopa, zobd⟩ := objCells g2
    obtain ⟨has, e3, _⟩ := DataW.trod_bool Tryz.underlying4 g3
    simp only [List.cons.injEq, and_true] at e3
    subst e3
    obtain rfl := w2.len
    obtain rfl := w4.len
    obtain rfl := w6.len
    obtain rfl := w7.len
    obtain rfl := w9.len
    have c0x := hcell 0 (by omega)
    have c1x := hcell 1 (by omega)
    have c2x := hcell 2 (by omega)
    have c3x := hcell 3 (by omega)
    have c4x := hcell 4 (by omega)
    have c5x := hcell 5 (by omega)
    have c6x := hcell 6 (by omega)
    have c7x := hcell 7 (by omega)
    have c8x := hcell 8 (by omega)
    have c9x := hcell 9 (by omega)
    have c10x := hcell 10 (by omega)
    have c11x := hcell 11 (by omega)
    have c12x := hcell 12 (by omega)
    rw [Go.Deep.add_add] at c0x c1x c2x c3x c4x c5x c6x c7x c8x c9x c10x c11x c12x
    refine ⟨⟨qmt, qpa, qfs, qbd, who, opa, oxs, oys, ost, ofs, obd, otm, has⟩, ⟨a2, c2, a4, c4, a6, c6, a7, c7, a9, c9, ⟨by simpa using c0x, by simpa using c1x, by simpa using c2x, by simpa using c3x, by simpa using c4x, by simpa using c5x, by simpa using c6x, by simpa using c7x, by simpa using c8x, by simpa using c9x, by simpa using c10x, by simpa using c11x, by simpa using c12x⟩, w2, w4, w6, w7, w9⟩, ⟨zqpa, ⟨m2, s2⟩, zqbd, m4, zopa, ⟨m6, s6⟩, ⟨m7, s7⟩, ⟨m9, s9⟩, zobd⟩⟩
  haveI : Inhabited FlD := ⟨zeroFl⟩
  obtain ⟨q, hq⟩ := Go.Deep.choose_lt each
  have hat : ∀ i, i < n → flAt ((List.range n).map q) i = q i := fun i hi => by
   unfold flAt
   rw [List.getD_eq_getElem?_getD, List.getElem?_map, List.getElem?_range hi]
   rfl
  refine ⟨(List.range n).map q, ⟨by simp, fun i hi => ?_⟩, by omega, fun x hx => ?_⟩
  ·obtain ⟨⟨a2, c2, a4, c4, a6, c6, a7, c7, a9, c9, cc, w2, w4, w6, w7, w9⟩, _⟩ := hq i hi
   have hsp : ad.spot = none := by
    obtain ⟨⟨_, _, _, _, _, _, _, _, _, _, c3, _⟩, _⟩ := hq 0 (by omega)
    have := World.cell?_spot c3.1
    simpa [Addr.add] using this
   obtain ⟨b, off, sp⟩ := ad
   simp only at hsp
   subst hsp
   simp only [addr_add] at cc
   rw [hat i hi]
   have hlt := World.block_lt_of_cell? W _ cc.1
   exact ⟨b, off, rfl, hlt, a2, c2, a4, c4, a6, c6, a7, c7, a9, c9, ⟨by simpa [Nat.add_assoc] using cc.1, by simpa [Nat.add_assoc] using cc.2.1, by simpa [Nat.add_assoc] using cc.2.2.1, by simpa [Nat.add_assoc] using cc.2.2.2.1, by simpa [Nat.add_assoc] using cc.2.2.2.2.1, by simpa [Nat.add_assoc] using cc.2.2.2.2.2.1, by simpa [Nat.add_assoc] using cc.2.2.2.2.2.2.1, by simpa [Nat.add_assoc] using cc.2.2.2.2.2.2.2.1, by simpa [Nat.add_assoc] using cc.2.2.2.2.2.2.2.2.1, by simpa [Nat.add_assoc] using cc.2.2.2.2.2.2.2.2.2.1, by simpa [Nat.add_assoc] using cc.2.2.2.2.2.2.2.2.2.2.1, by simpa [Nat.add_assoc] using cc.2.2.2.2.2.2.2.2.2.2.2.1, by simpa [Nat.add_assoc] using cc.2.2.2.2.2.2.2.2.2.2.2.2⟩, w2, w4, w6, w7, w9⟩
  ·obtain ⟨i, hi, rfl⟩ := List.mem_map.1 hx
   exact (hq i (List.mem_range.1 hi)).2
theorem openSeenS {H : Type} {enc : TypeId × Value → H} {W : World} {fuel : Nat} {a : Oa} {n cap : Nat} {x : DataW H × List MemPlace} (h : DataW.trod enc Tryz.prog W 0 (fun _ => true) true fuel 31 [.slice a n cap] = some x) :
  ∃ ks, ArgSeen W W.heap.size a n ks ∧ n ≤ maxLen ∧ ∀ k ∈ ks, SeMax k := by
 rcases Go.Deep.open_slice Tryz.underlying31 h with ⟨hcs, _⟩ | ⟨ad, len, c, m, q, Dd, Pl, hcs, _, hl, hm, hmm, _, hx⟩
 ·simp at hcs
  obtain ⟨rfl, rfl, rfl⟩ := hcs
  exact ⟨[], ⟨rfl, fun i hi => absurd hi (by omega)⟩, Nat.zero_le _, fun x hx => by simp at hx⟩
 ·simp at hcs
  obtain ⟨rfl, rfl, rfl⟩ := hcs
  have hm2 : m = cap := by simpa using hmm
  have ce : Tryz.prog.cellsOf 94 = 8 := by kernel_rfl
  have cReq : Tryz.prog.cellsOf 84 = 4 := by kernel_rfl
  have cResp : Tryz.prog.cellsOf 87 = 3 := by kernel_rfl
  have ci : Tryz.prog.cellsOf 3 = 1 := by kernel_rfl
  have each : ∀ i, i < n → ∃ y : SeD, (∃ (a2 : Oa) (c2 : Nat) (a5 : Oa) (c5 : Nat), (W.cell? (ad.add (i * 8 + 0)) = some (.int .i64 y.qmt) ∧ W.cell? (ad.add (i * 8 + 1)) = some (.string y.qpa) ∧ W.cell? (ad.add (i * 8 + 2)) = some (.slice a2 y.qfs.length c2) ∧ W.cell? (ad.add (i * 8 + 3)) = some (.string y.qbd) ∧ W.cell? (ad.add (i * 8 + 4)) = some (.int .i64 y.rst) ∧ W.cell? (ad.add (i * 8 + 5)) = some (.slice a5 y.rfs.length c5) ∧ W.cell? (ad.add (i * 8 + 6)) = some (.string y.rbd) ∧ W.cell? (ad.add (i * 8 + 7)) = some (.int .i64 y.tim)) ∧ ArgF W W.heap.size a2 y.qfs.length y.qfs ∧ ArgF W W.heap.size a5 y.rfs.length y.rfs) ∧ SeMax y := by
   intro i hi
   obtain ⟨cs', h1, h2⟩ := hx i (by omega)
   rw [ce] at h1
   obtain ⟨_, hlen, hcell⟩ := World.cells?_some h1
   obtain ⟨xs, k, hk, hxy, _, hxl, hf⟩ := DataW.trod_struct Tryz.underlying94 h2
   match xs, hxl, cs', hlen with
   | [x0, x1, x2], _, [v0, v1, v2, v3, v4, v5, v6, v7], _ =>
    have g0 := hf 0 _ rfl
    have g1 := hf 1 _ rfl
    have g2 := hf 2 _ rfl
    simp [cReq, cResp, ci] at g0 g1 g2
    obtain ⟨qmt, qpa, qfs, qbd, a2, n2, c2, ⟨rfl, rfl, rfl, rfl⟩, w2, m2, s2, zqpa, zqbd⟩ := cellsReq g0
    obtain ⟨rst, rfs, rbd, a5, n5, c5, ⟨rfl, rfl, rfl⟩, w5, m5, s5, zrbd⟩ := cellsResp g1
    obtain ⟨tim, e2, _, _⟩ := DataW.trod_int Tryz.underlying3 g2
    simp only [List.cons.injEq, and_true] at e2
    subst e2
    obtain rfl := w2.len
    obtain rfl := w5.len
    have c0x := hcell 0 (by omega)
    have c1x := hcell 1 (by omega)
    have c2x := hcell 2 (by omega)
    have c3x := hcell 3 (by omega)
    have c4x := hcell 4 (by omega)
    have c5x := hcell 5 (by omega)
    have c6x := hcell 6 (by omega)
    have c7x := hcell 7 (by omega)
    rw [Go.Deep.add_add] at c0x c1x c2x c3x c4x c5x c6x c7x
    refine ⟨⟨qmt, qpa, qfs, qbd, rst, rfs, rbd, tim⟩, ⟨a2, c2, a5, c5, ⟨by simpa using c0x, by simpa using c1x, by simpa using c2x, by simpa using c3x, by simpa using c4x, by simpa using c5x, by simpa using c6x, by simpa using c7x⟩, w2, w5⟩, ⟨zqpa, ⟨m2, s2⟩, zqbd, ⟨m5, s5⟩, zrbd⟩⟩
  haveI : Inhabited SeD := ⟨zeroSe⟩
  obtain ⟨q, hq⟩ := Go.Deep.choose_lt each
  have hat : ∀ i, i < n → seAt ((List.range n).map q) i = q i := fun i hi => by
   unfold seAt
   rw [List.getD_eq_getElem?_getD, List.getElem?_map, List.getElem?_range hi]
   rfl
  refine ⟨(List.range n).map q, ⟨by simp, fun i hi => ?_⟩, by omega, fun x hx => ?_⟩
  ·obtain ⟨⟨a2, c2, a5, c5, cc, w2, w5⟩, _⟩ := hq i hi
   have hsp : ad.spot = none := by
    obtain ⟨⟨_, _, _, _, c3, _⟩, _⟩ := hq 0 (by omega)
    have := World.cell?_spot c3.1
    simpa [Addr.add] using this
   obtain ⟨b, off, sp⟩ := ad
   simp only at hsp
   subst hsp
   simp only [addr_add] at cc
   rw [hat i hi]
   have hlt := World.block_lt_of_cell? W _ cc.1
   exact ⟨b, off, rfl, hlt, a2, c2, a5, c5, ⟨by simpa [Nat.add_assoc] using cc.1, by simpa [Nat.add_assoc] using cc.2.1, by simpa [Nat.add_assoc] using cc.2.2.1, by simpa [Nat.add_assoc] using cc.2.2.2.1, by simpa [Nat.add_assoc] using cc.2.2.2.2.1, by simpa [Nat.add_assoc] using cc.2.2.2.2.2.1, by simpa [Nat.add_assoc] using cc.2.2.2.2.2.2.1, by simpa [Nat.add_assoc] using cc.2.2.2.2.2.2.2⟩, w2, w5⟩
  ·obtain ⟨i, hi, rfl⟩ := List.mem_map.1 hx
   exact (hq i (List.mem_range.1 hi)).2
theorem objTimeC {H : Type} {enc : TypeId × Value → H} {W : World} {fuel : Nat} {p b : ByteArray} {v1 v2 v3 : Value} {st t : Int} {x : DataW H × List MemPlace} (h : DataW.trod enc Tryz.prog W 0 (fun _ => true) true fuel 89 [.string p, v1, v2, .int .i64 st, v3, .string b, .int .i64 t] = some x) : -9223372036854775808 ≤ t := by
 obtain ⟨ys, q, _, _, _, hyl, hg⟩ := DataW.trod_struct Tryz.underlying89 h
 have e3 : Tryz.prog.cellsOf 3 = 1 := by kernel_rfl
 have g4 := hg 4 _ rfl
 simp [e3] at g4
 have hy5 : ys.length = 5 := hyl
 rw [List.getElem?_eq_getElem (show 4 < ys.length by omega)] at g4
 obtain ⟨n, hn, _, hw⟩ := DataW.trod_int Tryz.underlying3 g4
 simp only [List.cons.injEq, Value.int.injEq, true_and, and_true] at hn
 rw [hn]
 exact (bounds_i64 hw).1
theorem openReplyS {H : Type} {enc : TypeId × Value → H} {W : World} {fuel : Nat} {a : Oa} {n cap : Nat} {x : DataW H × List MemPlace} (h : DataW.trod enc Tryz.prog W 0 (fun _ => true) true fuel 32 [.slice a n cap] = some x) :
  ∃ ks, ArgReply W W.heap.size a n ks ∧ n ≤ maxLen ∧ ∀ k ∈ ks, RpMax k := by
 rcases Go.Deep.open_slice Tryz.underlying32 h with ⟨hcs, _⟩ | ⟨ad, len, c, m, q, Dd, Pl, hcs, _, hl, hm, hmm, _, hx⟩
 ·simp at hcs
  obtain ⟨rfl, rfl, rfl⟩ := hcs
  exact ⟨[], ⟨rfl, fun i hi => absurd hi (by omega)⟩, Nat.zero_le _, fun x hx => by simp at hx⟩
 ·simp at hcs
  obtain ⟨rfl, rfl, rfl⟩ := hcs
  have hm2 : m = cap := by simpa using hmm
  have ce : Tryz.prog.cellsOf 97 = 18 := by kernel_rfl
  have ci : Tryz.prog.cellsOf 3 = 1 := by kernel_rfl
  have cReq : Tryz.prog.cellsOf 84 = 4 := by kernel_rfl
  have cResp : Tryz.prog.cellsOf 87 = 3 := by kernel_rfl
  have cObj : Tryz.prog.cellsOf 89 = 7 := by kernel_rfl
  have each : ∀ i, i < n → ∃ y : RpD, (∃ (a3 : Oa) (c3 : Nat) (a6 : Oa) (c6 : Nat) (a11 : Oa) (c11 : Nat) (a12 : Oa) (c12 : Nat) (a14 : Oa) (c14 : Nat), (W.cell? (ad.add (i * 18 + 0)) = some (.int .i64 y.cli) ∧ W.cell? (ad.add (i * 18 + 1)) = some (.int .i64 y.qmt) ∧ W.cell? (ad.add (i * 18 + 2)) = some (.string y.qpa) ∧ W.cell? (ad.add (i * 18 + 3)) = some (.slice a3 y.qfs.length c3) ∧ W.cell? (ad.add (i * 18 + 4)) = some (.string y.qbd) ∧ W.cell? (ad.add (i * 18 + 5)) = some (.int .i64 y.rst) ∧ W.cell? (ad.add (i * 18 + 6)) = some (.slice a6 y.rfs.length c6) ∧ W.cell? (ad.add (i * 18 + 7)) = some (.string y.rbd) ∧ W.cell? (ad.add (i * 18 + 8)) = some (.int .i64 y.knd) ∧ W.cell? (ad.add (i * 18 + 9)) = some (.int .i64 y.tim) ∧ W.cell? (ad.add (i * 18 + 10)) = some (.string y.opa) ∧ W.cell? (ad.add (i * 18 + 11)) = some (.slice a11 y.oxs.length c11) ∧ W.cell? (ad.add (i * 18 + 12)) = some (.slice a12 y.oys.length c12) ∧ W.cell? (ad.add (i * 18 + 13)) = some (.int .i64 y.ost) ∧ W.cell? (ad.add (i * 18 + 14)) = some (.slice a14 y.ofs.length c14) ∧ W.cell? (ad.add (i * 18 + 15)) = some (.string y.obd) ∧ W.cell? (ad.add (i * 18 + 16)) = some (.int .i64 y.otm) ∧ W.cell? (ad.add (i * 18 + 17)) = some (.int .i64 y.bns)) ∧ ArgF W W.heap.size a3 y.qfs.length y.qfs ∧ ArgF W W.heap.size a6 y.rfs.length y.rfs ∧ ArgT W W.heap.size a11 y.oxs.length y.oxs ∧ ArgT W W.heap.size a12 y.oys.length y.oys ∧ ArgF W W.heap.size a14 y.ofs.length y.ofs) ∧ RpMax y := by
   intro i hi
   obtain ⟨cs', h1, h2⟩ := hx i (by omega)
   rw [ce] at h1
   obtain ⟨_, hlen, hcell⟩ := World.cells?_some h1
   obtain ⟨xs, k, hk, hxy, _, hxl, hf⟩ := DataW.trod_struct Tryz.underlying97 h2
   match xs, hxl, cs', hlen with
   | [x0, x1, x2, x3, x4, x5, x6], _, [v0, v1, v2, v3, v4, v5, v6, v7, v8, v9, v10, v11, v12, v13, v14, v15, v16, v17], _ =>
    have g0 := hf 0 _ rfl
    have g1 := hf 1 _ rfl
    have g2 := hf 2 _ rfl
    have g3 := hf 3 _ rfl
    have g4 := hf 4 _ rfl
    have g5 := hf 5 _ rfl
    have g6 := hf 6 _ rfl
    simp [ci, cReq, cResp, cObj] at g0 g1 g2 g3 g4 g5 g6
    obtain ⟨cli, e0, _, hwcli⟩ := DataW.trod_int Tryz.underlying3 g0
    simp only [List.cons.injEq, and_true] at e0
    subst e0
    obtain ⟨qmt, qpa, qfs, qbd, a3, n3, c3, ⟨rfl, rfl, rfl, rfl⟩, w3, m3, s3, zqpa, zqbd⟩ := cellsReq g1
    obtain ⟨rst, rfs, rbd, a6, n6, c6, ⟨rfl, rfl, rfl⟩, w6, m6, s6, zrbd⟩ := cellsResp g2
    obtain ⟨knd, e3, _, _⟩ := DataW.trod_int Tryz.underlying3 g3
    simp only [List.cons.injEq, and_true] at e3
    subst e3
    obtain ⟨tim, e4, _, hwtim⟩ := DataW.trod_int Tryz.underlying3 g4
    simp only [List.cons.injEq, and_true] at e4
    subst e4
    obtain ⟨opa, a11, n11, c11, oxs, a12, n12, c12, oys, ost, a14, n14, c14, ofs, obd, otm, ⟨rfl, rfl, rfl, rfl, rfl, rfl, rfl⟩, w11, w12, w14, m11, m12, m14, s11, s12, s14, zopa, zobd⟩ := objCells g5
    have hot := objTimeC g5
    obtain ⟨bns, e6, _, _⟩ := DataW.trod_int Tryz.underlying3 g6
    simp only [List.cons.injEq, and_true] at e6
    subst e6
    obtain rfl := w3.len
    obtain rfl := w6.len
    obtain rfl := w11.len
    obtain rfl := w12.len
    obtain rfl := w14.len
    have c0x := hcell 0 (by omega)
    have c1x := hcell 1 (by omega)
    have c2x := hcell 2 (by omega)
    have c3x := hcell 3 (by omega)
    have c4x := hcell 4 (by omega)
    have c5x := hcell 5 (by omega)
    have c6x := hcell 6 (by omega)
    have c7x := hcell 7 (by omega)
    have c8x := hcell 8 (by omega)
    have c9x := hcell 9 (by omega)
    have c10x := hcell 10 (by omega)
    have c11x := hcell 11 (by omega)
    have c12x := hcell 12 (by omega)
    have c13x := hcell 13 (by omega)
    have c14x := hcell 14 (by omega)
    have c15x := hcell 15 (by omega)
    have c16x := hcell 16 (by omega)
    have c17x := hcell 17 (by omega)
    rw [Go.Deep.add_add] at c0x c1x c2x c3x c4x c5x c6x c7x c8x c9x c10x c11x c12x c13x c14x c15x c16x c17x
    refine ⟨⟨cli, qmt, qpa, qfs, qbd, rst, rfs, rbd, knd, tim, opa, oxs, oys, ost, ofs, obd, otm, bns⟩, ⟨a3, c3, a6, c6, a11, c11, a12, c12, a14, c14, ⟨by simpa using c0x, by simpa using c1x, by simpa using c2x, by simpa using c3x, by simpa using c4x, by simpa using c5x, by simpa using c6x, by simpa using c7x, by simpa using c8x, by simpa using c9x, by simpa using c10x, by simpa using c11x, by simpa using c12x, by simpa using c13x, by simpa using c14x, by simpa using c15x, by simpa using c16x, by simpa using c17x⟩, w3, w6, w11, w12, w14⟩, ⟨zqpa, ⟨m3, s3⟩, zqbd, ⟨m6, s6⟩, zrbd, zopa, ⟨m11, s11⟩, ⟨m12, s12⟩, ⟨m14, s14⟩, zobd, ⟨hot, (bounds_i64 hwtim).2⟩, bounds_i64 hwcli⟩⟩
  haveI : Inhabited RpD := ⟨zeroRp⟩
  obtain ⟨q, hq⟩ := Go.Deep.choose_lt each
  have hat : ∀ i, i < n → rpAt ((List.range n).map q) i = q i := fun i hi => by
   unfold rpAt
   rw [List.getD_eq_getElem?_getD, List.getElem?_map, List.getElem?_range hi]
   rfl
  refine ⟨(List.range n).map q, ⟨by simp, fun i hi => ?_⟩, by omega, fun x hx => ?_⟩
  ·obtain ⟨⟨a3, c3, a6, c6, a11, c11, a12, c12, a14, c14, cc, w3, w6, w11, w12, w14⟩, _⟩ := hq i hi
   have hsp : ad.spot = none := by
    obtain ⟨⟨_, _, _, _, _, _, _, _, _, _, c3, _⟩, _⟩ := hq 0 (by omega)
    have := World.cell?_spot c3.1
    simpa [Addr.add] using this
   obtain ⟨b, off, sp⟩ := ad
   simp only at hsp
   subst hsp
   simp only [addr_add] at cc
   rw [hat i hi]
   have hlt := World.block_lt_of_cell? W _ cc.1
   exact ⟨b, off, rfl, hlt, a3, c3, a6, c6, a11, c11, a12, c12, a14, c14, ⟨by simpa [Nat.add_assoc] using cc.1, by simpa [Nat.add_assoc] using cc.2.1, by simpa [Nat.add_assoc] using cc.2.2.1, by simpa [Nat.add_assoc] using cc.2.2.2.1, by simpa [Nat.add_assoc] using cc.2.2.2.2.1, by simpa [Nat.add_assoc] using cc.2.2.2.2.2.1, by simpa [Nat.add_assoc] using cc.2.2.2.2.2.2.1, by simpa [Nat.add_assoc] using cc.2.2.2.2.2.2.2.1, by simpa [Nat.add_assoc] using cc.2.2.2.2.2.2.2.2.1, by simpa [Nat.add_assoc] using cc.2.2.2.2.2.2.2.2.2.1, by simpa [Nat.add_assoc] using cc.2.2.2.2.2.2.2.2.2.2.1, by simpa [Nat.add_assoc] using cc.2.2.2.2.2.2.2.2.2.2.2.1, by simpa [Nat.add_assoc] using cc.2.2.2.2.2.2.2.2.2.2.2.2.1, by simpa [Nat.add_assoc] using cc.2.2.2.2.2.2.2.2.2.2.2.2.2.1, by simpa [Nat.add_assoc] using cc.2.2.2.2.2.2.2.2.2.2.2.2.2.2.1, by simpa [Nat.add_assoc] using cc.2.2.2.2.2.2.2.2.2.2.2.2.2.2.2.1, by simpa [Nat.add_assoc] using cc.2.2.2.2.2.2.2.2.2.2.2.2.2.2.2.2.1, by simpa [Nat.add_assoc] using cc.2.2.2.2.2.2.2.2.2.2.2.2.2.2.2.2.2⟩, w3, w6, w11, w12, w14⟩
  ·obtain ⟨i, hi, rfl⟩ := List.mem_map.1 hx
   exact (hq i (List.mem_range.1 hi)).2
end Go.Proofs.YtpacdigfnneoeaaGreatDoor
namespace Go.Proofs.YtpacdigfnneoeaaGreatDoor
open Go.RowKit Go.WideShapes
open Go.Lib hiding intOf
theorem cellsShelf {H : Type} {enc : TypeId × Value → H} {W : World} {fuel : Nat} {d0 d1 d2 d3 d4 d5 : Value} {x : DataW H × List MemPlace} (hf : DataW.trod enc Tryz.prog W 0 (fun _ => true) true fuel 29 [d0, d1, d2, d3, d4, d5] = some x) :
  ∃ (a1 : Oa) (n1 c1 : Nat) (cs : Ts) (a2 : Oa) (n2 c2 : Nat) (ws : List (Int × ByteArray)) (a3 : Oa) (n3 c3 : Nat) (ks : List KpD) (a4 : Oa) (n4 c4 : Nat) (bl : Bs) (nx sq : Int), (d0 = .slice a1 n1 c1 ∧ d1 = .slice a2 n2 c2 ∧ d2 = .slice a3 n3 c3 ∧ d3 = .slice a4 n4 c4 ∧ d4 = .int .i64 nx ∧ d5 = .int .i64 sq) ∧ ArgT W W.heap.size a1 n1 cs ∧ ArgWrite W W.heap.size a2 n2 ws ∧ ArgKept W W.heap.size a3 n3 ks ∧ ArgBan W W.heap.size a4 n4 bl ∧ (n1 ≤ maxLen ∧ n2 ≤ maxLen ∧ n3 ≤ maxLen ∧ n4 ≤ maxLen ∧ (∀ i, i < n1 → (textAt cs i).size ≤ maxLen) ∧ (∀ x ∈ ws, (x.2).size ≤ maxLen) ∧ (∀ k ∈ ks, KpMax k) ∧ ∀ x ∈ bl, (x.2.1).size ≤ maxLen ∧ (x.2.2.1).size ≤ maxLen) := by
 obtain ⟨ys, q, _, _, _, hyl, hg⟩ := DataW.trod_struct Tryz.underlying29 hf
 have hcD : Tryz.prog.cellsOf 25 = 2 := by kernel_rfl
 have e3 : Tryz.prog.cellsOf 3 = 1 := by kernel_rfl
 have eK : Tryz.prog.cellsOf 26 = 1 := by kernel_rfl
 have eB : Tryz.prog.cellsOf 27 = 1 := by kernel_rfl
 have eS : Tryz.prog.cellsOf 22 = 1 := by kernel_rfl
 have eW : Tryz.prog.cellsOf 23 = 1 := by kernel_rfl
 have g0 := hg 0 _ rfl
 have g1 := hg 1 _ rfl
 have g2 := hg 2 _ rfl
 have g3 := hg 3 _ rfl
 have g4 := hg 4 _ rfl
 simp [e3, eK, eB, hcD] at g0 g1 g2 g3 g4
 have hy5 : ys.length = 5 := hyl
 rw [List.getElem?_eq_getElem (show 0 < ys.length by omega)] at g0
 rw [List.getElem?_eq_getElem (show 1 < ys.length by omega)] at g1
 rw [List.getElem?_eq_getElem (show 2 < ys.length by omega)] at g2
 rw [List.getElem?_eq_getElem (show 3 < ys.length by omega)] at g3
 rw [List.getElem?_eq_getElem (show 4 < ys.length by omega)] at g4
 obtain ⟨zs, q2, _, _, _, hzl, hk⟩ := DataW.trod_struct Tryz.underlying25 g0
 have k0 := hk 0 _ rfl
 have k1 := hk 1 _ rfl
 simp [eS, eW] at k0 k1
 have hz2 : zs.length = 2 := hzl
 rw [List.getElem?_eq_getElem (show 0 < zs.length by omega)] at k0
 rw [List.getElem?_eq_getElem (show 1 < zs.length by omega)] at k1
 obtain ⟨a1, n1, c1, rfl⟩ : ∃ a n cap, d0 = .slice a n cap := by
  rcases DataW.trod_slice Tryz.underlying22 k0 with ⟨h, _⟩ | ⟨a, n, cap, _, _, _, _, h, _⟩
  · exact ⟨none, 0, 0, by simpa using h⟩
  · exact ⟨_, n, cap, by simpa using h⟩
 obtain ⟨a2, n2, c2, rfl⟩ : ∃ a n cap, d1 = .slice a n cap := by
  rcases DataW.trod_slice Tryz.underlying23 k1 with ⟨h, _⟩ | ⟨a, n, cap, _, _, _, _, h, _⟩
  · exact ⟨none, 0, 0, by simpa using h⟩
  · exact ⟨_, n, cap, by simpa using h⟩
 obtain ⟨a3, n3, c3, rfl⟩ : ∃ a n cap, d2 = .slice a n cap := by
  rcases DataW.trod_slice Tryz.underlying26 g1 with ⟨h, _⟩ | ⟨a, n, cap, _, _, _, _, h, _⟩
  · exact ⟨none, 0, 0, by simpa using h⟩
  · exact ⟨_, n, cap, by simpa using h⟩
 obtain ⟨a4, n4, c4, rfl⟩ : ∃ a n cap, d3 = .slice a n cap := by
  rcases DataW.trod_slice Tryz.underlying27 g2 with ⟨h, _⟩ | ⟨a, n, cap, _, _, _, _, h, _⟩
  · exact ⟨none, 0, 0, by simpa using h⟩
  · exact ⟨_, n, cap, by simpa using h⟩
 obtain ⟨nx, h4, _, _⟩ := DataW.trod_int Tryz.underlying3 g3
 obtain ⟨sq, h5, _, _⟩ := DataW.trod_int Tryz.underlying3 g4
 obtain ⟨xs, x1, x2, x3⟩ := openTexts k0
 obtain ⟨ws, y1, y2, y3⟩ := openWriteS k1
 obtain ⟨ks, z1, z2, z3⟩ := openKeptS g1
 obtain ⟨bl, b1, b2, b3⟩ := openBanS g2
 simp only [List.cons.injEq, and_true] at h4 h5
 subst h4 h5
 exact ⟨a1, n1, c1, xs, a2, n2, c2, ws, a3, n3, c3, ks, a4, n4, c4, bl, nx, sq, ⟨rfl, rfl, rfl, rfl, rfl, rfl⟩, x1, y1, z1, b1, x2, y2, z2, b2, x3, y3, z3, b3⟩
theorem openCache {H : Type} {enc : TypeId × Value → H} {W : World} {r : Reach} {b0 : Nat} {v : Value} {d : DataW H} {ps : List MemPlace} (hval : Value.okWide Tryz.prog W r b0 34 v) (h : DataW.Trod enc Tryz.prog W 0 (fun _ => true) true 34 v d ps) :
  ∃ (a1 : Oa) (n1 c1 : Nat) (cs : Ts) (a2 : Oa) (n2 c2 : Nat) (ws : List (Int × ByteArray)) (a3 : Oa) (n3 c3 : Nat) (ks : List KpD) (a4 : Oa) (n4 c4 : Nat) (bl : Bs) (nx sq : Int) (a5 : Oa) (n5 c5 : Nat) (fl : List FlD) (now : Int) (a6 : Oa) (n6 c6 : Nat) (se : List SeD) (a7 : Oa) (n7 c7 : Nat) (sn : List RpD), v = .agg #[.slice a1 n1 c1, .slice a2 n2 c2, .slice a3 n3 c3, .slice a4 n4 c4, .int .i64 nx, .int .i64 sq, .slice a5 n5 c5, .int .i64 now, .slice a6 n6 c6, .slice a7 n7 c7] ∧ ArgT W W.heap.size a1 n1 cs ∧ ArgWrite W W.heap.size a2 n2 ws ∧ ArgKept W W.heap.size a3 n3 ks ∧ ArgBan W W.heap.size a4 n4 bl ∧ ArgFlight W W.heap.size a5 n5 fl ∧ ArgSeen W W.heap.size a6 n6 se ∧ ArgReply W W.heap.size a7 n7 sn ∧ ((n1 ≤ maxLen ∧ n2 ≤ maxLen ∧ n3 ≤ maxLen ∧ n4 ≤ maxLen ∧ (∀ i, i < n1 → (textAt cs i).size ≤ maxLen) ∧ (∀ x ∈ ws, (x.2).size ≤ maxLen) ∧ (∀ k ∈ ks, KpMax k) ∧ ∀ x ∈ bl, (x.2.1).size ≤ maxLen ∧ (x.2.2.1).size ≤ maxLen) ∧ (n5 ≤ maxLen ∧ ∀ k ∈ fl, FlMax k) ∧ (n6 ≤ maxLen ∧ ∀ k ∈ se, SeMax k) ∧ n7 ≤ maxLen ∧ ∀ k ∈ sn, RpMax k) := by
 obtain ⟨cs, rfl, hsz⟩ := okWide_struct Tryz.underlying34 hval
 obtain ⟨fuel, hf⟩ := h
 obtain ⟨ys, q, _, _, _, hyl, hg⟩ := DataW.trod_struct Tryz.underlying34 hf
 have hcC : Tryz.prog.cellsOf 34 = 10 := by kernel_rfl
 have hcH : Tryz.prog.cellsOf 29 = 6 := by kernel_rfl
 have e3 : Tryz.prog.cellsOf 3 = 1 := by kernel_rfl
 have eF : Tryz.prog.cellsOf 30 = 1 := by kernel_rfl
 have eS : Tryz.prog.cellsOf 31 = 1 := by kernel_rfl
 have eR : Tryz.prog.cellsOf 32 = 1 := by kernel_rfl
 rw [hcC] at hsz
 obtain ⟨l⟩ := cs
 obtain ⟨d0, d1, d2, d3, d4, d5, d6, d7, d8, d9, rfl⟩ : ∃ d0 d1 d2 d3 d4 d5 d6 d7 d8 d9, l = [d0, d1, d2, d3, d4, d5, d6, d7, d8, d9] := by
  match l, hsz with
  | [d0, d1, d2, d3, d4, d5, d6, d7, d8, d9], _ => exact ⟨d0, d1, d2, d3, d4, d5, d6, d7, d8, d9, rfl⟩
 have g0 := hg 0 _ rfl
 have g1 := hg 1 _ rfl
 have g2 := hg 2 _ rfl
 have g3 := hg 3 _ rfl
 have g4 := hg 4 _ rfl
 simp [Value.cells, e3, eF, eS, eR, hcH] at g0 g1 g2 g3 g4
 have hy5 : ys.length = 5 := hyl
 rw [List.getElem?_eq_getElem (show 0 < ys.length by omega)] at g0
 rw [List.getElem?_eq_getElem (show 1 < ys.length by omega)] at g1
 rw [List.getElem?_eq_getElem (show 2 < ys.length by omega)] at g2
 rw [List.getElem?_eq_getElem (show 3 < ys.length by omega)] at g3
 rw [List.getElem?_eq_getElem (show 4 < ys.length by omega)] at g4
 obtain ⟨a5, n5, c5, rfl⟩ : ∃ a n cap, d6 = .slice a n cap := by
  rcases DataW.trod_slice Tryz.underlying30 g1 with ⟨h, _⟩ | ⟨a, n, cap, _, _, _, _, h, _⟩
  · exact ⟨none, 0, 0, by simpa using h⟩
  · exact ⟨_, n, cap, by simpa using h⟩
 obtain ⟨a6, n6, c6, rfl⟩ : ∃ a n cap, d8 = .slice a n cap := by
  rcases DataW.trod_slice Tryz.underlying31 g3 with ⟨h, _⟩ | ⟨a, n, cap, _, _, _, _, h, _⟩
  · exact ⟨none, 0, 0, by simpa using h⟩
  · exact ⟨_, n, cap, by simpa using h⟩
 obtain ⟨a7, n7, c7, rfl⟩ : ∃ a n cap, d9 = .slice a n cap := by
  rcases DataW.trod_slice Tryz.underlying32 g4 with ⟨h, _⟩ | ⟨a, n, cap, _, _, _, _, h, _⟩
  · exact ⟨none, 0, 0, by simpa using h⟩
  · exact ⟨_, n, cap, by simpa using h⟩
 obtain ⟨now, h2, _, _⟩ := DataW.trod_int Tryz.underlying3 g2
 obtain ⟨a1, n1, c1, cs, a2, n2, c2, ws, a3, n3, c3, ks, a4, n4, c4, bl, nx, sq, ⟨rfl, rfl, rfl, rfl, rfl, rfl⟩, w1, w2, w3, w4, hmx⟩ := cellsShelf g0
 obtain ⟨fl, x1, x2, x3⟩ := openFlightS g1
 obtain ⟨se, y1, y2, y3⟩ := openSeenS g3
 obtain ⟨sn, z1, z2, z3⟩ := openReplyS g4
 simp only [List.cons.injEq, and_true] at h2
 subst h2
 exact ⟨a1, n1, c1, cs, a2, n2, c2, ws, a3, n3, c3, ks, a4, n4, c4, bl, nx, sq, a5, n5, c5, fl, now, a6, n6, c6, se, a7, n7, c7, sn, rfl, w1, w2, w3, w4, x1, y1, z1, hmx, ⟨x2, x3⟩, ⟨y2, y3⟩, z2, z3⟩
end Go.Proofs.YtpacdigfnneoeaaGreatDoor
namespace Go.Proofs.YtpacdigfnneoeaaGreatDoor
open Go.ChangeShapes Go.WideShapes Go.ChangeAt Go.RowKit
theorem gTabType : (Tryz.prog.globals[0]?).map (·.type) = some 275 := by kernel_rfl
theorem cells62 : Tryz.prog.cellsOf 275 = 20 := by kernel_rfl
theorem cells55 : Tryz.prog.cellsOf 268 = 1 := by kernel_rfl
theorem table {W : World} (h : laidMetH Tryz.prog Rows.fnExactJudgeHereRow.laid W) : TabOk W := by
 have h1 : laidMet Tryz.prog Rows.fnExactJudgeHereRow.laid W := h
 obtain ⟨ps, hl, _⟩ := h1
 obtain ⟨g1, t1, cs1, f1, p1, q1, _, _, _, _, hr1, _⟩ := hl
 obtain ⟨g2, t2, cs2, f2, p2, q2, _, _, _, _, hr2, _⟩ := hr1
 obtain ⟨g3, t3, cs3, f3, p3, q3, hg, ht, hvar, hd, _, _⟩ := hr2
 obtain rfl := Option.some.inj (gTab.symm.trans hg)
 obtain rfl := Option.some.inj (gTabType.symm.trans ht)
 unfold TabOk Lib.TabIs
 rw [hvar, ← Lib.cells_of_tab (zs := Lib.pow10Tab) Tryz.underlying275 Tryz.underlying268 cells55 cells62 hd]
def withTables (w : World) : World :=
 { w with heap := ((w.heap.modify 0 fun
   | .cells _ t frozen => .cells #[.int .u64 1, .int .u64 10, .int .u64 100, .int .u64 1000, .int .u64 10000, .int .u64 100000, .int .u64 1000000, .int .u64 10000000, .int .u64 100000000, .int .u64 1000000000, .int .u64 10000000000, .int .u64 100000000000, .int .u64 1000000000000, .int .u64 10000000000000, .int .u64 100000000000000, .int .u64 1000000000000000, .int .u64 10000000000000000, .int .u64 100000000000000000, .int .u64 1000000000000000000, .int .u64 10000000000000000000] t frozen
   | o => o).modify 1 fun
   | .cells _ t frozen => .cells #[.int .u8 0, .int .u8 1, .int .u8 28, .int .u8 2, .int .u8 29, .int .u8 14, .int .u8 24, .int .u8 3, .int .u8 30, .int .u8 22, .int .u8 20, .int .u8 15, .int .u8 25, .int .u8 17, .int .u8 4, .int .u8 8, .int .u8 31, .int .u8 27, .int .u8 13, .int .u8 23, .int .u8 21, .int .u8 19, .int .u8 16, .int .u8 7, .int .u8 26, .int .u8 12, .int .u8 18, .int .u8 6, .int .u8 11, .int .u8 5, .int .u8 10, .int .u8 9] t frozen
   | o => o).modify 2 fun
   | .cells _ t frozen => .cells #[.int .u8 0, .int .u8 1, .int .u8 56, .int .u8 2, .int .u8 57, .int .u8 49, .int .u8 28, .int .u8 3, .int .u8 61, .int .u8 58, .int .u8 42, .int .u8 50, .int .u8 38, .int .u8 29, .int .u8 17, .int .u8 4, .int .u8 62, .int .u8 47, .int .u8 59, .int .u8 36, .int .u8 45, .int .u8 43, .int .u8 51, .int .u8 22, .int .u8 53, .int .u8 39, .int .u8 33, .int .u8 30, .int .u8 24, .int .u8 18, .int .u8 12, .int .u8 5, .int .u8 63, .int .u8 55, .int .u8 48, .int .u8 27, .int .u8 60, .int .u8 41, .int .u8 37, .int .u8 16, .int .u8 46, .int .u8 35, .int .u8 44, .int .u8 21, .int .u8 52, .int .u8 32, .int .u8 23, .int .u8 11, .int .u8 54, .int .u8 26, .int .u8 40, .int .u8 15, .int .u8 34, .int .u8 20, .int .u8 31, .int .u8 10, .int .u8 25, .int .u8 14, .int .u8 19, .int .u8 9, .int .u8 13, .int .u8 8, .int .u8 7, .int .u8 6] t frozen
   | o => o }
end Go.Proofs.YtpacdigfnneoeaaGreatDoor
