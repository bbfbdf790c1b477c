/- What the proof of FnExactJudgeHere leans on: contracts of the program's and the specification's functions, and plain facts (part 5 of 11). -/
import Derived.Test.YtpacdigfnneoeaaGreatDoorFnExactJudgeHereD
set_option maxHeartbeats 16000000
set_option maxRecDepth 100000
namespace Go.Proofs.YtpacdigfnneoeaaGreatDoor
open Go.RowKit
open Go.Lib hiding intOf
structure RpLen (d : RpD) : Prop where
 qfs : d.qfs.length ≤ 1048576
 rfs : d.rfs.length ≤ 1048576
 oxs : d.oxs.length ≤ 1048576
 oys : d.oys.length ≤ 1048576
 ofs : d.ofs.length ≤ 1048576
theorem toReply_any (d : RpD) (a3 : Oa) (c3 : Nat) (a6 : Oa) (c6 : Nat) (a11 : Oa) (c11 : Nat) (a12 : Oa) (c12 : Nat) (a14 : Oa) (c14 : Nat) (B : Nat) (w : World) (h3 : ArgF w B a3 d.qfs.length d.qfs) (h6 : ArgF w B a6 d.rfs.length d.rfs) (h11 : ArgT w B a11 d.oxs.length d.oxs) (h12 : ArgT w B a12 d.oys.length d.oys) (h14 : ArgF w B a14 d.ofs.length d.ofs) (hB : B ≤ w.heap.size) (hn : RpLen d) :
  Calls Tryz.prog 47 #[.agg #[.int .i64 d.cli, .int .i64 d.qmt, .string d.qpa, .slice a3 d.qfs.length c3, .string d.qbd, .int .i64 d.rst, .slice a6 d.rfs.length c6, .string d.rbd, .int .i64 d.knd, .int .i64 d.tim, .string d.opa, .slice a11 d.oxs.length c11, .slice a12 d.oys.length c12, .int .i64 d.ost, .slice a14 d.ofs.length c14, .string d.obd, .int .i64 d.otm, .int .i64 d.bns]] w fun e w' => ∃ x : RpV, e = .returned (.agg #[.int .i64 x.d.cli, .int .i64 x.d.qmt, .string x.d.qpa, x.v3, .string x.d.qbd, .int .i64 x.d.rst, x.v6, .string x.d.rbd, .int .i64 x.d.knd, .int .i64 x.d.tim, .string x.d.opa, x.v11, x.v12, .int .i64 x.d.ost, x.v14, .string x.d.obd, .int .i64 x.d.otm, .int .i64 x.d.bns]) ∧ x.d = d ∧ RowsO w' w.heap.size (rpR x) ∧ Below w.heap.size w w' := by
 have HA3 : Hid (∀ W, Below w.heap.size w W → ArgF W B a3 d.qfs.length d.qfs) := fun W h => h3.below (h.mono hB)
 have HA6 : Hid (∀ W, Below w.heap.size w W → ArgF W B a6 d.rfs.length d.rfs) := fun W h => h6.below (h.mono hB)
 have HA11 : Hid (∀ W, Below w.heap.size w W → ArgT W B a11 d.oxs.length d.oxs) := fun W h => h11.below (h.mono hB)
 have HA12 : Hid (∀ W, Below w.heap.size w W → ArgT W B a12 d.oys.length d.oys) := fun W h => h12.below (h.mono hB)
 have HA14 : Hid (∀ W, Below w.heap.size w W → ArgF W B a14 d.ofs.length d.ofs) := fun W h => h14.below (h.mono hB)
 have HBB : Hid (∀ W, Below w.heap.size w W → B ≤ W.heap.size) := fun W h => Nat.le_trans hB h.size
 clear h3 h6 h11 h12 h14
 have hb0 := Below.refl w.heap.size w
 go_enter Tryz.func47, Tryz.ntmps47
 go_upto_region 1 with fail
 obtain ⟨q1, hq1⟩ := exq (w.heap.size)
 obtain ⟨w1, hW1⟩ := exq (w.alloc (.cells #[.int .i64 d.cli, .int .i64 d.qmt, .string d.qpa, .slice a3 d.qfs.length c3, .string d.qbd, .int .i64 d.rst, .slice a6 d.rfs.length c6, .string d.rbd, .int .i64 d.knd, .int .i64 d.tim, .string d.opa, .slice a11 d.oxs.length c11, .slice a12 d.oys.length c12, .int .i64 d.ost, .slice a14 d.ofs.length c14, .string d.obd, .int .i64 d.otm, .int .i64 d.bns] 97))
 have hz1 := hq1.symm
 rw [← hW1]; try rw [← hq1]
 have hs1 := hsa hW1 hz1
 have bw := bal hW1
 have hb1 := hbt hb0 bw
 have B1_1 := hnew hW1 hz1
 clear hb0 bw hW1 hz1
 obtain ⟨q2, hq2⟩ := exq (q1 + 1)
 obtain ⟨w2, hW2⟩ := exq (w1.alloc (.cells #[.int .i64 0, .int .i64 0, .string ⟨#[]⟩, .slice none 0 0, .string ⟨#[]⟩, .int .i64 0, .slice none 0 0, .string ⟨#[]⟩, .int .i64 0, .int .i64 0, .string ⟨#[]⟩, .slice none 0 0, .slice none 0 0, .int .i64 0, .slice none 0 0, .string ⟨#[]⟩, .int .i64 0, .int .i64 0] 64))
 have hz2 : w1.heap.size = q2 := by rw [hq2]; exact hs1
 rw [← hW2]; try rw [← hq2]
 have hs2 := hsa hW2 hz2
 have bw := bal hW2
 have hb2 := hbt hb1 bw
 have B1_2 := hblk B1_1 bw
 have Nv1v2 := hnq B1_1 hz2
 have B2_2 := hnew hW2 hz2
 have Gv2 := hge hz2 hb1
 clear hb1 bw hW2 hz2
 clear hs2 hq2 hs1 hq1
 go_upto_region 2 with fail
 obtain ⟨q3, hq3⟩ := exq (w2.heap.size)
 obtain ⟨w3, hW3⟩ := exq (w2.alloc (.cells #[.int .i64 0, .int .i64 0, .string ⟨#[]⟩, .slice none 0 0, .string ⟨#[]⟩, .int .i64 0, .slice none 0 0, .string ⟨#[]⟩, .int .i64 0, .int .i64 0, .string ⟨#[]⟩, .slice none 0 0, .slice none 0 0, .int .i64 0, .slice none 0 0, .string ⟨#[]⟩, .int .i64 0, .int .i64 0] 64))
 have hz3 := hq3.symm
 rw [← hW3]; try rw [← hq3]
 have hs3 := hsa hW3 hz3
 have bw := bal hW3
 have hb3 := hbt hb2 bw
 have B1_3 := hblk B1_2 bw
 have B2_3 := hblk B2_2 bw
 have Nv1v3 := hnq B1_2 hz3
 have Nv2v3 := hnq B2_2 hz3
 have B3_3 := hnew hW3 hz3
 have Gv3 := hge hz3 hb2
 clear hb2 bw hW3 hz3
 clear hs3 hq3
 have c1_0 := hcl B1_3 0 rfl
 have c3_0 := hcl B3_3 0 rfl
 have f3_0 := hfz B3_3 0
 go_upto_region 3 with fail
 obtain ⟨w4, hW4⟩ := exq (w3.setCell ⟨q3, 0, none⟩ (.int .i64 d.cli))
 rw [← hW4]
 have hb4 := hbS hW4 hb3 Gv3
 have B1_4 := hset hW4 Nv1v3.out B1_3
 have B2_4 := hset hW4 Nv2v3.out B2_3
 have B3_4 := hput hW4 B3_3
 clear hb3 hW4
 clear c1_0 c3_0 f3_0
 have c1_1 := hcl B1_4 1 rfl
 have c1_2 := hcl B1_4 2 rfl
 have c1_3 := hcl B1_4 3 rfl
 have c1_4 := hcl B1_4 4 rfl
 go_wp2_with fail
 refine (toReq_any d.qmt d.qpa a3 d.qfs.length c3 d.qbd d.qfs B _ (HA3.out _ hb4) (HBB.out _ hb4) hn.qfs).mono ?_
 rintro e w5 ⟨vv, rfl, hown, bw⟩
 obtain ⟨o3, p3, rfl⟩ := slice_of_owns hown
 have HRN : Hid (RowsO w5 w.heap.size ([(⟨185, 2, (.slice o3 d.qfs.length p3), d.qfs.length, flatF d.qfs⟩ : Rw)])) := RowsO.wide (RowsO.one (r := (⟨185, 2, (.slice o3 d.qfs.length p3), d.qfs.length, flatF d.qfs⟩ : Rw)) hown) hb4.size
 have HT1 : Hid (∀ r ∈ ([(⟨185, 2, (.slice o3 d.qfs.length p3), d.qfs.length, flatF d.qfs⟩ : Rw)]), 64 ≠ r.T) := by
  intro r hr
  simp only [List.mem_cons, List.not_mem_nil, or_false] at hr
  rcases hr with rfl
  · exact (by decide : (64 : TypeId) ≠ 185)
 clear hown
 have hb5 := hbt hb4 bw
 have B1_5 := hblk B1_4 bw
 have B2_5 := hblk B2_4 bw
 have B3_5 := hblk B3_4 bw
 clear hb4 bw
 have ER_5 := HRN
 clear HRN
 clear c1_1 c1_2 c1_3 c1_4
 have c3_1 := hcl B3_5 1 rfl
 have f3_1 := hfz B3_5 1
 have c3_2 := hcl B3_5 2 rfl
 have f3_2 := hfz B3_5 2
 have c3_3 := hcl B3_5 3 rfl
 have f3_3 := hfz B3_5 3
 have c3_4 := hcl B3_5 4 rfl
 have f3_4 := hfz B3_5 4
 go_upto_region 4 with fail
 obtain ⟨w6, hW6⟩ := exq (w5.setCell ⟨q3, 1, none⟩ (.int .i64 d.qmt))
 rw [← hW6]
 have hb6 := hbS hW6 hb5 Gv3
 have B1_6 := hset hW6 Nv1v3.out B1_5
 have B2_6 := hset hW6 Nv2v3.out B2_5
 have ER_6 := erS hW6 ER_5 B3_5 HT1.out
 have B3_6 := hput hW6 B3_5
 clear hb5 hW6
 obtain ⟨w7, hW7⟩ := exq (w6.setCell ⟨q3, 2, none⟩ (.string d.qpa))
 rw [← hW7]
 have hb7 := hbS hW7 hb6 Gv3
 have B1_7 := hset hW7 Nv1v3.out B1_6
 have B2_7 := hset hW7 Nv2v3.out B2_6
 have ER_7 := erS hW7 ER_6 B3_6 HT1.out
 have B3_7 := hput hW7 B3_6
 clear hb6 hW7
 obtain ⟨w8, hW8⟩ := exq (w7.setCell ⟨q3, 3, none⟩ (.slice o3 d.qfs.length p3))
 rw [← hW8]
 have hb8 := hbS hW8 hb7 Gv3
 have B1_8 := hset hW8 Nv1v3.out B1_7
 have B2_8 := hset hW8 Nv2v3.out B2_7
 have ER_8 := erS hW8 ER_7 B3_7 HT1.out
 have B3_8 := hput hW8 B3_7
 clear hb7 hW8
 obtain ⟨w9, hW9⟩ := exq (w8.setCell ⟨q3, 4, none⟩ (.string d.qbd))
 rw [← hW9]
 have hb9 := hbS hW9 hb8 Gv3
 have B1_9 := hset hW9 Nv1v3.out B1_8
 have B2_9 := hset hW9 Nv2v3.out B2_8
 have ER_9 := erS hW9 ER_8 B3_8 HT1.out
 have B3_9 := hput hW9 B3_8
 clear hb8 hW9
 clear c3_1 f3_1 c3_2 f3_2 c3_3 f3_3 c3_4 f3_4
 have c1_5 := hcl B1_9 5 rfl
 have c1_6 := hcl B1_9 6 rfl
 have c1_7 := hcl B1_9 7 rfl
 go_wp2_with fail
 refine (toResp_any d.rst a6 d.rfs.length c6 d.rbd d.rfs B _ (HA6.out _ hb9) (HBB.out _ hb9) hn.rfs).mono ?_
 rintro e w10 ⟨vv, rfl, hown, bw⟩
 obtain ⟨o6, p6, rfl⟩ := slice_of_owns hown
 have HRN : Hid (RowsO w10 w.heap.size ([(⟨185, 2, (.slice o3 d.qfs.length p3), d.qfs.length, flatF d.qfs⟩ : Rw), (⟨185, 2, (.slice o6 d.rfs.length p6), d.rfs.length, flatF d.rfs⟩ : Rw)])) := ER_9.out.more bw (RowsO.one (r := (⟨185, 2, (.slice o6 d.rfs.length p6), d.rfs.length, flatF d.rfs⟩ : Rw)) hown) (Nat.le_refl _) hb9.size
 have HT2 : Hid (∀ r ∈ ([(⟨185, 2, (.slice o3 d.qfs.length p3), d.qfs.length, flatF d.qfs⟩ : Rw), (⟨185, 2, (.slice o6 d.rfs.length p6), d.rfs.length, flatF d.rfs⟩ : Rw)]), 64 ≠ r.T) := by
  intro r hr
  simp only [List.mem_cons, List.not_mem_nil, or_false] at hr
  rcases hr with rfl | rfl
  · exact (by decide : (64 : TypeId) ≠ 185)
  · exact (by decide : (64 : TypeId) ≠ 185)
 clear hown
 have hb10 := hbt hb9 bw
 have B1_10 := hblk B1_9 bw
 have B2_10 := hblk B2_9 bw
 have B3_10 := hblk B3_9 bw
 have ER_10 := hid (ER_9.out.below bw)
 clear hb9 bw
 clear ER_10
 have ER_10 := HRN
 clear HRN
 clear c1_5 c1_6 c1_7
 have c3_5 := hcl B3_10 5 rfl
 have f3_5 := hfz B3_10 5
 have c3_6 := hcl B3_10 6 rfl
 have f3_6 := hfz B3_10 6
 have c3_7 := hcl B3_10 7 rfl
 have f3_7 := hfz B3_10 7
 go_upto_region 5 with fail
 obtain ⟨w11, hW11⟩ := exq (w10.setCell ⟨q3, 5, none⟩ (.int .i64 d.rst))
 rw [← hW11]
 have hb11 := hbS hW11 hb10 Gv3
 have B1_11 := hset hW11 Nv1v3.out B1_10
 have B2_11 := hset hW11 Nv2v3.out B2_10
 have ER_11 := erS hW11 ER_10 B3_10 HT2.out
 have B3_11 := hput hW11 B3_10
 clear hb10 hW11
 obtain ⟨w12, hW12⟩ := exq (w11.setCell ⟨q3, 6, none⟩ (.slice o6 d.rfs.length p6))
 rw [← hW12]
 have hb12 := hbS hW12 hb11 Gv3
 have B1_12 := hset hW12 Nv1v3.out B1_11
 have B2_12 := hset hW12 Nv2v3.out B2_11
 have ER_12 := erS hW12 ER_11 B3_11 HT2.out
 have B3_12 := hput hW12 B3_11
 clear hb11 hW12
 obtain ⟨w13, hW13⟩ := exq (w12.setCell ⟨q3, 7, none⟩ (.string d.rbd))
 rw [← hW13]
 have hb13 := hbS hW13 hb12 Gv3
 have B1_13 := hset hW13 Nv1v3.out B1_12
 have B2_13 := hset hW13 Nv2v3.out B2_12
 have ER_13 := erS hW13 ER_12 B3_12 HT2.out
 have B3_13 := hput hW13 B3_12
 clear hb12 hW13
 clear c3_5 f3_5 c3_6 f3_6 c3_7 f3_7
 have c1_8 := hcl B1_13 8 rfl
 have c3_8 := hcl B3_13 8 rfl
 have f3_8 := hfz B3_13 8
 go_upto_region 6 with fail
 obtain ⟨w14, hW14⟩ := exq (w13.setCell ⟨q3, 8, none⟩ (.int .i64 d.knd))
 rw [← hW14]
 have hb14 := hbS hW14 hb13 Gv3
 have B1_14 := hset hW14 Nv1v3.out B1_13
 have B2_14 := hset hW14 Nv2v3.out B2_13
 have ER_14 := erS hW14 ER_13 B3_13 HT2.out
 have B3_14 := hput hW14 B3_13
 clear hb13 hW14
 clear c1_8 c3_8 f3_8
 have c1_9 := hcl B1_14 9 rfl
 have c3_9 := hcl B3_14 9 rfl
 have f3_9 := hfz B3_14 9
 go_upto_region 7 with fail
 obtain ⟨w15, hW15⟩ := exq (w14.setCell ⟨q3, 9, none⟩ (.int .i64 d.tim))
 rw [← hW15]
 have hb15 := hbS hW15 hb14 Gv3
 have B1_15 := hset hW15 Nv1v3.out B1_14
 have B2_15 := hset hW15 Nv2v3.out B2_14
 have ER_15 := erS hW15 ER_14 B3_14 HT2.out
 have B3_15 := hput hW15 B3_14
 clear hb14 hW15
 clear c1_9 c3_9 f3_9
 have c1_10 := hcl B1_15 10 rfl
 have c1_11 := hcl B1_15 11 rfl
 have c1_12 := hcl B1_15 12 rfl
 have c1_13 := hcl B1_15 13 rfl
 have c1_14 := hcl B1_15 14 rfl
 have c1_15 := hcl B1_15 15 rfl
 have c1_16 := hcl B1_15 16 rfl
 go_wp2_with fail
 refine (toObj_any d.opa a11 d.oxs.length c11 d.oxs a12 d.oys.length c12 d.oys d.ost a14 d.ofs.length c14 d.ofs d.obd d.otm B _ (HA11.out _ hb15) (HA12.out _ hb15) (HA14.out _ hb15) (HBB.out _ hb15) hn.oxs hn.oys hn.ofs).mono ?_
 rintro e w16 ⟨vv1, vv2, vv3, rfl, hobj, bw⟩
 obtain ⟨o11, p11, rfl⟩ := slice_of_owns hobj.names
 obtain ⟨o12, p12, rfl⟩ := slice_of_owns hobj.vals
 obtain ⟨o14, p14, rfl⟩ := slice_of_owns hobj.flds
 have HRN : Hid (RowsO w16 w.heap.size ([(⟨185, 2, (.slice o3 d.qfs.length p3), d.qfs.length, flatF d.qfs⟩ : Rw), (⟨185, 2, (.slice o6 d.rfs.length p6), d.rfs.length, flatF d.rfs⟩ : Rw), (⟨9, 1, (.slice o11 d.oxs.length p11), d.oxs.length, d.oxs.map Value.string⟩ : Rw), (⟨9, 1, (.slice o12 d.oys.length p12), d.oys.length, d.oys.map Value.string⟩ : Rw), (⟨185, 2, (.slice o14 d.ofs.length p14), d.ofs.length, flatF d.ofs⟩ : Rw)])) := ER_15.out.more bw (obj_rows3 hobj) (Nat.le_refl _) hb15.size
 have HT5 : Hid (∀ r ∈ ([(⟨185, 2, (.slice o3 d.qfs.length p3), d.qfs.length, flatF d.qfs⟩ : Rw), (⟨185, 2, (.slice o6 d.rfs.length p6), d.rfs.length, flatF d.rfs⟩ : Rw), (⟨9, 1, (.slice o11 d.oxs.length p11), d.oxs.length, d.oxs.map Value.string⟩ : Rw), (⟨9, 1, (.slice o12 d.oys.length p12), d.oys.length, d.oys.map Value.string⟩ : Rw), (⟨185, 2, (.slice o14 d.ofs.length p14), d.ofs.length, flatF d.ofs⟩ : Rw)]), 64 ≠ r.T) := by
  intro r hr
  simp only [List.mem_cons, List.not_mem_nil, or_false] at hr
  rcases hr with rfl | rfl | rfl | rfl | rfl
  · exact (by decide : (64 : TypeId) ≠ 185)
  · exact (by decide : (64 : TypeId) ≠ 185)
  · exact (by decide : (64 : TypeId) ≠ 9)
  · exact (by decide : (64 : TypeId) ≠ 9)
  · exact (by decide : (64 : TypeId) ≠ 185)
 clear hobj
 have hb16 := hbt hb15 bw
 have B1_16 := hblk B1_15 bw
 have B2_16 := hblk B2_15 bw
 have B3_16 := hblk B3_15 bw
 have ER_16 := hid (ER_15.out.below bw)
 clear hb15 bw
 clear ER_16
 have ER_16 := HRN
 clear HRN
 clear c1_10 c1_11 c1_12 c1_13 c1_14 c1_15 c1_16
 have c3_10 := hcl B3_16 10 rfl
 have f3_10 := hfz B3_16 10
 have c3_11 := hcl B3_16 11 rfl
 have f3_11 := hfz B3_16 11
 have c3_12 := hcl B3_16 12 rfl
 have f3_12 := hfz B3_16 12
 have c3_13 := hcl B3_16 13 rfl
 have f3_13 := hfz B3_16 13
 have c3_14 := hcl B3_16 14 rfl
 have f3_14 := hfz B3_16 14
 have c3_15 := hcl B3_16 15 rfl
 have f3_15 := hfz B3_16 15
 have c3_16 := hcl B3_16 16 rfl
 have f3_16 := hfz B3_16 16
 go_upto_region 8 with fail
 obtain ⟨w17, hW17⟩ := exq (w16.setCell ⟨q3, 10, none⟩ (.string d.opa))
 rw [← hW17]
 have hb17 := hbS hW17 hb16 Gv3
 have B1_17 := hset hW17 Nv1v3.out B1_16
 have B2_17 := hset hW17 Nv2v3.out B2_16
 have ER_17 := erS hW17 ER_16 B3_16 HT5.out
 have B3_17 := hput hW17 B3_16
 clear hb16 hW17
 obtain ⟨w18, hW18⟩ := exq (w17.setCell ⟨q3, 11, none⟩ (.slice o11 d.oxs.length p11))
 rw [← hW18]
 have hb18 := hbS hW18 hb17 Gv3
 have B1_18 := hset hW18 Nv1v3.out B1_17
 have B2_18 := hset hW18 Nv2v3.out B2_17
 have ER_18 := erS hW18 ER_17 B3_17 HT5.out
 have B3_18 := hput hW18 B3_17
 clear hb17 hW18
 obtain ⟨w19, hW19⟩ := exq (w18.setCell ⟨q3, 12, none⟩ (.slice o12 d.oys.length p12))
 rw [← hW19]
 have hb19 := hbS hW19 hb18 Gv3
 have B1_19 := hset hW19 Nv1v3.out B1_18
 have B2_19 := hset hW19 Nv2v3.out B2_18
 have ER_19 := erS hW19 ER_18 B3_18 HT5.out
 have B3_19 := hput hW19 B3_18
 clear hb18 hW19
 obtain ⟨w20, hW20⟩ := exq (w19.setCell ⟨q3, 13, none⟩ (.int .i64 d.ost))
 rw [← hW20]
 have hb20 := hbS hW20 hb19 Gv3
 have B1_20 := hset hW20 Nv1v3.out B1_19
 have B2_20 := hset hW20 Nv2v3.out B2_19
 have ER_20 := erS hW20 ER_19 B3_19 HT5.out
 have B3_20 := hput hW20 B3_19
 clear hb19 hW20
 obtain ⟨w21, hW21⟩ := exq (w20.setCell ⟨q3, 14, none⟩ (.slice o14 d.ofs.length p14))
 rw [← hW21]
 have hb21 := hbS hW21 hb20 Gv3
 have B1_21 := hset hW21 Nv1v3.out B1_20
 have B2_21 := hset hW21 Nv2v3.out B2_20
 have ER_21 := erS hW21 ER_20 B3_20 HT5.out
 have B3_21 := hput hW21 B3_20
 clear hb20 hW21
 obtain ⟨w22, hW22⟩ := exq (w21.setCell ⟨q3, 15, none⟩ (.string d.obd))
 rw [← hW22]
 have hb22 := hbS hW22 hb21 Gv3
 have B1_22 := hset hW22 Nv1v3.out B1_21
 have B2_22 := hset hW22 Nv2v3.out B2_21
 have ER_22 := erS hW22 ER_21 B3_21 HT5.out
 have B3_22 := hput hW22 B3_21
 clear hb21 hW22
 obtain ⟨w23, hW23⟩ := exq (w22.setCell ⟨q3, 16, none⟩ (.int .i64 d.otm))
 rw [← hW23]
 have hb23 := hbS hW23 hb22 Gv3
 have B1_23 := hset hW23 Nv1v3.out B1_22
 have B2_23 := hset hW23 Nv2v3.out B2_22
 have ER_23 := erS hW23 ER_22 B3_22 HT5.out
 have B3_23 := hput hW23 B3_22
 clear hb22 hW23
 clear c3_10 f3_10 c3_11 f3_11 c3_12 f3_12 c3_13 f3_13 c3_14 f3_14 c3_15 f3_15 c3_16 f3_16
 have c1_17 := hcl B1_23 17 rfl
 have c3_17 := hcl B3_23 17 rfl
 have f3_17 := hfz B3_23 17
 go_upto_region 9 with fail
 obtain ⟨w24, hW24⟩ := exq (w23.setCell ⟨q3, 17, none⟩ (.int .i64 d.bns))
 rw [← hW24]
 have hb24 := hbS hW24 hb23 Gv3
 have B1_24 := hset hW24 Nv1v3.out B1_23
 have B2_24 := hset hW24 Nv2v3.out B2_23
 have ER_24 := erS hW24 ER_23 B3_23 HT5.out
 have B3_24 := hput hW24 B3_23
 clear hb23 hW24
 clear c1_17 c3_17 f3_17
 have HRGv3 : World.rangeAt (w24) q3 0 [.int .i64 d.cli, .int .i64 d.qmt, .string d.qpa, .slice o3 d.qfs.length p3, .string d.qbd, .int .i64 d.rst, .slice o6 d.rfs.length p6, .string d.rbd, .int .i64 d.knd, .int .i64 d.tim, .string d.opa, .slice o11 d.oxs.length p11, .slice o12 d.oys.length p12, .int .i64 d.ost, .slice o14 d.ofs.length p14, .string d.obd, .int .i64 d.otm, .int .i64 d.bns] := range_of B3_24.out
 have HIFv3 : (Tryz.prog.info? 64).map (·.size) = some 18 := by kernel_rfl
 have c2_0 := hcl B2_24 0 rfl
 have f2_0 := hfz B2_24 0
 have c2_1 := hcl B2_24 1 rfl
 have f2_1 := hfz B2_24 1
 have c2_2 := hcl B2_24 2 rfl
 have f2_2 := hfz B2_24 2
 have c2_3 := hcl B2_24 3 rfl
 have f2_3 := hfz B2_24 3
 have c2_4 := hcl B2_24 4 rfl
 have f2_4 := hfz B2_24 4
 have c2_5 := hcl B2_24 5 rfl
 have f2_5 := hfz B2_24 5
 have c2_6 := hcl B2_24 6 rfl
 have f2_6 := hfz B2_24 6
 have c2_7 := hcl B2_24 7 rfl
 have f2_7 := hfz B2_24 7
 have c2_8 := hcl B2_24 8 rfl
 have f2_8 := hfz B2_24 8
 have c2_9 := hcl B2_24 9 rfl
 have f2_9 := hfz B2_24 9
 have c2_10 := hcl B2_24 10 rfl
 have f2_10 := hfz B2_24 10
 have c2_11 := hcl B2_24 11 rfl
 have f2_11 := hfz B2_24 11
 have c2_12 := hcl B2_24 12 rfl
 have f2_12 := hfz B2_24 12
 have c2_13 := hcl B2_24 13 rfl
 have f2_13 := hfz B2_24 13
 have c2_14 := hcl B2_24 14 rfl
 have f2_14 := hfz B2_24 14
 have c2_15 := hcl B2_24 15 rfl
 have f2_15 := hfz B2_24 15
 have c2_16 := hcl B2_24 16 rfl
 have f2_16 := hfz B2_24 16
 have c2_17 := hcl B2_24 17 rfl
 have f2_17 := hfz B2_24 17
 have HTH : World.there (w24) q2 0 18 := there_of B2_24.out rfl
 have HIF : (Tryz.prog.info? 64).map (·.size) = some 18 := by kernel_rfl
 have HRG : World.rangeAt (w24) q3 0 [.int .i64 d.cli, .int .i64 d.qmt, .string d.qpa, .slice o3 d.qfs.length p3, .string d.qbd, .int .i64 d.rst, .slice o6 d.rfs.length p6, .string d.rbd, .int .i64 d.knd, .int .i64 d.tim, .string d.opa, .slice o11 d.oxs.length p11, .slice o12 d.oys.length p12, .int .i64 d.ost, .slice o14 d.ofs.length p14, .string d.obd, .int .i64 d.otm, .int .i64 d.bns] := range_of B3_24.out
 go_wp2_with (first | (refine wpList_load_mid rfl 64 _ rfl q3 0 rfl [.int .i64 d.cli, .int .i64 d.qmt, .string d.qpa, .slice o3 d.qfs.length p3, .string d.qbd, .int .i64 d.rst, .slice o6 d.rfs.length p6, .string d.rbd, .int .i64 d.knd, .int .i64 d.tim, .string d.opa, .slice o11 d.oxs.length p11, .slice o12 d.oys.length p12, .int .i64 d.ost, .slice o14 d.ofs.length p14, .string d.obd, .int .i64 d.otm, .int .i64 d.bns] _ HRG Tryz.underlying64 rfl HIF ?_) | (refine wpList_store_mid rfl 64 _ _ rfl q2 0 #[.int .i64 d.cli, .int .i64 d.qmt, .string d.qpa, .slice o3 d.qfs.length p3, .string d.qbd, .int .i64 d.rst, .slice o6 d.rfs.length p6, .string d.rbd, .int .i64 d.knd, .int .i64 d.tim, .string d.opa, .slice o11 d.oxs.length p11, .slice o12 d.oys.length p12, .int .i64 d.ost, .slice o14 d.ofs.length p14, .string d.obd, .int .i64 d.otm, .int .i64 d.bns] rfl rfl HTH HIF (by simp [Value.oneCell']) ?_) | fail)
 clear HTH HIF HRG
 obtain ⟨w25, hW25⟩ := exq (w24.setCells q2 0 [.int .i64 d.cli, .int .i64 d.qmt, .string d.qpa, .slice o3 d.qfs.length p3, .string d.qbd, .int .i64 d.rst, .slice o6 d.rfs.length p6, .string d.rbd, .int .i64 d.knd, .int .i64 d.tim, .string d.opa, .slice o11 d.oxs.length p11, .slice o12 d.oys.length p12, .int .i64 d.ost, .slice o14 d.ofs.length p14, .string d.obd, .int .i64 d.otm, .int .i64 d.bns])
 have hWn : w25 = ((((((((((((((((((w24.setCell ⟨q2, 0, none⟩ (.int .i64 d.cli)).setCell ⟨q2, 1, none⟩ (.int .i64 d.qmt)).setCell ⟨q2, 2, none⟩ (.string d.qpa)).setCell ⟨q2, 3, none⟩ (.slice o3 d.qfs.length p3)).setCell ⟨q2, 4, none⟩ (.string d.qbd)).setCell ⟨q2, 5, none⟩ (.int .i64 d.rst)).setCell ⟨q2, 6, none⟩ (.slice o6 d.rfs.length p6)).setCell ⟨q2, 7, none⟩ (.string d.rbd)).setCell ⟨q2, 8, none⟩ (.int .i64 d.knd)).setCell ⟨q2, 9, none⟩ (.int .i64 d.tim)).setCell ⟨q2, 10, none⟩ (.string d.opa)).setCell ⟨q2, 11, none⟩ (.slice o11 d.oxs.length p11)).setCell ⟨q2, 12, none⟩ (.slice o12 d.oys.length p12)).setCell ⟨q2, 13, none⟩ (.int .i64 d.ost)).setCell ⟨q2, 14, none⟩ (.slice o14 d.ofs.length p14)).setCell ⟨q2, 15, none⟩ (.string d.obd)).setCell ⟨q2, 16, none⟩ (.int .i64 d.otm)).setCell ⟨q2, 17, none⟩ (.int .i64 d.bns)) := hW25
 first | rw [← hWn] | rw [← hW25]
 clear hWn
 have hb25 : Below w.heap.size w (w25) := by rw [hW25]; exact big_below Gv2.out hb24
 have B1_25 : Hid (w25.heap[q1]? = some (.cells #[.int .i64 d.cli, .int .i64 d.qmt, .string d.qpa, .slice a3 d.qfs.length c3, .string d.qbd, .int .i64 d.rst, .slice a6 d.rfs.length c6, .string d.rbd, .int .i64 d.knd, .int .i64 d.tim, .string d.opa, .slice a11 d.oxs.length c11, .slice a12 d.oys.length c12, .int .i64 d.ost, .slice a14 d.ofs.length c14, .string d.obd, .int .i64 d.otm, .int .i64 d.bns] 97)) := by show _ = _; rw [hW25, big_other Nv1v2.out]; exact B1_24.out
 have B3_25 : Hid (w25.heap[q3]? = some (.cells #[.int .i64 d.cli, .int .i64 d.qmt, .string d.qpa, .slice o3 d.qfs.length p3, .string d.qbd, .int .i64 d.rst, .slice o6 d.rfs.length p6, .string d.rbd, .int .i64 d.knd, .int .i64 d.tim, .string d.opa, .slice o11 d.oxs.length p11, .slice o12 d.oys.length p12, .int .i64 d.ost, .slice o14 d.ofs.length p14, .string d.obd, .int .i64 d.otm, .int .i64 d.bns] 64)) := by show _ = _; rw [hW25, big_other Nv2v3.out.symm]; exact B3_24.out
 have ER_25 : Hid (RowsO (w25) w.heap.size ([(⟨185, 2, (.slice o3 d.qfs.length p3), d.qfs.length, flatF d.qfs⟩ : Rw), (⟨185, 2, (.slice o6 d.rfs.length p6), d.rfs.length, flatF d.rfs⟩ : Rw), (⟨9, 1, (.slice o11 d.oxs.length p11), d.oxs.length, d.oxs.map Value.string⟩ : Rw), (⟨9, 1, (.slice o12 d.oys.length p12), d.oys.length, d.oys.map Value.string⟩ : Rw), (⟨185, 2, (.slice o14 d.ofs.length p14), d.ofs.length, flatF d.ofs⟩ : Rw)])) := by show RowsO _ _ _; rw [hW25]; exact RowsO.big ER_24.out B2_24.out HT5.out
 have B2_25 : Hid (w25.heap[q2]? = some (.cells #[.int .i64 d.cli, .int .i64 d.qmt, .string d.qpa, .slice o3 d.qfs.length p3, .string d.qbd, .int .i64 d.rst, .slice o6 d.rfs.length p6, .string d.rbd, .int .i64 d.knd, .int .i64 d.tim, .string d.opa, .slice o11 d.oxs.length p11, .slice o12 d.oys.length p12, .int .i64 d.ost, .slice o14 d.ofs.length p14, .string d.obd, .int .i64 d.otm, .int .i64 d.bns] 64)) := by show _ = _; rw [hW25]; exact big_block (ds := #[.int .i64 d.cli, .int .i64 d.qmt, .string d.qpa, .slice o3 d.qfs.length p3, .string d.qbd, .int .i64 d.rst, .slice o6 d.rfs.length p6, .string d.rbd, .int .i64 d.knd, .int .i64 d.tim, .string d.opa, .slice o11 d.oxs.length p11, .slice o12 d.oys.length p12, .int .i64 d.ost, .slice o14 d.ofs.length p14, .string d.obd, .int .i64 d.otm, .int .i64 d.bns]) B2_24.out rfl
 clear hb24 hW25
 clear HRGv3 HIFv3 c2_0 f2_0 c2_1 f2_1 c2_2 f2_2 c2_3 f2_3 c2_4 f2_4 c2_5 f2_5 c2_6 f2_6 c2_7 f2_7 c2_8 f2_8 c2_9 f2_9 c2_10 f2_10 c2_11 f2_11 c2_12 f2_12 c2_13 f2_13 c2_14 f2_14 c2_15 f2_15 c2_16 f2_16 c2_17 f2_17
 have kv2_0 := hcl B2_25 0 rfl
 have kv2_1 := hcl B2_25 1 rfl
 have kv2_2 := hcl B2_25 2 rfl
 have kv2_3 := hcl B2_25 3 rfl
 have kv2_4 := hcl B2_25 4 rfl
 have kv2_5 := hcl B2_25 5 rfl
 have kv2_6 := hcl B2_25 6 rfl
 have kv2_7 := hcl B2_25 7 rfl
 have kv2_8 := hcl B2_25 8 rfl
 have kv2_9 := hcl B2_25 9 rfl
 have kv2_10 := hcl B2_25 10 rfl
 have kv2_11 := hcl B2_25 11 rfl
 have kv2_12 := hcl B2_25 12 rfl
 have kv2_13 := hcl B2_25 13 rfl
 have kv2_14 := hcl B2_25 14 rfl
 have kv2_15 := hcl B2_25 15 rfl
 have kv2_16 := hcl B2_25 16 rfl
 have kv2_17 := hcl B2_25 17 rfl
 refine bodyPost_ret (v := .agg #[.int .i64 d.cli, .int .i64 d.qmt, .string d.qpa, .slice o3 d.qfs.length p3, .string d.qbd, .int .i64 d.rst, .slice o6 d.rfs.length p6, .string d.rbd, .int .i64 d.knd, .int .i64 d.tim, .string d.opa, .slice o11 d.oxs.length p11, .slice o12 d.oys.length p12, .int .i64 d.ost, .slice o14 d.ofs.length p14, .string d.obd, .int .i64 d.otm, .int .i64 d.bns]) (by simp [results, Tryz.results47, go_sem, kv2_0, kv2_1, kv2_2, kv2_3, kv2_4, kv2_5, kv2_6, kv2_7, kv2_8, kv2_9, kv2_10, kv2_11, kv2_12, kv2_13, kv2_14, kv2_15, kv2_16, kv2_17]) rfl ?_
 exact ⟨⟨d, .slice o3 d.qfs.length p3, .slice o6 d.rfs.length p6, .slice o11 d.oxs.length p11, .slice o12 d.oys.length p12, .slice o14 d.ofs.length p14⟩, rfl, rfl, ER_25.out, hb25⟩
structure RpMax (d : RpD) : Prop where
 qpa : d.qpa.size ≤ maxLen
 qfs : d.qfs.length ≤ maxLen ∧ WalkF d.qfs.length d.qfs
 qbd : d.qbd.size ≤ maxLen
 rfs : d.rfs.length ≤ maxLen ∧ WalkF d.rfs.length d.rfs
 rbd : d.rbd.size ≤ maxLen
 opa : d.opa.size ≤ maxLen
 oxs : d.oxs.length ≤ maxLen ∧ ∀ i, i < d.oxs.length → (textAt d.oxs i).size ≤ maxLen
 oys : d.oys.length ≤ maxLen ∧ ∀ i, i < d.oys.length → (textAt d.oys i).size ≤ maxLen
 ofs : d.ofs.length ≤ maxLen ∧ WalkF d.ofs.length d.ofs
 obd : d.obd.size ≤ maxLen
 tms : -9223372036854775808 ≤ d.otm ∧ d.tim ≤ 9223372036854775807
 cls : -9223372036854775808 ≤ d.cli ∧ d.cli ≤ 9223372036854775807
structure RpSmall (d : RpD) : Prop where
 qpa : d.qpa.size ≤ 1048576
 qfs : d.qfs.length ≤ 1048576 ∧ szTo d.qfs d.qfs.length ≤ 1048576
 qbd : d.qbd.size ≤ 1048576
 rfs : d.rfs.length ≤ 1048576 ∧ szTo d.rfs d.rfs.length ≤ 1048576
 rbd : d.rbd.size ≤ 1048576
 opa : d.opa.size ≤ 1048576
 oxs : d.oxs.length ≤ 1048576 ∧ ∀ i, i < d.oxs.length → (textAt d.oxs i).size ≤ 1048576
 oys : d.oys.length ≤ 1048576 ∧ ∀ i, i < d.oys.length → (textAt d.oys i).size ≤ 1048576
 ofs : d.ofs.length ≤ 1048576 ∧ szTo d.ofs d.ofs.length ≤ 1048576
 obd : d.obd.size ≤ 1048576
theorem RpSmall.lens {d : RpD} (h : RpSmall d) : RpLen d := ⟨h.qfs.1, h.rfs.1, h.oxs.1, h.oys.1, h.ofs.1⟩
def wtRp : List RpD → Nat
 | [] => 0
 | d :: r => 1 + (d.qfs.length + d.rfs.length + d.oxs.length + d.oys.length + d.ofs.length) + wtRp r
theorem wtRp_snoc (d : RpD) : ∀ l : List RpD, wtRp (l ++ [d]) = wtRp l + (1 + (d.qfs.length + d.rfs.length + d.oxs.length + d.oys.length + d.ofs.length))
 | [] => by simp [wtRp]
 | x :: l => by rw [List.cons_append, wtRp, wtRp_snoc d l, wtRp]; omega
theorem wtRp_ge : ∀ l : List RpD, l.length ≤ wtRp l
 | [] => Nat.le_refl _
 | x :: l => by rw [wtRp, List.length_cons]; have := wtRp_ge l; omega
def SzRp (L : Int) (d : RpD) (w : World) (e : Ending) (w' : World) : Prop :=
 ∃ r : Int, e = .returned (.int .i64 r) ∧ r ≤ L ∧ (0 ≤ r → r + ((d.qfs.length + d.rfs.length + d.oxs.length + d.oys.length + d.ofs.length : Nat) : Int) ≤ L ∧ RpSmall d) ∧ Below w.heap.size w w'
theorem szReply_any (L : Int) (hL0 : 0 ≤ L) (hL1 : L ≤ 1048576) (d : RpD) (a3 : Oa) (c3 : Nat) (a6 : Oa) (c6 : Nat) (a11 : Oa) (c11 : Nat) (a12 : Oa) (c12 : Nat) (a14 : Oa) (c14 : Nat) (B : Nat) (w : World) (h3 : ArgF w B a3 d.qfs.length d.qfs) (h6 : ArgF w B a6 d.rfs.length d.rfs) (h11 : ArgT w B a11 d.oxs.length d.oxs) (h12 : ArgT w B a12 d.oys.length d.oys) (h14 : ArgF w B a14 d.ofs.length d.ofs) (hB : B ≤ w.heap.size) (hm : RpMax d) :
  Calls Tryz.prog 30 #[.agg #[.int .i64 d.cli, .int .i64 d.qmt, .string d.qpa, .slice a3 d.qfs.length c3, .string d.qbd, .int .i64 d.rst, .slice a6 d.rfs.length c6, .string d.rbd, .int .i64 d.knd, .int .i64 d.tim, .string d.opa, .slice a11 d.oxs.length c11, .slice a12 d.oys.length c12, .int .i64 d.ost, .slice a14 d.ofs.length c14, .string d.obd, .int .i64 d.otm, .int .i64 d.bns], .int .i64 L] w fun e w' => SzRp L d w e w' := by
 have HA3 : Hid (∀ W, Below w.heap.size w W → ArgF W B a3 d.qfs.length d.qfs) := fun W h => h3.below (h.mono hB)
 have HA6 : Hid (∀ W, Below w.heap.size w W → ArgF W B a6 d.rfs.length d.rfs) := fun W h => h6.below (h.mono hB)
 have HA11 : Hid (∀ W, Below w.heap.size w W → ArgT W B a11 d.oxs.length d.oxs) := fun W h => h11.below (h.mono hB)
 have HA12 : Hid (∀ W, Below w.heap.size w W → ArgT W B a12 d.oys.length d.oys) := fun W h => h12.below (h.mono hB)
 have HA14 : Hid (∀ W, Below w.heap.size w W → ArgF W B a14 d.ofs.length d.ofs) := fun W h => h14.below (h.mono hB)
 have HBB : Hid (∀ W, Below w.heap.size w W → B ≤ W.heap.size) := fun W h => Nat.le_trans hB h.size
 clear h3 h6 h11 h12 h14
 have HMX : Hid (RpMax d) := hm
 clear hm
 have hb0 := Below.refl w.heap.size w
 go_enter Tryz.func30, Tryz.ntmps30
 go_upto_region 1 with fail
 obtain ⟨q1, hq1⟩ := exq (w.heap.size)
 obtain ⟨w1, hW1⟩ := exq (w.alloc (.cells #[.int .i64 d.cli, .int .i64 d.qmt, .string d.qpa, .slice a3 d.qfs.length c3, .string d.qbd, .int .i64 d.rst, .slice a6 d.rfs.length c6, .string d.rbd, .int .i64 d.knd, .int .i64 d.tim, .string d.opa, .slice a11 d.oxs.length c11, .slice a12 d.oys.length c12, .int .i64 d.ost, .slice a14 d.ofs.length c14, .string d.obd, .int .i64 d.otm, .int .i64 d.bns] 97))
 have hz1 := hq1.symm
 rw [← hW1]; try rw [← hq1]
 have hs1 := hsa hW1 hz1
 have bw := bal hW1
 have hb1 := hbt hb0 bw
 have B1_1 := hnew hW1 hz1
 clear hb0 bw hW1 hz1
 clear hs1 hq1
 have c1_1 := hcl B1_1 1 rfl
 have c1_2 := hcl B1_1 2 rfl
 have c1_3 := hcl B1_1 3 rfl
 have c1_4 := hcl B1_1 4 rfl
 go_wp2_with fail
 refine (szReq_room L (by omega) (by omega) d.qmt d.qpa a3 d.qfs.length c3 d.qbd d.qfs _ (argUpF (HA3.out _ hb1) (HBB.out _ hb1)) HMX.out.qfs.1 HMX.out.qfs.2 HMX.out.qpa HMX.out.qbd).mono ?_
 rintro e w2 ⟨r1, rfl, hl1, hr1, bw⟩
 have hb2 := hbt hb1 bw
 have B1_2 := hblk B1_1 bw
 clear hb1 bw
 clear c1_1 c1_2 c1_3 c1_4
 by_cases hc1 : r1 < 0
 ·clear hr1
  go_wp2_with fail
  go_ret
  exact ⟨-1, rfl, by omega, fun h => absurd h (by omega), hb2⟩
 have HR1 : Hid _ := hr1 (by omega)
 clear hr1
 have mr1 := HR1.out.1
 have c1_5 := hcl B1_2 5 rfl
 have c1_6 := hcl B1_2 6 rfl
 have c1_7 := hcl B1_2 7 rfl
 go_wp2_with fail
 refine (szResp_room r1 (by omega) (by omega) d.rst a6 d.rfs.length c6 d.rbd d.rfs _ (argUpF (HA6.out _ hb2) (HBB.out _ hb2)) HMX.out.rfs.1 HMX.out.rfs.2 HMX.out.rbd).mono ?_
 rintro e w3 ⟨r2, rfl, hl2, hr2, bw⟩
 have hb3 := hbt hb2 bw
 have B1_3 := hblk B1_2 bw
 clear hb2 bw
 clear c1_5 c1_6 c1_7
 by_cases hc2 : r2 < 0
 ·clear hr2
  go_wp2_with fail
  go_ret
  exact ⟨-1, rfl, by omega, fun h => absurd h (by omega), hb3⟩
 have HR2 : Hid _ := hr2 (by omega)
 clear hr2
 have mr2 := HR2.out.1
 have c1_10 := hcl B1_3 10 rfl
 have c1_11 := hcl B1_3 11 rfl
 have c1_12 := hcl B1_3 12 rfl
 have c1_13 := hcl B1_3 13 rfl
 have c1_14 := hcl B1_3 14 rfl
 have c1_15 := hcl B1_3 15 rfl
 have c1_16 := hcl B1_3 16 rfl
 go_wp2_with fail
 refine (szObj_any r2 (by omega) (by omega) d.opa a11 d.oxs.length c11 d.oxs a12 d.oys.length c12 d.oys d.ost a14 d.ofs.length c14 d.ofs d.obd d.otm B _ (HA11.out _ hb3) (HA12.out _ hb3) (HA14.out _ hb3) (HBB.out _ hb3) HMX.out.oxs.1 HMX.out.oys.1 HMX.out.ofs.1 HMX.out.oxs.2 HMX.out.oys.2 HMX.out.ofs.2 HMX.out.opa HMX.out.obd).mono ?_
 rintro e w4 ⟨r3, rfl, hl3, hr3, bw⟩
 have hb4 := hbt hb3 bw
 have B1_4 := hblk B1_3 bw
 clear hb3 bw
 clear c1_10 c1_11 c1_12 c1_13 c1_14 c1_15 c1_16
 by_cases hc3 : r3 < 0
 ·clear hr3
  go_wp2_with fail
  go_ret
  exact ⟨-1, rfl, by omega, fun h => absurd h (by omega), hb4⟩
 have HR3 : Hid _ := hr3 (by omega)
 clear hr3
 have mr3 := HR3.out.1
 go_wp2_with fail
 go_ret
 exact ⟨r3, rfl, by omega, fun _ => ⟨by omega, ⟨HR1.out.2.1.1, ⟨HR1.out.2.2.1, HR1.out.2.2.2⟩, HR1.out.2.1.2, ⟨HR2.out.2.2.1, HR2.out.2.2.2⟩, HR2.out.2.1, HR3.out.2.1.1, HR3.out.2.2.1, HR3.out.2.2.2.1, ⟨HR3.out.2.2.2.2.1, HR3.out.2.2.2.2.2⟩, HR3.out.2.1.2⟩⟩, hb4⟩
structure RpLim (d : RpD) : Prop where
 qfs : d.qfs.length ≤ 2000000
 rfs : d.rfs.length ≤ 2000000
 oxs : d.oxs.length ≤ 2000000
 oys : d.oys.length ≤ 2000000
 ofs : d.ofs.length ≤ 2000000
theorem RpLen.lim {d : RpD} (h : RpLen d) : RpLim d := ⟨Nat.le_trans h.qfs (by decide), Nat.le_trans h.rfs (by decide), Nat.le_trans h.oxs (by decide), Nat.le_trans h.oys (by decide), Nat.le_trans h.ofs (by decide)⟩
theorem eqReply_any (d : RpD) (x y : RpV) (B1 B2 : Nat) (w : World) (hxd : x.d = d) (hyd : y.d = d) (hx : RowsO w B1 (rpR x)) (hy : RowsO w B2 (rpR y)) (hn : RpLim d) :
  Calls Tryz.prog 56 #[.agg #[.int .i64 x.d.cli, .int .i64 x.d.qmt, .string x.d.qpa, x.v3, .string x.d.qbd, .int .i64 x.d.rst, x.v6, .string x.d.rbd, .int .i64 x.d.knd, .int .i64 x.d.tim, .string x.d.opa, x.v11, x.v12, .int .i64 x.d.ost, x.v14, .string x.d.obd, .int .i64 x.d.otm, .int .i64 x.d.bns], .agg #[.int .i64 y.d.cli, .int .i64 y.d.qmt, .string y.d.qpa, y.v3, .string y.d.qbd, .int .i64 y.d.rst, y.v6, .string y.d.rbd, .int .i64 y.d.knd, .int .i64 y.d.tim, .string y.d.opa, y.v11, y.v12, .int .i64 y.d.ost, y.v14, .string y.d.obd, .int .i64 y.d.otm, .int .i64 y.d.bns]] w fun e w' => e = .returned (.bool true) ∧ Below w.heap.size w w' := by
 have hd : y.d = d := hyd
 have hd2 : x.d = d := hxd
 have HxO3 : Hid (∀ W : World, RowsO W B1 (rpR x) → W.ownsRow B1 185 2 x.v3 d.qfs.length (flatF d.qfs)) := fun W h => by
  have h2 := h.own (⟨185, 2, x.v3, x.d.qfs.length, flatF x.d.qfs⟩ : Rw) (by simp [rpR])
  unfold Rw.own at h2
  dsimp only at h2
  rw [hxd] at h2
  exact h2
 have HxO6 : Hid (∀ W : World, RowsO W B1 (rpR x) → W.ownsRow B1 185 2 x.v6 d.rfs.length (flatF d.rfs)) := fun W h => by
  have h2 := h.own (⟨185, 2, x.v6, x.d.rfs.length, flatF x.d.rfs⟩ : Rw) (by simp [rpR])
  unfold Rw.own at h2
  dsimp only at h2
  rw [hxd] at h2
  exact h2
 have HxO11 : Hid (∀ W : World, RowsO W B1 (rpR x) → W.ownsRow B1 9 1 x.v11 d.oxs.length (d.oxs.map Value.string)) := fun W h => by
  have h2 := h.own (⟨9, 1, x.v11, x.d.oxs.length, x.d.oxs.map Value.string⟩ : Rw) (by simp [rpR])
  unfold Rw.own at h2
  dsimp only at h2
  rw [hxd] at h2
  exact h2
 have HxO12 : Hid (∀ W : World, RowsO W B1 (rpR x) → W.ownsRow B1 9 1 x.v12 d.oys.length (d.oys.map Value.string)) := fun W h => by
  have h2 := h.own (⟨9, 1, x.v12, x.d.oys.length, x.d.oys.map Value.string⟩ : Rw) (by simp [rpR])
  unfold Rw.own at h2
  dsimp only at h2
  rw [hxd] at h2
  exact h2
 have HxO14 : Hid (∀ W : World, RowsO W B1 (rpR x) → W.ownsRow B1 185 2 x.v14 d.ofs.length (flatF d.ofs)) := fun W h => by
  have h2 := h.own (⟨185, 2, x.v14, x.d.ofs.length, flatF x.d.ofs⟩ : Rw) (by simp [rpR])
  unfold Rw.own at h2
  dsimp only at h2
  rw [hxd] at h2
  exact h2
 have HxOO : Hid (∀ W : World, RowsO W B1 (rpR x) → ObjO W B1 x.v11 d.oxs.length d.oxs x.v12 d.oys.length d.oys x.v14 d.ofs.length d.ofs) := fun W h => by
  have h2 : RowsO W B1 [(⟨9, 1, x.v11, x.d.oxs.length, x.d.oxs.map Value.string⟩ : Rw), (⟨9, 1, x.v12, x.d.oys.length, x.d.oys.map Value.string⟩ : Rw), (⟨185, 2, x.v14, x.d.ofs.length, flatF x.d.ofs⟩ : Rw)] := RowsO.sub h (by unfold rpR; apply List.Sublist.cons; apply List.Sublist.cons; exact List.Sublist.refl _)
  have h3 := rows_obj3 h2
  rw [hxd] at h3
  exact h3
 have HyO3 : Hid (∀ W : World, RowsO W B2 (rpR y) → W.ownsRow B2 185 2 y.v3 d.qfs.length (flatF d.qfs)) := fun W h => by
  have h2 := h.own (⟨185, 2, y.v3, y.d.qfs.length, flatF y.d.qfs⟩ : Rw) (by simp [rpR])
  unfold Rw.own at h2
  dsimp only at h2
  rw [hyd] at h2
  exact h2
 have HyO6 : Hid (∀ W : World, RowsO W B2 (rpR y) → W.ownsRow B2 185 2 y.v6 d.rfs.length (flatF d.rfs)) := fun W h => by
  have h2 := h.own (⟨185, 2, y.v6, y.d.rfs.length, flatF y.d.rfs⟩ : Rw) (by simp [rpR])
  unfold Rw.own at h2
  dsimp only at h2
  rw [hyd] at h2
  exact h2
 have HyO11 : Hid (∀ W : World, RowsO W B2 (rpR y) → W.ownsRow B2 9 1 y.v11 d.oxs.length (d.oxs.map Value.string)) := fun W h => by
  have h2 := h.own (⟨9, 1, y.v11, y.d.oxs.length, y.d.oxs.map Value.string⟩ : Rw) (by simp [rpR])
  unfold Rw.own at h2
  dsimp only at h2
  rw [hyd] at h2
  exact h2
 have HyO12 : Hid (∀ W : World, RowsO W B2 (rpR y) → W.ownsRow B2 9 1 y.v12 d.oys.length (d.oys.map Value.string)) := fun W h => by
  have h2 := h.own (⟨9, 1, y.v12, y.d.oys.length, y.d.oys.map Value.string⟩ : Rw) (by simp [rpR])
  unfold Rw.own at h2
  dsimp only at h2
  rw [hyd] at h2
  exact h2
 have HyO14 : Hid (∀ W : World, RowsO W B2 (rpR y) → W.ownsRow B2 185 2 y.v14 d.ofs.length (flatF d.ofs)) := fun W h => by
  have h2 := h.own (⟨185, 2, y.v14, y.d.ofs.length, flatF y.d.ofs⟩ : Rw) (by simp [rpR])
  unfold Rw.own at h2
  dsimp only at h2
  rw [hyd] at h2
  exact h2
 have HyOO : Hid (∀ W : World, RowsO W B2 (rpR y) → ObjO W B2 y.v11 d.oxs.length d.oxs y.v12 d.oys.length d.oys y.v14 d.ofs.length d.ofs) := fun W h => by
  have h2 : RowsO W B2 [(⟨9, 1, y.v11, y.d.oxs.length, y.d.oxs.map Value.string⟩ : Rw), (⟨9, 1, y.v12, y.d.oys.length, y.d.oys.map Value.string⟩ : Rw), (⟨185, 2, y.v14, y.d.ofs.length, flatF y.d.ofs⟩ : Rw)] := RowsO.sub h (by unfold rpR; apply List.Sublist.cons; apply List.Sublist.cons; exact List.Sublist.refl _)
  have h3 := rows_obj3 h2
  rw [hyd] at h3
  exact h3
 have ecli : (d.cli != d.cli) = false := by simp
 have eqmt : (d.qmt != d.qmt) = false := by simp
 have erst : (d.rst != d.rst) = false := by simp
 have eknd : (d.knd != d.knd) = false := by simp
 have etim : (d.tim != d.tim) = false := by simp
 have eost : (d.ost != d.ost) = false := by simp
 have eotm : (d.otm != d.otm) = false := by simp
 have ebns : (d.bns != d.bns) = false := by simp
 have Ex_0 : Hid (RowsO w B1 (rpR x)) := hx
 have Ey_0 : Hid (RowsO w B2 (rpR y)) := hy
 rw [hxd, hyd]
 clear hx hy hd hd2 hxd hyd
 have hb0 := Below.refl w.heap.size w
 go_enter Tryz.func56, Tryz.ntmps56
 go_upto_region 1 with fail
 obtain ⟨q1, hq1⟩ := exq (w.heap.size)
 obtain ⟨w1, hW1⟩ := exq (w.alloc (.cells #[.int .i64 d.cli, .int .i64 d.qmt, .string d.qpa, x.v3, .string d.qbd, .int .i64 d.rst, x.v6, .string d.rbd, .int .i64 d.knd, .int .i64 d.tim, .string d.opa, x.v11, x.v12, .int .i64 d.ost, x.v14, .string d.obd, .int .i64 d.otm, .int .i64 d.bns] 64))
 have hz1 := hq1.symm
 rw [← hW1]; try rw [← hq1]
 have hs1 := hsa hW1 hz1
 have bw := bal hW1
 have hb1 := hbt hb0 bw
 have Ex_1 := hid (Ex_0.out.below bw)
 have Ey_1 := hid (Ey_0.out.below bw)
 have B1_1 := hnew hW1 hz1
 clear hb0 Ex_0 Ey_0 bw hW1 hz1
 obtain ⟨q2, hq2⟩ := exq (q1 + 1)
 obtain ⟨w2, hW2⟩ := exq (w1.alloc (.cells #[.int .i64 d.cli, .int .i64 d.qmt, .string d.qpa, y.v3, .string d.qbd, .int .i64 d.rst, y.v6, .string d.rbd, .int .i64 d.knd, .int .i64 d.tim, .string d.opa, y.v11, y.v12, .int .i64 d.ost, y.v14, .string d.obd, .int .i64 d.otm, .int .i64 d.bns] 64))
 have hz2 : w1.heap.size = q2 := by rw [hq2]; exact hs1
 rw [← hW2]; try rw [← hq2]
 have hs2 := hsa hW2 hz2
 have bw := bal hW2
 have hb2 := hbt hb1 bw
 have B1_2 := hblk B1_1 bw
 have Ex_2 := hid (Ex_1.out.below bw)
 have Ey_2 := hid (Ey_1.out.below bw)
 have B2_2 := hnew hW2 hz2
 clear hb1 Ex_1 Ey_1 bw hW2 hz2
 clear hs2 hq2 hs1 hq1
 have c1_0 := hcl B1_2 0 rfl
 have c2_0 := hcl B2_2 0 rfl
 have c1_1 := hcl B1_2 1 rfl
 have c1_2 := hcl B1_2 2 rfl
 have c1_3 := hcl B1_2 3 rfl
 have c1_4 := hcl B1_2 4 rfl
 have c2_1 := hcl B2_2 1 rfl
 have c2_2 := hcl B2_2 2 rfl
 have c2_3 := hcl B2_2 3 rfl
 have c2_4 := hcl B2_2 4 rfl
 go_wp2_with fail
 refine (eqReq_any d.qmt d.qpa _ _ d.qbd d.qfs.length _ _ d.qfs _ (FieldsV.of_owns (show World.ownsRow _ B1 185 2 x.v3 d.qfs.length _ from HxO3.out _ Ex_2.out)) (FieldsV.of_owns (show World.ownsRow _ B2 185 2 y.v3 d.qfs.length _ from HyO3.out _ Ey_2.out)) hn.qfs).mono ?_
 rintro e w3 ⟨rfl, bw⟩
 have hb3 := hbt hb2 bw
 have B1_3 := hblk B1_2 bw
 have B2_3 := hblk B2_2 bw
 have Ex_3 := hid (Ex_2.out.below bw)
 have Ey_3 := hid (Ey_2.out.below bw)
 clear hb2 Ex_2 Ey_2 bw
 clear c1_0 c2_0 c1_1 c1_2 c1_3 c1_4 c2_1 c2_2 c2_3 c2_4
 have c1_5 := hcl B1_3 5 rfl
 have c1_6 := hcl B1_3 6 rfl
 have c1_7 := hcl B1_3 7 rfl
 have c2_5 := hcl B2_3 5 rfl
 have c2_6 := hcl B2_3 6 rfl
 have c2_7 := hcl B2_3 7 rfl
 go_wp2_with fail
 refine (eqResp_any d.rst _ _ d.rbd d.rfs.length _ _ d.rfs _ (FieldsV.of_owns (show World.ownsRow _ B1 185 2 x.v6 d.rfs.length _ from HxO6.out _ Ex_3.out)) (FieldsV.of_owns (show World.ownsRow _ B2 185 2 y.v6 d.rfs.length _ from HyO6.out _ Ey_3.out)) hn.rfs).mono ?_
 rintro e w4 ⟨rfl, bw⟩
 have hb4 := hbt hb3 bw
 have B1_4 := hblk B1_3 bw
 have B2_4 := hblk B2_3 bw
 have Ex_4 := hid (Ex_3.out.below bw)
 have Ey_4 := hid (Ey_3.out.below bw)
 clear hb3 Ex_3 Ey_3 bw
 clear c1_5 c1_6 c1_7 c2_5 c2_6 c2_7
 have c1_8 := hcl B1_4 8 rfl
 have c2_8 := hcl B2_4 8 rfl
 have c1_9 := hcl B1_4 9 rfl
 have c2_9 := hcl B2_4 9 rfl
 have c1_10 := hcl B1_4 10 rfl
 have c1_11 := hcl B1_4 11 rfl
 have c1_12 := hcl B1_4 12 rfl
 have c1_13 := hcl B1_4 13 rfl
 have c1_14 := hcl B1_4 14 rfl
 have c1_15 := hcl B1_4 15 rfl
 have c1_16 := hcl B1_4 16 rfl
 have c2_10 := hcl B2_4 10 rfl
 have c2_11 := hcl B2_4 11 rfl
 have c2_12 := hcl B2_4 12 rfl
 have c2_13 := hcl B2_4 13 rfl
 have c2_14 := hcl B2_4 14 rfl
 have c2_15 := hcl B2_4 15 rfl
 have c2_16 := hcl B2_4 16 rfl
 go_wp2_with fail
 refine (eqObj_any d.opa d.oxs.length d.oxs d.oys.length d.oys d.ost d.ofs.length d.ofs d.obd d.otm _ _ _ _ _ _ _ _ _ (HxOO.out _ Ex_4.out) (HyOO.out _ Ey_4.out) hn.oxs hn.oys hn.ofs).mono ?_
 rintro e w5 ⟨rfl, bw⟩
 have hb5 := hbt hb4 bw
 have B1_5 := hblk B1_4 bw
 have B2_5 := hblk B2_4 bw
 have Ex_5 := hid (Ex_4.out.below bw)
 have Ey_5 := hid (Ey_4.out.below bw)
 clear hb4 Ex_4 Ey_4 bw
 clear c1_8 c2_8 c1_9 c2_9 c1_10 c1_11 c1_12 c1_13 c1_14 c1_15 c1_16 c2_10 c2_11 c2_12 c2_13 c2_14 c2_15 c2_16
 have c1_17 := hcl B1_5 17 rfl
 have c2_17 := hcl B2_5 17 rfl
 go_wp2_with fail
 go_ret
 exact ⟨rfl, hb5⟩
def RpArg (w : World) (B b off i : Nat) (d : RpD) : Prop :=
 ∃ (a3 : Oa) (c3 : Nat) (a6 : Oa) (c6 : Nat) (a11 : Oa) (c11 : Nat) (a12 : Oa) (c12 : Nat) (a14 : Oa) (c14 : Nat), (w.cell? ⟨b, off + i * 18, none⟩ = some (.int .i64 d.cli) ∧ w.cell? ⟨b, off + i * 18 + 1, none⟩ = some (.int .i64 d.qmt) ∧ w.cell? ⟨b, off + i * 18 + 2, none⟩ = some (.string d.qpa) ∧ w.cell? ⟨b, off + i * 18 + 3, none⟩ = some (.slice a3 d.qfs.length c3) ∧ w.cell? ⟨b, off + i * 18 + 4, none⟩ = some (.string d.qbd) ∧ w.cell? ⟨b, off + i * 18 + 5, none⟩ = some (.int .i64 d.rst) ∧ w.cell? ⟨b, off + i * 18 + 6, none⟩ = some (.slice a6 d.rfs.length c6) ∧ w.cell? ⟨b, off + i * 18 + 7, none⟩ = some (.string d.rbd) ∧ w.cell? ⟨b, off + i * 18 + 8, none⟩ = some (.int .i64 d.knd) ∧ w.cell? ⟨b, off + i * 18 + 9, none⟩ = some (.int .i64 d.tim) ∧ w.cell? ⟨b, off + i * 18 + 10, none⟩ = some (.string d.opa) ∧ w.cell? ⟨b, off + i * 18 + 11, none⟩ = some (.slice a11 d.oxs.length c11) ∧ w.cell? ⟨b, off + i * 18 + 12, none⟩ = some (.slice a12 d.oys.length c12) ∧ w.cell? ⟨b, off + i * 18 + 13, none⟩ = some (.int .i64 d.ost) ∧ w.cell? ⟨b, off + i * 18 + 14, none⟩ = some (.slice a14 d.ofs.length c14) ∧ w.cell? ⟨b, off + i * 18 + 15, none⟩ = some (.string d.obd) ∧ w.cell? ⟨b, off + i * 18 + 16, none⟩ = some (.int .i64 d.otm) ∧ w.cell? ⟨b, off + i * 18 + 17, none⟩ = some (.int .i64 d.bns)) ∧ ArgF w B a3 d.qfs.length d.qfs ∧ ArgF w B a6 d.rfs.length d.rfs ∧ ArgT w B a11 d.oxs.length d.oxs ∧ ArgT w B a12 d.oys.length d.oys ∧ ArgF w B a14 d.ofs.length d.ofs
def ArgReply (w : World) (B : Nat) (a : Oa) (n : Nat) (ks : List RpD) : Prop :=
 ks.length = n ∧ ∀ i, i < n → ∃ b off, a = some ⟨b, off, none⟩ ∧ b < B ∧ RpArg w B b off i (rpAt ks i)
theorem ArgReply.below {w w' : World} {B : Nat} {a : Oa} {n : Nat} {ks : List RpD} (h : ArgReply w B a n ks) (hb : Below B w w') : ArgReply w' B a n ks :=
 ⟨h.1, fun i hi => by
  obtain ⟨b, off, h1, h2, a3, c3, a6, c6, a11, c11, a12, c12, a14, c14, ⟨r0, r1, r2, r3, r4, r5, r6, r7, r8, r9, r10, r11, r12, r13, r14, r15, r16, r17⟩, g3, g6, g11, g12, g14⟩ := h.2 i hi
  exact ⟨b, off, h1, h2, a3, c3, a6, c6, a11, c11, a12, c12, a14, c14, ⟨by rw [hb.cell (p := ⟨b, off + i * 18, none⟩) h2]; exact r0, by rw [hb.cell (p := ⟨b, off + i * 18 + 1, none⟩) h2]; exact r1, by rw [hb.cell (p := ⟨b, off + i * 18 + 2, none⟩) h2]; exact r2, by rw [hb.cell (p := ⟨b, off + i * 18 + 3, none⟩) h2]; exact r3, by rw [hb.cell (p := ⟨b, off + i * 18 + 4, none⟩) h2]; exact r4, by rw [hb.cell (p := ⟨b, off + i * 18 + 5, none⟩) h2]; exact r5, by rw [hb.cell (p := ⟨b, off + i * 18 + 6, none⟩) h2]; exact r6, by rw [hb.cell (p := ⟨b, off + i * 18 + 7, none⟩) h2]; exact r7, by rw [hb.cell (p := ⟨b, off + i * 18 + 8, none⟩) h2]; exact r8, by rw [hb.cell (p := ⟨b, off + i * 18 + 9, none⟩) h2]; exact r9, by rw [hb.cell (p := ⟨b, off + i * 18 + 10, none⟩) h2]; exact r10, by rw [hb.cell (p := ⟨b, off + i * 18 + 11, none⟩) h2]; exact r11, by rw [hb.cell (p := ⟨b, off + i * 18 + 12, none⟩) h2]; exact r12, by rw [hb.cell (p := ⟨b, off + i * 18 + 13, none⟩) h2]; exact r13, by rw [hb.cell (p := ⟨b, off + i * 18 + 14, none⟩) h2]; exact r14, by rw [hb.cell (p := ⟨b, off + i * 18 + 15, none⟩) h2]; exact r15, by rw [hb.cell (p := ⟨b, off + i * 18 + 16, none⟩) h2]; exact r16, by rw [hb.cell (p := ⟨b, off + i * 18 + 17, none⟩) h2]; exact r17⟩, g3.below hb, g6.below hb, g11.below hb, g12.below hb, g14.below hb⟩⟩
def SzReplyS (L : Int) (ks : List RpD) (w : World) (e : Ending) (w' : World) : Prop :=
 ∃ r : Int, e = .returned (.int .i64 r) ∧ r ≤ L ∧ (0 ≤ r → r + (wtRp ks : Int) ≤ L ∧ ∀ k ∈ ks, RpSmall k) ∧ Below w.heap.size w w'
theorem szReplyS_any (L : Int) (hL0 : 0 ≤ L) (hL1 : L ≤ 1048576) (B : Nat) (a : Oa) (n cap : Nat) (ks : List RpD) (w : World) (harg : ArgReply w B a n ks) (hB : B ≤ w.heap.size) (hn : n ≤ maxLen) (hsz : ∀ k ∈ ks, RpMax k) :
  Calls Tryz.prog 12 #[.slice a n cap, .int .i64 L] w fun e w' => SzReplyS L ks w e w' := by
 unfold maxLen at hn
 have HS := hid hsz
 have HLN : Hid (ks.length = n) := harg.1
 have HA : Hid (∀ W, Below w.heap.size w W → ArgReply W B a n ks) := fun W h => harg.below (h.mono hB)
 have HBB : Hid (∀ W, Below w.heap.size w W → B ≤ W.heap.size) := fun W h => Nat.le_trans hB h.size
 clear hsz harg hB
 by_cases c1 : L - (n : Int) < 0
 ·go_enter Tryz.func12, Tryz.ntmps12
  go_wp2
  go_ret
  exact ⟨-1, rfl, by omega, fun h => absurd h (by omega), Below.refl _ _⟩
 go_enter Tryz.func12, Tryz.ntmps12
 go_wp2
 go_loopw [1, 5] (fun lf i wr => ∃ (k : Nat) (x : Int), k ≤ n ∧ i = .int .i64 (k : Int) ∧ lf = .int .i64 x ∧ 0 ≤ x ∧ x ≤ L ∧ Hid (x + (wtRp (ks.take k) : Int) + ((n : Int) - (k : Int)) ≤ L ∧ ∀ y ∈ ks.take k, RpSmall y) ∧ Hid (Below w.heap.size w wr)) (fun _ i _ => n - (intOf i).toNat)
 case atStart => exact ⟨0, _, Nat.zero_le _, rfl, rfl, by omega, by omega, ⟨by simp [wtRp], fun x hx => by simp at hx⟩, Below.refl _ _⟩
 case round =>
  obtain ⟨k, x, hk, rfl, rfl, hx0, hx1, HX, HBW⟩ := hrel
  by_cases hlt : k < n
  rotate_left
  ·have HF : Hid (x + (wtRp ks : Int) ≤ L ∧ ∀ k ∈ ks, RpSmall k) := by
    obtain ⟨m1, m2⟩ := HX.out
    rw [List.take_of_length_le (by rw [HLN.out]; omega)] at m1 m2
    exact ⟨by omega, m2⟩
   go_wp2
   go_ret
   exact ⟨x, rfl, by omega, fun _ => HF.out, HBW.out⟩
  have hlt2 : (k : Int) < (n : Int) := by omega
  obtain ⟨b, off, rfl, hbB, a3, c3, a6, c6, a11, c11, a12, c12, a14, c14, ⟨r0, r1, r2, r3, r4, r5, r6, r7, r8, r9, r10, r11, r12, r13, r14, r15, r16, r17⟩, g3, g6, g11, g12, g14⟩ := (HA.out wr HBW.out).2 k hlt
  obtain ⟨y, hy⟩ := exq (rpAt ks k)
  have HM : Hid (y ∈ ks) := by show _ ∈ _; rw [hy]; exact getD_mem0 _ ks k (by rw [HLN.out]; exact hlt)
  have HTK : Hid (ks.take (k + 1) = ks.take k ++ [y]) := by show _ = _; rw [hy]; exact getD_take0 _ ks k (by rw [HLN.out]; exact hlt)
  rw [← hy] at r0 r1 r2 r3 r4 r5 r6 r7 r8 r9 r10 r11 r12 r13 r14 r15 r16 r17 g3 g6 g11 g12 g14
  have HG3 := hid g3
  have HG6 := hid g6
  have HG11 := hid g11
  have HG12 := hid g12
  have HG14 := hid g14
  clear hy g3 g6 g11 g12 g14
  have HIF : (Tryz.prog.info? 97).map (·.size) = some 18 := by kernel_rfl
  have HRG : World.rangeAt wr b (off + k * 18) [.int .i64 y.cli, .int .i64 y.qmt, .string y.qpa, .slice a3 y.qfs.length c3, .string y.qbd, .int .i64 y.rst, .slice a6 y.rfs.length c6, .string y.rbd, .int .i64 y.knd, .int .i64 y.tim, .string y.opa, .slice a11 y.oxs.length c11, .slice a12 y.oys.length c12, .int .i64 y.ost, .slice a14 y.ofs.length c14, .string y.obd, .int .i64 y.otm, .int .i64 y.bns] := range_cons r0 (range_cons r1 (range_cons r2 (range_cons r3 (range_cons r4 (range_cons r5 (range_cons r6 (range_cons r7 (range_cons r8 (range_cons r9 (range_cons r10 (range_cons r11 (range_cons r12 (range_cons r13 (range_cons r14 (range_cons r15 (range_cons r16 (range_cons r17 (range_nil _ _ _))))))))))))))))))
  go_wp2_with (first | (refine wpList_load_mid rfl 97 _ rfl b (off + k * 18) rfl [.int .i64 y.cli, .int .i64 y.qmt, .string y.qpa, .slice a3 y.qfs.length c3, .string y.qbd, .int .i64 y.rst, .slice a6 y.rfs.length c6, .string y.rbd, .int .i64 y.knd, .int .i64 y.tim, .string y.opa, .slice a11 y.oxs.length c11, .slice a12 y.oys.length c12, .int .i64 y.ost, .slice a14 y.ofs.length c14, .string y.obd, .int .i64 y.otm, .int .i64 y.bns] _ HRG Tryz.underlying97 rfl HIF ?_) | fail)
  clear HRG HIF
  refine (szReply_any x hx0 (by omega) y a3 c3 a6 c6 a11 c11 a12 c12 a14 c14 B _ HG3.out HG6.out HG11.out HG12.out HG14.out (HBB.out _ HBW.out) (HS.out y HM.out)).mono ?_
  rintro e w1 ⟨r, rfl, hr1, hr2, bw⟩
  have HB2 : Hid (Below w.heap.size w w1) := HBW.out.trans (bw.mono HBW.out.size)
  clear r0 r1 r2 r3 r4 r5 r6 r7 r8 r9 r10 r11 r12 r13 r14 r15 r16 r17 bw
  by_cases d1 : r < 0
  ·clear hr2
   go_wp2
   go_ret
   exact ⟨-1, rfl, by omega, fun h => absurd h (by omega), HB2.out⟩
  have HX2 : Hid (r + (wtRp (ks.take (k + 1)) : Int) + ((n : Int) - ((k + 1 : Nat) : Int)) ≤ L ∧ ∀ y ∈ ks.take (k + 1), RpSmall y) := by
   obtain ⟨q1, q2⟩ := hr2 (by omega)
   obtain ⟨m1, m2⟩ := HX.out
   refine ⟨?_, fun z hz => ?_⟩
   ·rw [HTK.out, wtRp_snoc]
    omega
   ·rw [HTK.out] at hz
    rcases List.mem_append.1 hz with hz | hz
    · exact m2 z hz
    · rw [List.mem_singleton.1 hz]; exact q2
  clear hr2
  go_wp2
  go_roundw
  case rel => exact ⟨k + 1, r, by omega, by go_num, rfl, by omega, by omega, HX2, HB2⟩
  case measure => simp [intOf]; omega
theorem infoReply : (Tryz.prog.info? 64).map (fun i => (i.zero, i.size, i.bytes)) = some (some (.agg #[.int .i64 0, .int .i64 0, .string ⟨#[]⟩, .slice none 0 0, .string ⟨#[]⟩, .int .i64 0, .slice none 0 0, .string ⟨#[]⟩, .int .i64 0, .int .i64 0, .string ⟨#[]⟩, .slice none 0 0, .slice none 0 0, .int .i64 0, .slice none 0 0, .string ⟨#[]⟩, .int .i64 0, .int .i64 0]), 18, 264) := by kernel_rfl
def ReplyIs (ks : List RpD) (w : World) (e : Ending) (w' : World) : Prop := ∃ (V : Value) (kv : List RpV), e = .returned V ∧ kv.map (·.d) = ks ∧ RpsO w' w.heap.size V kv ∧ Below w.heap.size w w'
theorem parts_Reply {w : World} {g n base : Nat} {kv : List RpV} (hp : PartO rpC 18 64 w g n kv) (hl : kv.length = n) (hm : n ≤ maxLen) (hb : base ≤ g) (hr : RowsO w (g + 1) (kv.flatMap rpR)) : RpsO w base (.slice (some ⟨g, 0, none⟩) n n) kv := by
 have hrow : (rpRow (.slice (some ⟨g, 0, none⟩) n n) kv).own w base := by
  have h := hp.owns rpC_len (by decide) hl hm hb
  unfold Rw.own rpRow
  rw [hl]
  exact h
 refine ⟨fun r h => ?_, List.pairwise_cons.2 ⟨fun r h g' h1 h2 => ?_, hr.apart⟩⟩
 ·rcases List.mem_cons.1 h with h | h
  · rw [h]; exact hrow
  · exact owns_wide (hr.own r h) (by omega)
 ·have e1 : some g = some g' := h1
  have e2 := hr.ge h h2
  have e3 := Option.some.inj e1
  omega
theorem toReplyS_any (B : Nat) (a : Oa) (n cap : Nat) (ks : List RpD) (w : World) (harg : ArgReply w B a n ks) (hB : B ≤ w.heap.size) (hn : n ≤ 1048576) (hsm : ∀ k ∈ ks, RpLen k) :
  Calls Tryz.prog 18 #[.slice a n cap] w fun e w' => ReplyIs ks w e w' := by
 obtain ⟨i0, hi, hz0, hz1, hz2⟩ := info_parts infoReply
 obtain ⟨M, hM⟩ : ∃ M, M = madeCells (Value.agg #[.int .i64 0, .int .i64 0, .string ⟨#[]⟩, .slice none 0 0, .string ⟨#[]⟩, .int .i64 0, .slice none 0 0, .string ⟨#[]⟩, .int .i64 0, .int .i64 0, .string ⟨#[]⟩, .slice none 0 0, .slice none 0 0, .int .i64 0, .slice none 0 0, .string ⟨#[]⟩, .int .i64 0, .int .i64 0]).cells (((n : Nat) : Int).toNat * i0.size) := ⟨_, rfl⟩
 have hmk : ∀ W : World, (Instr.makeSlice 46 (.int .i64 (n : Int)) (.int .i64 (n : Int))).run Tryz.prog W = .ok (.slice (some ⟨W.heap.size, 0, none⟩) n n) (W.alloc (.cells M 64)) := fun W => by
  have h := run_make (P := Tryz.prog) W 46 64 i0 (.agg #[.int .i64 0, .int .i64 0, .string ⟨#[]⟩, .slice none 0 0, .string ⟨#[]⟩, .int .i64 0, .slice none 0 0, .string ⟨#[]⟩, .int .i64 0, .int .i64 0, .string ⟨#[]⟩, .slice none 0 0, .slice none 0 0, .int .i64 0, .slice none 0 0, .string ⟨#[]⟩, .int .i64 0, .int .i64 0]) Tryz.underlying46 hi hz0 .i64 .i64 (n : Int) (n : Int) (by omega) (by omega) (by rw [hz2]; omega) (by omega)
  rw [← hM] at h
  simpa using h
 have hMs : M.size = n * 18 := by rw [hM, size_madeCells, hz1]; simp
 have HLN : Hid (ks.length = n) := harg.1
 have HSM := hid hsm
 have HA : Hid (∀ W, Below w.heap.size w W → ArgReply W B a n ks) := fun W h => harg.below (h.mono hB)
 have HBB : Hid (∀ W, Below w.heap.size w W → B ≤ W.heap.size) := fun W h => Nat.le_trans hB h.size
 clear hM harg hsm hB
 obtain ⟨g, hg⟩ := exq (w.heap.size)
 have HG : Hid (w.heap.size = g) := hg.symm
 have HP : Hid (([] : List RpV).length = 0 ∧ ([] : List RpV).map (·.d) = ks.take 0 ∧ PartO rpC 18 64 (w.alloc (.cells M 64)) g n [] ∧ RowsO (w.alloc (.cells M 64)) (g + 1) (([] : List RpV).flatMap rpR)) := ⟨rfl, by simp, ⟨M, by rw [hg]; exact heap_alloc_new w _, hMs, fun i h => absurd h (by simp)⟩, RowsO.nil _ _⟩
 have HPB : Hid (Below w.heap.size w (w.alloc (.cells M 64))) := (Below.refl _ _).alloc (Nat.le_refl _) _
 go_enter Tryz.func18, Tryz.ntmps18
 go_wp2
 rw [HG.out]
 clear hg hMs
 go_loopw [4] (fun i wr => ∃ (k : Nat) (kv : List RpV), k ≤ n ∧ i = .int .i64 (k : Int) ∧ Hid (kv.length = k ∧ kv.map (·.d) = ks.take k ∧ PartO rpC 18 64 wr g n kv ∧ RowsO wr (g + 1) (kv.flatMap rpR)) ∧ Hid (Below w.heap.size w wr)) (fun i _ => n - (intOf i).toNat)
 case atStart => exact ⟨0, [], Nat.zero_le _, rfl, HP, HPB⟩
 case round =>
  obtain ⟨k, kv, hk, rfl, hpr, HBW⟩ := hrel
  by_cases hlt : k < n
  rotate_left
  ·obtain rfl : k = n := by omega
   obtain ⟨q1, q2, q3, q4⟩ := hpr.out
   have HF : Hid (kv.map (·.d) = ks ∧ RpsO wr w.heap.size (.slice (some ⟨g, 0, none⟩) k k) kv) := by
    refine ⟨?_, parts_Reply q3 q1 (by unfold maxLen; omega) (by rw [HG.out]; exact Nat.le_refl _) q4⟩
    rw [q2, List.take_of_length_le (by rw [HLN.out]; exact Nat.le_refl _)]
   clear q1 q2 q3 q4
   go_wp2
   go_ret
   exact ⟨_, kv, rfl, HF.out.1, HF.out.2, HBW.out⟩
  have hlt2 : (k : Int) < (n : Int) := by omega
  obtain ⟨b, off, rfl, hbB, a3, c3, a6, c6, a11, c11, a12, c12, a14, c14, ⟨r0, r1, r2, r3, r4, r5, r6, r7, r8, r9, r10, r11, r12, r13, r14, r15, r16, r17⟩, g3, g6, g11, g12, g14⟩ := (HA.out wr HBW.out).2 k hlt
  obtain ⟨y, hy⟩ := exq (rpAt ks k)
  have HM : Hid (y ∈ ks) := by show _ ∈ _; rw [hy]; exact getD_mem0 _ ks k (by rw [HLN.out]; exact hlt)
  have HTK : Hid (ks.take (k + 1) = ks.take k ++ [y]) := by show _ = _; rw [hy]; exact getD_take0 _ ks k (by rw [HLN.out]; exact hlt)
  rw [← hy] at r0 r1 r2 r3 r4 r5 r6 r7 r8 r9 r10 r11 r12 r13 r14 r15 r16 r17 g3 g6 g11 g12 g14
  have HG3 := hid g3
  have HG6 := hid g6
  have HG11 := hid g11
  have HG12 := hid g12
  have HG14 := hid g14
  clear hy g3 g6 g11 g12 g14
  have HIF : (Tryz.prog.info? 97).map (·.size) = some 18 := by kernel_rfl
  have HRG : World.rangeAt wr b (off + k * 18) [.int .i64 y.cli, .int .i64 y.qmt, .string y.qpa, .slice a3 y.qfs.length c3, .string y.qbd, .int .i64 y.rst, .slice a6 y.rfs.length c6, .string y.rbd, .int .i64 y.knd, .int .i64 y.tim, .string y.opa, .slice a11 y.oxs.length c11, .slice a12 y.oys.length c12, .int .i64 y.ost, .slice a14 y.ofs.length c14, .string y.obd, .int .i64 y.otm, .int .i64 y.bns] := range_cons r0 (range_cons r1 (range_cons r2 (range_cons r3 (range_cons r4 (range_cons r5 (range_cons r6 (range_cons r7 (range_cons r8 (range_cons r9 (range_cons r10 (range_cons r11 (range_cons r12 (range_cons r13 (range_cons r14 (range_cons r15 (range_cons r16 (range_cons r17 (range_nil _ _ _))))))))))))))))))
  go_wp2_with (first | (refine wpList_load_mid rfl 97 _ rfl b (off + k * 18) rfl [.int .i64 y.cli, .int .i64 y.qmt, .string y.qpa, .slice a3 y.qfs.length c3, .string y.qbd, .int .i64 y.rst, .slice a6 y.rfs.length c6, .string y.rbd, .int .i64 y.knd, .int .i64 y.tim, .string y.opa, .slice a11 y.oxs.length c11, .slice a12 y.oys.length c12, .int .i64 y.ost, .slice a14 y.ofs.length c14, .string y.obd, .int .i64 y.otm, .int .i64 y.bns] _ HRG Tryz.underlying97 rfl HIF ?_) | fail)
  clear HRG HIF
  refine (toReply_any y a3 c3 a6 c6 a11 c11 a12 c12 a14 c14 B _ HG3.out HG6.out HG11.out HG12.out HG14.out (HBB.out _ HBW.out) (HSM.out y HM.out)).mono ?_
  rintro e w1 ⟨⟨xd, v3, v6, v11, v12, v14⟩, rfl, hxd, hrows, bw⟩
  clear r0 r1 r2 r3 r4 r5 r6 r7 r8 r9 r10 r11 r12 r13 r14 r15 r16 r17
  obtain rfl : xd = y := hxd
  obtain ⟨o3, p3, hv⟩ := slice_of_owns (hrows.own (⟨185, 2, v3, xd.qfs.length, flatF xd.qfs⟩ : Rw) (by simp [rpR]))
  obtain rfl : v3 = .slice o3 xd.qfs.length p3 := hv
  obtain ⟨o6, p6, hv⟩ := slice_of_owns (hrows.own (⟨185, 2, v6, xd.rfs.length, flatF xd.rfs⟩ : Rw) (by simp [rpR]))
  obtain rfl : v6 = .slice o6 xd.rfs.length p6 := hv
  obtain ⟨o11, p11, hv⟩ := slice_of_owns (hrows.own (⟨9, 1, v11, xd.oxs.length, xd.oxs.map Value.string⟩ : Rw) (by simp [rpR]))
  obtain rfl : v11 = .slice o11 xd.oxs.length p11 := hv
  obtain ⟨o12, p12, hv⟩ := slice_of_owns (hrows.own (⟨9, 1, v12, xd.oys.length, xd.oys.map Value.string⟩ : Rw) (by simp [rpR]))
  obtain rfl : v12 = .slice o12 xd.oys.length p12 := hv
  obtain ⟨o14, p14, hv⟩ := slice_of_owns (hrows.own (⟨185, 2, v14, xd.ofs.length, flatF xd.ofs⟩ : Rw) (by simp [rpR]))
  obtain rfl : v14 = .slice o14 xd.ofs.length p14 := hv
  obtain ⟨x, hx⟩ : ∃ x : RpV, x = ⟨xd, .slice o3 xd.qfs.length p3, .slice o6 xd.rfs.length p6, .slice o11 xd.oxs.length p11, .slice o12 xd.oys.length p12, .slice o14 xd.ofs.length p14⟩ := ⟨_, rfl⟩
  rw [← hx] at hrows
  obtain ⟨q1, q2, q3, q4⟩ := hpr.out
  have hgl : g < wr.heap.size := q3.lt
  have HB2 : Hid (Below w.heap.size w w1) := HBW.out.trans (bw.mono HBW.out.size)
  have hpr1 := q3.below bw
  have hall : RowsO w1 (g + 1) (kv.flatMap rpR ++ rpR x) := q4.more bw hrows (Nat.le_refl _) hgl
  have HALL : Hid ((kv ++ [x]).length = k + 1 ∧ (kv ++ [x]).map (·.d) = ks.take (k + 1) ∧ PartO rpC 18 64 (setW w1 g (k * 18) (rpC x)) g n (kv ++ [x]) ∧ RowsO (setW w1 g (k * 18) (rpC x)) (g + 1) ((kv ++ [x]).flatMap rpR)) := by
   refine ⟨by rw [List.length_append, q1]; rfl, by rw [List.map_append, q2, HTK.out, hx]; rfl, ?_, ?_⟩
   ·have h := hpr1.put rpC_len x (by omega)
    rw [q1] at h
    exact h
   ·rw [List.flatMap_append]
    have h2 : RowsO (setW w1 g (k * 18) (rpC x)) (g + 1) (kv.flatMap rpR ++ rpR x) := hall.same (fun r hr j hj => setW_other g j (by have := hall.ge hr hj; omega) _ _ _)
    simpa using h2
  have HBE : Hid (Below w.heap.size w (setW w1 g (k * 18) (rpC x))) := setW_below (by rw [HG.out]; exact Nat.le_refl _) _ _ _ _ HB2.out
  rw [hx] at HALL HBE
  have HTH : World.there w1 g (k * 18) 18 := there_part hpr1 hlt
  have HIF : (Tryz.prog.info? 64).map (·.size) = some 18 := by kernel_rfl
  obtain ⟨W1, hW1⟩ := exq (setW w1 g (k * 18) (rpC ⟨xd, .slice o3 xd.qfs.length p3, .slice o6 xd.rfs.length p6, .slice o11 xd.oxs.length p11, .slice o12 xd.oys.length p12, .slice o14 xd.ofs.length p14⟩))
  rw [← hW1] at HALL HBE
  have HWE : Hid (w1.setCells g (k * 18) (#[.int .i64 xd.cli, .int .i64 xd.qmt, .string xd.qpa, .slice o3 xd.qfs.length p3, .string xd.qbd, .int .i64 xd.rst, .slice o6 xd.rfs.length p6, .string xd.rbd, .int .i64 xd.knd, .int .i64 xd.tim, .string xd.opa, .slice o11 xd.oxs.length p11, .slice o12 xd.oys.length p12, .int .i64 xd.ost, .slice o14 xd.ofs.length p14, .string xd.obd, .int .i64 xd.otm, .int .i64 xd.bns] : Array Value).toList = W1) := by show _ = _; rw [hW1, setCells_eq]; rfl
  clear hW1
  clear hpr1 hall hrows hx q1 q2 q3 q4 bw hpr
  go_wp2_with (first | (refine wpList_store_mid rfl 64 _ _ rfl g (k * 18) #[.int .i64 xd.cli, .int .i64 xd.qmt, .string xd.qpa, .slice o3 xd.qfs.length p3, .string xd.qbd, .int .i64 xd.rst, .slice o6 xd.rfs.length p6, .string xd.rbd, .int .i64 xd.knd, .int .i64 xd.tim, .string xd.opa, .slice o11 xd.oxs.length p11, .slice o12 xd.oys.length p12, .int .i64 xd.ost, .slice o14 xd.ofs.length p14, .string xd.obd, .int .i64 xd.otm, .int .i64 xd.bns] rfl rfl HTH HIF (by simp [Value.oneCell']) ?_; rw [HWE.out]) | fail)
  clear HTH HIF
  go_roundw
  case rel => exact ⟨k + 1, _, by omega, by go_num, HALL, HBE⟩
  case measure => simp [intOf]; omega
theorem eqReplyS_any (V1 V2 : Value) (kv1 kv2 : List RpV) (B1 B2 : Nat) (w : World) (he : kv1.map (·.d) = kv2.map (·.d)) (h1 : RpsO w B1 V1 kv1) (h2 : RpsO w B2 V2 kv2) (hn : kv1.length ≤ 2000000) (hs : ∀ x ∈ kv1, RpLim x.d) :
  Calls Tryz.prog 24 #[V1, V2] w fun e w' => e = .returned (.bool true) ∧ Below w.heap.size w w' := by
 have hlen : kv2.length = kv1.length := by have := congrArg List.length he; simpa using this.symm
 obtain ⟨n, hnn⟩ := exq kv1.length
 obtain ⟨o1, c1, e1⟩ := h1.len
 obtain ⟨o2, c2, e2⟩ := h2.len
 rw [← hnn] at e1 hn
 rw [hlen, ← hnn] at e2
 subst e1 e2
 have HL1 : Hid (kv1.length = n) := hnn.symm
 have HL2 : Hid (kv2.length = n) := hlen.trans hnn.symm
 have HE := hid he
 have HS := hid hs
 have H1 : Hid (∀ W, Below w.heap.size w W → RpsO W B1 (.slice o1 n c1) kv1) := fun W h => h1.below h
 have H2 : Hid (∀ W, Below w.heap.size w W → RpsO W B2 (.slice o2 n c2) kv2) := fun W h => h2.below h
 clear h1 h2 hlen hnn he hs
 go_enter Tryz.func24, Tryz.ntmps24
 go_wp2
 go_loopw [5] (fun i wr => ∃ k : Nat, k ≤ n ∧ i = .int .i64 (k : Int) ∧ Hid (Below w.heap.size w wr)) (fun i _ => n - (intOf i).toNat)
 case atStart => exact ⟨0, Nat.zero_le _, rfl, Below.refl _ _⟩
 case round =>
  obtain ⟨k, hk, rfl, HBW⟩ := hrel
  by_cases hlt : k < n
  rotate_left
  ·go_wp2
   go_ret
   exact ⟨rfl, HBW.out⟩
  have hlt2 : (k : Int) < (n : Int) := by omega
  obtain ⟨g1, cp1, ev1, hg1, at1⟩ := (H1.out wr HBW.out).at k (by rw [HL1.out]; exact hlt)
  obtain ⟨g2, cp2, ev2, hg2, at2⟩ := (H2.out wr HBW.out).at k (by rw [HL2.out]; exact hlt)
  obtain rfl : o1 = some ⟨g1, 0, none⟩ := (Value.slice.inj ev1).1
  obtain rfl : o2 = some ⟨g2, 0, none⟩ := (Value.slice.inj ev2).1
  have exy : (kv1[k]'(by rw [HL1.out]; exact hlt)).d = (kv2[k]'(by rw [HL2.out]; exact hlt)).d := by
   have h := congrArg (fun l : List RpD => l[k]?) HE.out
   simpa [List.getElem?_map, List.getElem?_eq_getElem (show k < kv1.length by rw [HL1.out]; exact hlt), List.getElem?_eq_getElem (show k < kv2.length by rw [HL2.out]; exact hlt)] using h
  have m1 : kv1[k]'(by rw [HL1.out]; exact hlt) ∈ kv1 := List.getElem_mem _
  have m2 : kv2[k]'(by rw [HL2.out]; exact hlt) ∈ kv2 := List.getElem_mem _
  generalize kv1[k]'(by rw [HL1.out]; exact hlt) = x at at1 exy m1
  generalize kv2[k]'(by rw [HL2.out]; exact hlt) = y at at2 exy m2
  have HXY : Hid (x.d = y.d) := exy
  have HO1 : Hid (∀ W, Below wr.heap.size wr W → RowsO W B1 (rpR x)) := fun W h => ((H1.out wr HBW.out).below h).item m1
  have HO2 : Hid (∀ W, Below wr.heap.size wr W → RowsO W B2 (rpR y)) := fun W h => ((H2.out wr HBW.out).below h).item m2
  have HSZ : Hid (RpLim x.d) := HS.out _ m1
  have a0 := at1.c0
  have a1 := at1.c1
  have a2 := at1.c2
  have a3 := at1.c3
  have a4 := at1.c4
  have a5 := at1.c5
  have a6 := at1.c6
  have a7 := at1.c7
  have a8 := at1.c8
  have a9 := at1.c9
  have a10 := at1.c10
  have a11 := at1.c11
  have a12 := at1.c12
  have a13 := at1.c13
  have a14 := at1.c14
  have a15 := at1.c15
  have a16 := at1.c16
  have a17 := at1.c17
  have b0 := at2.c0
  have b1 := at2.c1
  have b2 := at2.c2
  have b3 := at2.c3
  have b4 := at2.c4
  have b5 := at2.c5
  have b6 := at2.c6
  have b7 := at2.c7
  have b8 := at2.c8
  have b9 := at2.c9
  have b10 := at2.c10
  have b11 := at2.c11
  have b12 := at2.c12
  have b13 := at2.c13
  have b14 := at2.c14
  have b15 := at2.c15
  have b16 := at2.c16
  have b17 := at2.c17
  have R1 : World.rangeAt wr g1 (k * 18) [.int .i64 x.d.cli, .int .i64 x.d.qmt, .string x.d.qpa, x.v3, .string x.d.qbd, .int .i64 x.d.rst, x.v6, .string x.d.rbd, .int .i64 x.d.knd, .int .i64 x.d.tim, .string x.d.opa, x.v11, x.v12, .int .i64 x.d.ost, x.v14, .string x.d.obd, .int .i64 x.d.otm, .int .i64 x.d.bns] := range_cons a0 (range_cons a1 (range_cons a2 (range_cons a3 (range_cons a4 (range_cons a5 (range_cons a6 (range_cons a7 (range_cons a8 (range_cons a9 (range_cons a10 (range_cons a11 (range_cons a12 (range_cons a13 (range_cons a14 (range_cons a15 (range_cons a16 (range_cons a17 (range_nil _ _ _))))))))))))))))))
  have R2 : World.rangeAt wr g2 (k * 18) [.int .i64 y.d.cli, .int .i64 y.d.qmt, .string y.d.qpa, y.v3, .string y.d.qbd, .int .i64 y.d.rst, y.v6, .string y.d.rbd, .int .i64 y.d.knd, .int .i64 y.d.tim, .string y.d.opa, y.v11, y.v12, .int .i64 y.d.ost, y.v14, .string y.d.obd, .int .i64 y.d.otm, .int .i64 y.d.bns] := range_cons b0 (range_cons b1 (range_cons b2 (range_cons b3 (range_cons b4 (range_cons b5 (range_cons b6 (range_cons b7 (range_cons b8 (range_cons b9 (range_cons b10 (range_cons b11 (range_cons b12 (range_cons b13 (range_cons b14 (range_cons b15 (range_cons b16 (range_cons b17 (range_nil _ _ _))))))))))))))))))
  clear at1 at2 m1 m2 ev1 ev2 exy a0 b0 a1 b1 a2 b2 a3 b3 a4 b4 a5 b5 a6 b6 a7 b7 a8 b8 a9 b9 a10 b10 a11 b11 a12 b12 a13 b13 a14 b14 a15 b15 a16 b16 a17 b17
  have HIF : (Tryz.prog.info? 64).map (·.size) = some 18 := by kernel_rfl
  have HA : Hid (∀ w0 w1, Below wr.heap.size wr w0 → Below w0.heap.size w0 w1 → (World.rangeAt w1 g1 (k * 18) [.int .i64 x.d.cli, .int .i64 x.d.qmt, .string x.d.qpa, x.v3, .string x.d.qbd, .int .i64 x.d.rst, x.v6, .string x.d.rbd, .int .i64 x.d.knd, .int .i64 x.d.tim, .string x.d.opa, x.v11, x.v12, .int .i64 x.d.ost, x.v14, .string x.d.obd, .int .i64 x.d.otm, .int .i64 x.d.bns] ∧ World.rangeAt w1 g2 (k * 18) [.int .i64 y.d.cli, .int .i64 y.d.qmt, .string y.d.qpa, y.v3, .string y.d.qbd, .int .i64 y.d.rst, y.v6, .string y.d.rbd, .int .i64 y.d.knd, .int .i64 y.d.tim, .string y.d.opa, y.v11, y.v12, .int .i64 y.d.ost, y.v14, .string y.d.obd, .int .i64 y.d.otm, .int .i64 y.d.bns]) ∧ Below wr.heap.size wr w1) := fun w0 w1 h h' => by
   have hx := h.trans (h'.mono h.size)
   exact ⟨⟨fun j v hv => by rw [hx.cell (p := ⟨g1, k * 18 + j, none⟩) hg1]; exact R1 j v hv, fun j v hv => by rw [hx.cell (p := ⟨g2, k * 18 + j, none⟩) hg2]; exact R2 j v hv⟩, hx⟩
  go_wp2_with fail
  refine wp_region_held_drew (S := fun w' => World.rangeAt w' g1 (k * 18) [.int .i64 x.d.cli, .int .i64 x.d.qmt, .string x.d.qpa, x.v3, .string x.d.qbd, .int .i64 x.d.rst, x.v6, .string x.d.rbd, .int .i64 x.d.knd, .int .i64 x.d.tim, .string x.d.opa, x.v11, x.v12, .int .i64 x.d.ost, x.v14, .string x.d.obd, .int .i64 x.d.otm, .int .i64 x.d.bns] ∧ World.rangeAt w' g2 (k * 18) [.int .i64 y.d.cli, .int .i64 y.d.qmt, .string y.d.qpa, y.v3, .string y.d.qbd, .int .i64 y.d.rst, y.v6, .string y.d.rbd, .int .i64 y.d.knd, .int .i64 y.d.tim, .string y.d.opa, y.v11, y.v12, .int .i64 y.d.ost, y.v14, .string y.d.obd, .int .i64 y.d.otm, .int .i64 y.d.bns]) (by kernel_rfl) ⟨R1, R2⟩ (fun hHeld => ?_)
  refine wpAnyH_take (i := 0) (v := .slice (some ⟨g1, 0, none⟩) n c1) rfl (by kernel_rfl) (by kernel_rfl) (by kernel_rfl) (fun _ _ _ h => h) (Or.inl ⟨by rfl, by intro W hSW; go_simp⟩) (by assumption) ?_
  refine wpAnyH_take (i := 1) (v := .int .i64 (k : Int)) rfl (by kernel_rfl) (by kernel_rfl) (by kernel_rfl) (fun _ _ _ h => h) (Or.inl ⟨by rfl, by intro W hSW; go_simp⟩) (by assumption) ?_
  refine wpAnyH_take (i := 2) (v := .pointer (some ⟨g1, k * 18, none⟩)) rfl (by kernel_rfl) (by kernel_rfl) (by kernel_rfl) (fun _ _ _ h => h) (Or.inl ⟨by rfl, by intro W hSW; go_simp⟩) (by assumption) ?_
  refine wpAnyH_take (i := 3) (v := .agg #[.int .i64 x.d.cli, .int .i64 x.d.qmt, .string x.d.qpa, x.v3, .string x.d.qbd, .int .i64 x.d.rst, x.v6, .string x.d.rbd, .int .i64 x.d.knd, .int .i64 x.d.tim, .string x.d.opa, x.v11, x.v12, .int .i64 x.d.ost, x.v14, .string x.d.obd, .int .i64 x.d.otm, .int .i64 x.d.bns]) rfl (by kernel_rfl) (by kernel_rfl) (by kernel_rfl) (fun _ _ _ h => h) (yieldsIf_load_mid (by rfl) 64 _ rfl g1 (k * 18) rfl [.int .i64 x.d.cli, .int .i64 x.d.qmt, .string x.d.qpa, x.v3, .string x.d.qbd, .int .i64 x.d.rst, x.v6, .string x.d.rbd, .int .i64 x.d.knd, .int .i64 x.d.tim, .string x.d.opa, x.v11, x.v12, .int .i64 x.d.ost, x.v14, .string x.d.obd, .int .i64 x.d.otm, .int .i64 x.d.bns] _ (fun W h => h.1) Tryz.underlying64 rfl HIF) (by assumption) ?_
  refine wpAnyH_take (i := 4) (v := .slice (some ⟨g2, 0, none⟩) n c2) rfl (by kernel_rfl) (by kernel_rfl) (by kernel_rfl) (fun _ _ _ h => h) (Or.inl ⟨by rfl, by intro W hSW; go_simp⟩) (by assumption) ?_
  refine wpAnyH_take (i := 5) (v := .int .i64 (k : Int)) rfl (by kernel_rfl) (by kernel_rfl) (by kernel_rfl) (fun _ _ _ h => h) (Or.inl ⟨by rfl, by intro W hSW; go_simp⟩) (by assumption) ?_
  refine wpAnyH_take (i := 6) (v := .pointer (some ⟨g2, k * 18, none⟩)) rfl (by kernel_rfl) (by kernel_rfl) (by kernel_rfl) (fun _ _ _ h => h) (Or.inl ⟨by rfl, by intro W hSW; go_simp⟩) (by assumption) ?_
  refine wpAnyH_take (i := 7) (v := .agg #[.int .i64 y.d.cli, .int .i64 y.d.qmt, .string y.d.qpa, y.v3, .string y.d.qbd, .int .i64 y.d.rst, y.v6, .string y.d.rbd, .int .i64 y.d.knd, .int .i64 y.d.tim, .string y.d.opa, y.v11, y.v12, .int .i64 y.d.ost, y.v14, .string y.d.obd, .int .i64 y.d.otm, .int .i64 y.d.bns]) rfl (by kernel_rfl) (by kernel_rfl) (by kernel_rfl) (fun _ _ _ h => h) (yieldsIf_load_mid (by rfl) 64 _ rfl g2 (k * 18) rfl [.int .i64 y.d.cli, .int .i64 y.d.qmt, .string y.d.qpa, y.v3, .string y.d.qbd, .int .i64 y.d.rst, y.v6, .string y.d.rbd, .int .i64 y.d.knd, .int .i64 y.d.tim, .string y.d.opa, y.v11, y.v12, .int .i64 y.d.ost, y.v14, .string y.d.obd, .int .i64 y.d.otm, .int .i64 y.d.bns] _ (fun W h => h.2) Tryz.underlying64 rfl HIF) (by assumption) ?_
  refine rd1 8 rfl (fun K hK => ?_)
  go_simp
  refine (eqReply_any x.d x y B1 B2 _ rfl HXY.out.symm (HO1.out _ ((Below.refl _ wr).drew)) (HO2.out _ ((Below.refl _ wr).drew)) HSZ.out).mono ?_
  rintro e w1 ⟨rfl, hb1⟩
  obtain ⟨hcc, hbx⟩ := HA.out _ w1 ((Below.refl _ wr).drew) hb1
  clear hHeld
  refine hK.out _ _ hcc (fun hHeld => ?_)
  clear hK K
  refine wpAnyH_take (i := 9) (v := .bool false) rfl (by kernel_rfl) (by kernel_rfl) (by kernel_rfl) (fun _ _ _ h => h) (Or.inl ⟨by rfl, by intro W hSW; go_simp⟩) (by assumption) ?_
  refine wdn ?_
  clear hHeld hcc R1 R2 HIF
  go_wp2
  go_roundw
  case rel => exact ⟨k + 1, by omega, by go_num, HBW.out.trans (hbx.mono HBW.out.size)⟩
  case measure => simp [intOf]; omega
theorem eqShelf_go (s : ShD) (n1 n2 n3 n4 : Nat) (oCx oPx oKx oBx oCy oPy oKy oBy : Oa) (pCx pPx pKx pBx pCy pPy pKy pBy : Nat) (kvx kvy : Ks) (Bx By : Nat) (w : World) (HL : Hid (s.cs.length = n1 ∧ s.ws.length = n2 ∧ s.bl.length = n4)) (HN : Hid (n1 ≤ 2000000 ∧ n2 ≤ 2000000 ∧ kvx.length ≤ 2000000 ∧ n4 ≤ 2000000)) (HSZ : Hid (∀ x ∈ kvx, x.1.xs.length ≤ 2000000 ∧ x.1.ys.length ≤ 2000000 ∧ x.1.fs.length ≤ 2000000)) (HKE : Hid (kvx.map (·.1) = kvy.map (·.1))) (Ex_0 : Hid (ShelfO (w) Bx (.slice oCx n1 pCx) (.slice oPx n2 pPx) (.slice oKx n3 pKx) (.slice oBx n4 pBx) kvx s)) (Ey_0 : Hid (ShelfO (w) By (.slice oCy n1 pCy) (.slice oPy n2 pPy) (.slice oKy n3 pKy) (.slice oBy n4 pBy) kvy s)) :
  Calls Tryz.prog 21 #[.agg #[.slice oCx n1 pCx, .slice oPx n2 pPx, .slice oKx n3 pKx, .slice oBx n4 pBx, .int .i64 s.nx, .int .i64 s.sq], .agg #[.slice oCy n1 pCy, .slice oPy n2 pPy, .slice oKy n3 pKy, .slice oBy n4 pBy, .int .i64 s.nx, .int .i64 s.sq]] w fun e w' => e = .returned (.bool true) ∧ Below w.heap.size w w' := by
 have hnx : (s.nx != s.nx) = false := by simp
 have hsq : (s.sq != s.sq) = false := by simp
 have hb0 := Below.refl w.heap.size w
 go_enter Tryz.func21, Tryz.ntmps21
 go_upto_region 1 with fail
 obtain ⟨q1, hq1⟩ := exq (w.heap.size)
 obtain ⟨w1, hW1⟩ := exq (w.alloc (.cells #[.slice oCx n1 pCx, .slice oPx n2 pPx, .slice oKx n3 pKx, .slice oBx n4 pBx, .int .i64 s.nx, .int .i64 s.sq] 43))
 have hz1 := hq1.symm
 rw [← hW1]; try rw [← hq1]
 have hs1 := hsa hW1 hz1
 have bw := bal hW1
 have hb1 := hbt hb0 bw
 have Ex_1 := hid (Ex_0.out.below bw)
 have Ey_1 := hid (Ey_0.out.below bw)
 have B1_1 := hnew hW1 hz1
 clear hb0 Ex_0 Ey_0 bw hW1 hz1
 obtain ⟨q2, hq2⟩ := exq (q1 + 1)
 obtain ⟨w2, hW2⟩ := exq (w1.alloc (.cells #[.slice oCy n1 pCy, .slice oPy n2 pPy, .slice oKy n3 pKy, .slice oBy n4 pBy, .int .i64 s.nx, .int .i64 s.sq] 43))
 have hz2 : w1.heap.size = q2 := by rw [hq2]; exact hs1
 rw [← hW2]; try rw [← hq2]
 have hs2 := hsa hW2 hz2
 have bw := bal hW2
 have hb2 := hbt hb1 bw
 have B1_2 := hblk B1_1 bw
 have Ex_2 := hid (Ex_1.out.below bw)
 have Ey_2 := hid (Ey_1.out.below bw)
 have B2_2 := hnew hW2 hz2
 clear hb1 Ex_1 Ey_1 bw hW2 hz2
 clear hs2 hq2 hs1 hq1
 have c1_0 := (k6c B1_2).1
 have c1_1 := (k6c B1_2).2.1
 have c2_0 := (k6c B2_2).1
 have c2_1 := (k6c B2_2).2.1
 go_wp2_with fail
 refine (eqDisk_any n1 s.cs n2 s.ws _ _ _ _ Bx By _ (show DiskO _ Bx _ n1 s.cs _ n2 s.ws from by have h := Ex_2.out.disk; rw [HL.out.1, HL.out.2.1] at h; exact h) (show DiskO _ By _ n1 s.cs _ n2 s.ws from by have h := Ey_2.out.disk; rw [HL.out.1, HL.out.2.1] at h; exact h) HN.out.1 HN.out.2.1).mono ?_
 rintro e w3 ⟨rfl, bw⟩
 have hb3 := hbt hb2 bw
 have B1_3 := hblk B1_2 bw
 have B2_3 := hblk B2_2 bw
 have Ex_3 := hid (Ex_2.out.below bw)
 have Ey_3 := hid (Ey_2.out.below bw)
 clear hb2 Ex_2 Ey_2 bw
 clear c1_0 c1_1 c2_0 c2_1
 have c1_2 := (k6c B1_3).2.2.1
 have c2_2 := (k6c B2_3).2.2.1
 go_wp2_with fail
 refine (eqKeptS_any _ _ kvx kvy Bx By _ HKE.out Ex_3.out.kept Ey_3.out.kept HN.out.2.2.1 HSZ.out).mono ?_
 rintro e w4 ⟨rfl, bw⟩
 have hb4 := hbt hb3 bw
 have B1_4 := hblk B1_3 bw
 have B2_4 := hblk B2_3 bw
 have Ex_4 := hid (Ex_3.out.below bw)
 have Ey_4 := hid (Ey_3.out.below bw)
 clear hb3 Ex_3 Ey_3 bw
 clear c1_2 c2_2
 have c1_3 := (k6c B1_4).2.2.2.1
 have c2_3 := (k6c B2_4).2.2.2.1
 go_wp2_with fail
 refine (eqBanS_any _ _ n4 _ _ s.bl _ (ban_view (show World.ownsRow _ Bx 143 4 _ n4 (flatBan s.bl) from by have h := Ex_4.out.bans; rw [HL.out.2.2] at h; exact h)) (ban_view (show World.ownsRow _ By 143 4 _ n4 (flatBan s.bl) from by have h := Ey_4.out.bans; rw [HL.out.2.2] at h; exact h)) HN.out.2.2.2).mono ?_
 rintro e w5 ⟨rfl, bw⟩
 have hb5 := hbt hb4 bw
 have B1_5 := hblk B1_4 bw
 have B2_5 := hblk B2_4 bw
 have Ex_5 := hid (Ex_4.out.below bw)
 have Ey_5 := hid (Ey_4.out.below bw)
 clear hb4 Ex_4 Ey_4 bw
 clear c1_3 c2_3
 have c1_4 := (k6c B1_5).2.2.2.2.1
 have c2_4 := (k6c B2_5).2.2.2.2.1
 have c1_5 := (k6c B1_5).2.2.2.2.2
 have c2_5 := (k6c B2_5).2.2.2.2.2
 go_wp2_with fail
 go_ret
 exact ⟨rfl, hb5⟩
theorem eqShelf_any (s : ShD) (v1 v2 V VB u1 u2 U UB : Value) (kvx kvy : Ks) (Bx By : Nat) (w : World) (hx : ShelfO w Bx v1 v2 V VB kvx s) (hy : ShelfO w By u1 u2 U UB kvy s) (h1 : s.cs.length ≤ 2000000) (h2 : s.ws.length ≤ 2000000) (h3 : s.ks.length ≤ 2000000) (h4 : s.bl.length ≤ 2000000) (hs : ∀ k ∈ s.ks, k.xs.length ≤ 2000000 ∧ k.ys.length ≤ 2000000 ∧ k.fs.length ≤ 2000000) :
  Calls Tryz.prog 21 #[.agg #[v1, v2, V, VB, .int .i64 s.nx, .int .i64 s.sq], .agg #[u1, u2, U, UB, .int .i64 s.nx, .int .i64 s.sq]] w fun e w' => e = .returned (.bool true) ∧ Below w.heap.size w w' := by
 obtain ⟨oCx, pCx, rfl⟩ := slice_of_owns hx.disk.cells
 obtain ⟨oPx, pPx, rfl⟩ := slice_of_owns hx.disk.pend
 obtain ⟨oBx, pBx, rfl⟩ := slice_of_owns hx.bans
 obtain ⟨oKx, pKx, rfl⟩ := hx.kept.len
 obtain ⟨oCy, pCy, rfl⟩ := slice_of_owns hy.disk.cells
 obtain ⟨oPy, pPy, rfl⟩ := slice_of_owns hy.disk.pend
 obtain ⟨oBy, pBy, rfl⟩ := slice_of_owns hy.bans
 obtain ⟨oKy, pKy, rfl⟩ := hy.kept.len
 have e1 : kvx.length = s.ks.length := by rw [← hx.2, List.length_map]
 have e2 : kvy.length = s.ks.length := by rw [← hy.2, List.length_map]
 rw [e1] at hx ⊢
 rw [e2] at hy ⊢
 exact eqShelf_go s _ _ _ _ oCx oPx oKx oBx oCy oPy oKy oBy pCx pPx pKx pBx pCy pPy pKy pBy kvx kvy Bx By w ⟨rfl, rfl, rfl⟩ ⟨h1, h2, by rw [e1]; exact h3, h4⟩ (fun x hxm => hs x.1 (by rw [← hx.2]; exact List.mem_map.2 ⟨x, hxm, rfl⟩)) (hx.2.trans hy.2.symm) hx hy
def SzShelf (L : Int) (n1 : Nat) (cs : Ts) (n2 : Nat) (ws : List (Int × ByteArray)) (ks : List KpD) (n4 : Nat) (bl : Bs) (w : World) (e : Ending) (w' : World) : Prop :=
 ∃ r : Int, e = .returned (.int .i64 r) ∧ r ≤ L ∧ (0 ≤ r → r + (n1 : Int) + (n2 : Int) + (wtK ks : Int) + (n4 : Int) ≤ L ∧ (n1 ≤ 1048576 ∧ ∀ i, i < n1 → (textAt cs i).size ≤ 1048576) ∧ (n2 ≤ 1048576 ∧ ∀ x ∈ ws, (x.2).size ≤ 1048576) ∧ (∀ k ∈ ks, KpSmall k) ∧ (n4 ≤ 1048576 ∧ ∀ x ∈ bl, (x.2.1).size ≤ 1048576 ∧ (x.2.2.1).size ≤ 1048576)) ∧ Below w.heap.size w w'
theorem szShelf_any (L : Int) (hL0 : 0 ≤ L) (hL1 : L ≤ 1048576) (a1 : Oa) (n1 c1 : Nat) (cs : Ts) (a2 : Oa) (n2 c2 : Nat) (ws : List (Int × ByteArray)) (a3 : Oa) (n3 c3 : Nat) (ks : List KpD) (a4 : Oa) (n4 c4 : Nat) (bl : Bs) (nx sq : Int) (B : Nat) (w : World) (h1 : ArgT w B a1 n1 cs) (h2 : ArgWrite w B a2 n2 ws) (h3 : ArgKept w B a3 n3 ks) (h4 : ArgBan w B a4 n4 bl) (hB : B ≤ w.heap.size) (hm : n1 ≤ maxLen ∧ n2 ≤ maxLen ∧ n3 ≤ maxLen ∧ n4 ≤ maxLen ∧ (∀ i, i < n1 → (textAt cs i).size ≤ maxLen) ∧ (∀ x ∈ ws, (x.2).size ≤ maxLen) ∧ (∀ k ∈ ks, KpMax k) ∧ ∀ x ∈ bl, (x.2.1).size ≤ maxLen ∧ (x.2.2.1).size ≤ maxLen) :
  Calls Tryz.prog 9 #[.agg #[.slice a1 n1 c1, .slice a2 n2 c2, .slice a3 n3 c3, .slice a4 n4 c4, .int .i64 nx, .int .i64 sq], .int .i64 L] w fun e w' => SzShelf L n1 cs n2 ws ks n4 bl w e w' := by
 have HA1 : Hid (∀ W, Below w.heap.size w W → ArgT W B a1 n1 cs) := fun W h => h1.below (h.mono hB)
 have HA2 : Hid (∀ W, Below w.heap.size w W → ArgWrite W B a2 n2 ws) := fun W h => h2.below (h.mono hB)
 have HA3 : Hid (∀ W, Below w.heap.size w W → ArgKept W B a3 n3 ks) := fun W h => h3.below (h.mono hB)
 have HA4 : Hid (∀ W, Below w.heap.size w W → ArgBan W B a4 n4 bl) := fun W h => h4.below (h.mono hB)
 have HBB : Hid (∀ W, Below w.heap.size w W → B ≤ W.heap.size) := fun W h => Nat.le_trans hB h.size
 have HM := hid hm
 clear h1 h2 h3 h4 hm hB
 have hb0 := Below.refl w.heap.size w
 go_enter Tryz.func9, Tryz.ntmps9
 go_upto_region 1 with fail
 obtain ⟨q1, hq1⟩ := exq (w.heap.size)
 obtain ⟨w1, hW1⟩ := exq (w.alloc (.cells #[.slice a1 n1 c1, .slice a2 n2 c2, .slice a3 n3 c3, .slice a4 n4 c4, .int .i64 nx, .int .i64 sq] 29))
 have hz1 := hq1.symm
 rw [← hW1]; try rw [← hq1]
 have hs1 := hsa hW1 hz1
 have bw := bal hW1
 have hb1 := hbt hb0 bw
 have B1_1 := hnew hW1 hz1
 clear hb0 bw hW1 hz1
 clear hs1 hq1
 have c1_0 := (k6c B1_1).1
 have c1_1 := (k6c B1_1).2.1
 go_wp2_with fail
 refine (szDisk_room L (by omega) (by omega) a1 n1 c1 cs a2 n2 c2 ws B _ (HA1.out _ hb1) (HA2.out _ hb1) (HBB.out _ hb1) HM.out.1 HM.out.2.1 HM.out.2.2.2.2.1 HM.out.2.2.2.2.2.1).mono ?_
 rintro e w2 ⟨r1, rfl, hl1, hr1, bw⟩
 have hb2 := hbt hb1 bw
 have B1_2 := hblk B1_1 bw
 clear hb1 bw
 clear c1_0 c1_1
 by_cases hc1 : r1 < 0
 ·clear hr1
  go_wp2_with fail
  go_ret
  exact ⟨-1, rfl, by omega, fun h => absurd h (by omega), hb2⟩
 have HR1 : Hid _ := hr1 (by omega)
 clear hr1
 have m1 := HR1.out.1
 have c1_2 := (k6c B1_2).2.2.1
 go_wp2_with fail
 refine (szKeptS_any r1 (by omega) (by omega) B a3 n3 c3 ks _ (HA3.out _ hb2) (HBB.out _ hb2) HM.out.2.2.1 HM.out.2.2.2.2.2.2.1).mono ?_
 rintro e w3 ⟨r2, rfl, hl2, hr2, bw⟩
 have hb3 := hbt hb2 bw
 have B1_3 := hblk B1_2 bw
 clear hb2 bw
 clear c1_2
 by_cases hc2 : r2 < 0
 ·clear hr2
  go_wp2_with fail
  go_ret
  exact ⟨-1, rfl, by omega, fun h => absurd h (by omega), hb3⟩
 have HR2 : Hid _ := hr2 (by omega)
 clear hr2
 have m2 := HR2.out.1
 have c1_3 := (k6c B1_3).2.2.2.1
 go_wp2_with fail
 refine (szBanS_room r2 (by omega) (by omega) B a4 n4 c4 bl _ (HA4.out _ hb3) (HBB.out _ hb3) HM.out.2.2.2.1 HM.out.2.2.2.2.2.2.2).mono ?_
 rintro e w4 ⟨r3, rfl, hl3, hr3, bw⟩
 have hb4 := hbt hb3 bw
 have B1_4 := hblk B1_3 bw
 clear hb3 bw
 clear c1_3
 by_cases hc3 : r3 < 0
 ·clear hr3
  go_wp2_with fail
  go_ret
  exact ⟨-1, rfl, by omega, fun h => absurd h (by omega), hb4⟩
 have HR3 : Hid _ := hr3 (by omega)
 clear hr3
 have m3 := HR3.out.1
 go_wp2_with fail
 go_ret
 exact ⟨r3, rfl, by omega, fun _ => ⟨by omega, HR1.out.2.1, HR1.out.2.2, HR2.out.2, HR3.out.2⟩, hb4⟩
end Go.Proofs.YtpacdigfnneoeaaGreatDoor
namespace Go.Proofs.YtpacdigfnneoeaaGreatDoor
open Go.RowKit Go.WideShapes
open Go.Lib hiding intOf
structure CaD where
 s : ShD
 fl : List FlD
 now : Int
 se : List SeD
 sn : List RpD
def caAll (v1 v2 V VB F E R : Value) (kv : Ks) (fv : List FlV) (ev : List SeV) (rv : List RpV) (cs : Ts) (ws : List (Int × ByteArray)) (bl : Bs) : List Rw := ((shAll v1 v2 V VB kv cs ws bl ++ flAll F fv) ++ seAll E ev) ++ rpAll R rv
structure CacheO (w : World) (base : Nat) (v1 v2 V VB F E R : Value) (kv : Ks) (fv : List FlV) (ev : List SeV) (rv : List RpV) (c : CaD) : Prop where
 rows : RowsO w base (caAll v1 v2 V VB F E R kv fv ev rv c.s.cs c.s.ws c.s.bl)
 hk : kv.map (·.1) = c.s.ks
 hf : fv.map (·.d) = c.fl
 he : ev.map (·.d) = c.se
 hr : rv.map (·.d) = c.sn
theorem CacheO.shelf {w : World} {base : Nat} {v1 v2 V VB F E R : Value} {kv : Ks} {fv : List FlV} {ev : List SeV} {rv : List RpV} {c : CaD} (h : CacheO w base v1 v2 V VB F E R kv fv ev rv c) : ShelfO w base v1 v2 V VB kv c.s := ⟨RowsO.sub h.rows ((List.sublist_append_left _ _).trans ((List.sublist_append_left _ _).trans (List.sublist_append_left _ _))), h.hk⟩
theorem CacheO.fls {w : World} {base : Nat} {v1 v2 V VB F E R : Value} {kv : Ks} {fv : List FlV} {ev : List SeV} {rv : List RpV} {c : CaD} (h : CacheO w base v1 v2 V VB F E R kv fv ev rv c) : FlsO w base F fv := RowsO.sub h.rows ((List.sublist_append_right _ _).trans ((List.sublist_append_left _ _).trans (List.sublist_append_left _ _)))
theorem CacheO.ses {w : World} {base : Nat} {v1 v2 V VB F E R : Value} {kv : Ks} {fv : List FlV} {ev : List SeV} {rv : List RpV} {c : CaD} (h : CacheO w base v1 v2 V VB F E R kv fv ev rv c) : SesO w base E ev := RowsO.sub h.rows ((List.sublist_append_right _ _).trans (List.sublist_append_left _ _))
theorem CacheO.rps {w : World} {base : Nat} {v1 v2 V VB F E R : Value} {kv : Ks} {fv : List FlV} {ev : List SeV} {rv : List RpV} {c : CaD} (h : CacheO w base v1 v2 V VB F E R kv fv ev rv c) : RpsO w base R rv := RowsO.sub h.rows (List.sublist_append_right _ _)
theorem CacheO.below {w : World} {base : Nat} {v1 v2 V VB F E R : Value} {kv : Ks} {fv : List FlV} {ev : List SeV} {rv : List RpV} {c : CaD} {w' : World} (h : CacheO w base v1 v2 V VB F E R kv fv ev rv c) (hb : Below w.heap.size w w') : CacheO w' base v1 v2 V VB F E R kv fv ev rv c := ⟨h.rows.below hb, h.hk, h.hf, h.he, h.hr⟩
theorem flAll_T {V : Value} {kv : List FlV} {r : Rw} (h : r ∈ flAll V kv) : r.T = 101 ∨ r.T = 185 ∨ r.T = 3 ∨ r.T = 9 := by
 rcases List.mem_cons.1 h with h | h
 · exact .inl (by rw [h]; rfl)
 ·obtain ⟨x, _, hx⟩ := List.mem_flatMap.1 h
  exact .inr (flR_T hx)
theorem seAll_T {V : Value} {kv : List SeV} {r : Rw} (h : r ∈ seAll V kv) : r.T = 118 ∨ r.T = 185 := by
 rcases List.mem_cons.1 h with h | h
 · exact .inl (by rw [h]; rfl)
 ·obtain ⟨x, _, hx⟩ := List.mem_flatMap.1 h
  exact .inr (seR_T hx)
theorem rpAll_T {V : Value} {kv : List RpV} {r : Rw} (h : r ∈ rpAll V kv) : r.T = 64 ∨ r.T = 185 ∨ r.T = 9 := by
 rcases List.mem_cons.1 h with h | h
 · exact .inl (by rw [h]; rfl)
 ·obtain ⟨x, _, hx⟩ := List.mem_flatMap.1 h
  exact .inr (rpR_T hx)
theorem shAll_noC (T : TypeId) (hT : T ≠ 9 ∧ T ≠ 183 ∧ T ≠ 145 ∧ T ≠ 143 ∧ T ≠ 185 ∧ T ≠ 3 ∧ T ≠ 101 ∧ T ≠ 118 ∧ T ≠ 64) {v1 v2 V VB : Value} {kv : Ks} {cs : Ts} {ws : List (Int × ByteArray)} {bl : Bs} : ∀ r ∈ shAll v1 v2 V VB kv cs ws bl, T ≠ r.T := by
 intro r hr
 unfold shAll at hr
 rcases List.mem_append.1 hr with hr | hr
 ·rcases List.mem_append.1 hr with hr | hr
  ·simp only [List.mem_cons, List.not_mem_nil, or_false] at hr
   rcases hr with rfl | rfl
   · exact hT.1
   · exact hT.2.1
  ·rcases kpAll_T hr with e | e | e
   · rw [e]; exact hT.2.2.1
   · rw [e]; exact hT.1
   · rw [e]; exact hT.2.2.2.2.1
 · rw [List.mem_singleton.1 hr]; exact hT.2.2.2.1
def CacheIs (c : CaD) (w : World) (e : Ending) (w' : World) : Prop := ∃ (v1 v2 V VB F E R : Value) (kv : Ks) (fv : List FlV) (ev : List SeV) (rv : List RpV), e = .returned (.agg #[v1, v2, V, VB, .int .i64 c.s.nx, .int .i64 c.s.sq, F, .int .i64 c.now, E, R]) ∧ CacheO w' w.heap.size v1 v2 V VB F E R kv fv ev rv c ∧ Below w.heap.size w w'
structure CaLen (n1 n2 n3 n4 n5 n6 n7 : Nat) (ks : List KpD) (fl : List FlD) (se : List SeD) (sn : List RpD) : Prop where
 a : n1 ≤ 1048576
 b : n2 ≤ 1048576
 c : n3 ≤ 1048576
 d : n4 ≤ 1048576
 e : n5 ≤ 1048576
 f : n6 ≤ 1048576
 g : n7 ≤ 1048576
 ks : ∀ k ∈ ks, k.xs.length ≤ 1048576 ∧ k.ys.length ≤ 1048576 ∧ k.fs.length ≤ 1048576
 fl : ∀ k ∈ fl, FlLen k
 se : ∀ k ∈ se, SeLen k
 sn : ∀ k ∈ sn, RpLen k
theorem toCache_any (a1 : Oa) (n1 c1 : Nat) (cs : Ts) (a2 : Oa) (n2 c2 : Nat) (ws : List (Int × ByteArray)) (a3 : Oa) (n3 c3 : Nat) (ks : List KpD) (a4 : Oa) (n4 c4 : Nat) (bl : Bs) (nx sq : Int) (a5 : Oa) (n5 c5 : Nat) (fl : List FlD) (now : Int) (a6 : Oa) (n6 c6 : Nat) (se : List SeD) (a7 : Oa) (n7 c7 : Nat) (sn : List RpD) (B : Nat) (w : World) (h1 : ArgT w B a1 n1 cs) (h2 : ArgWrite w B a2 n2 ws) (h3 : ArgKept w B a3 n3 ks) (h4 : ArgBan w B a4 n4 bl) (h5 : ArgFlight w B a5 n5 fl) (h6 : ArgSeen w B a6 n6 se) (h7 : ArgReply w B a7 n7 sn) (hB : B ≤ w.heap.size) (hn : CaLen n1 n2 n3 n4 n5 n6 n7 ks fl se sn) :
  Calls Tryz.prog 6 #[.agg #[.slice a1 n1 c1, .slice a2 n2 c2, .slice a3 n3 c3, .slice a4 n4 c4, .int .i64 nx, .int .i64 sq, .slice a5 n5 c5, .int .i64 now, .slice a6 n6 c6, .slice a7 n7 c7]] w fun e w' => CacheIs ⟨⟨cs, ws, ks, bl, nx, sq⟩, fl, now, se, sn⟩ w e w' := by
 have HA1 : Hid (∀ W, Below w.heap.size w W → ArgT W B a1 n1 cs) := fun W h => h1.below (h.mono hB)
 have HA2 : Hid (∀ W, Below w.heap.size w W → ArgWrite W B a2 n2 ws) := fun W h => h2.below (h.mono hB)
 have HA3 : Hid (∀ W, Below w.heap.size w W → ArgKept W B a3 n3 ks) := fun W h => h3.below (h.mono hB)
 have HA4 : Hid (∀ W, Below w.heap.size w W → ArgBan W B a4 n4 bl) := fun W h => h4.below (h.mono hB)
 have HA5 : Hid (∀ W, Below w.heap.size w W → ArgFlight W B a5 n5 fl) := fun W h => h5.below (h.mono hB)
 have HA6 : Hid (∀ W, Below w.heap.size w W → ArgSeen W B a6 n6 se) := fun W h => h6.below (h.mono hB)
 have HA7 : Hid (∀ W, Below w.heap.size w W → ArgReply W B a7 n7 sn) := fun W h => h7.below (h.mono hB)
 have HBB : Hid (∀ W, Below w.heap.size w W → B ≤ W.heap.size) := fun W h => Nat.le_trans hB h.size
 have HN := hid hn
 clear h1 h2 h3 h4 h5 h6 h7 hn hB
 have hb0 := Below.refl w.heap.size w
 go_enter Tryz.func6, Tryz.ntmps6
 go_upto_region 1 with fail
 obtain ⟨q1, hq1⟩ := exq (w.heap.size)
 obtain ⟨w1, hW1⟩ := exq (w.alloc (.cells #[.slice a1 n1 c1, .slice a2 n2 c2, .slice a3 n3 c3, .slice a4 n4 c4, .int .i64 nx, .int .i64 sq, .slice a5 n5 c5, .int .i64 now, .slice a6 n6 c6, .slice a7 n7 c7] 34))
 have hz1 := hq1.symm
 rw [← hW1]; try rw [← hq1]
 have hs1 := hsa hW1 hz1
 have bw := bal hW1
 have hb1 := hbt hb0 bw
 have B1_1 := hnew hW1 hz1
 clear hb0 bw hW1 hz1
 obtain ⟨q2, hq2⟩ := exq (q1 + 1)
 obtain ⟨w2, hW2⟩ := exq (w1.alloc (.cells #[.slice none 0 0, .slice none 0 0, .slice none 0 0, .slice none 0 0, .int .i64 0, .int .i64 0, .slice none 0 0, .int .i64 0, .slice none 0 0, .slice none 0 0] 48))
 have hz2 : w1.heap.size = q2 := by rw [hq2]; exact hs1
 rw [← hW2]; try rw [← hq2]
 have hs2 := hsa hW2 hz2
 have bw := bal hW2
 have hb2 := hbt hb1 bw
 have B1_2 := hblk B1_1 bw
 have Nv1v2 := hnq B1_1 hz2
 have B2_2 := hnew hW2 hz2
 have Gv2 := hge hz2 hb1
 clear hb1 bw hW2 hz2
 clear hs2 hq2 hs1 hq1
 go_upto_region 2 with fail
 obtain ⟨q3, hq3⟩ := exq (w2.heap.size)
 obtain ⟨w3, hW3⟩ := exq (w2.alloc (.cells #[.slice none 0 0, .slice none 0 0, .slice none 0 0, .slice none 0 0, .int .i64 0, .int .i64 0, .slice none 0 0, .int .i64 0, .slice none 0 0, .slice none 0 0] 48))
 have hz3 := hq3.symm
 rw [← hW3]; try rw [← hq3]
 have hs3 := hsa hW3 hz3
 have bw := bal hW3
 have hb3 := hbt hb2 bw
 have B1_3 := hblk B1_2 bw
 have B2_3 := hblk B2_2 bw
 have Nv1v3 := hnq B1_2 hz3
 have Nv2v3 := hnq B2_2 hz3
 have B3_3 := hnew hW3 hz3
 have Gv3 := hge hz3 hb2
 clear hb2 bw hW3 hz3
 clear hs3 hq3
 have c1_0 := (k10c B1_3).1
 have c1_1 := (k10c B1_3).2.1
 have c1_2 := (k10c B1_3).2.2.1
 have c1_3 := (k10c B1_3).2.2.2.1
 have c1_4 := (k10c B1_3).2.2.2.2.1
 have c1_5 := (k10c B1_3).2.2.2.2.2.1
 go_wp2_with fail
 refine (toShelf_any a1 n1 c1 cs a2 n2 c2 ws a3 n3 c3 ks a4 n4 c4 bl nx sq B _ (HA1.out _ hb3) (HA2.out _ hb3) (HA3.out _ hb3) (HA4.out _ hb3) (HBB.out _ hb3) HN.out.a HN.out.b HN.out.c HN.out.d HN.out.ks).mono ?_
 rintro e w4 ⟨va, vb, vc, vd, kv, rfl, hso, bw⟩
 have HKM : Hid (kv.map (·.1) = ks) := hso.2
 obtain ⟨oC, pC, rfl⟩ := slice_of_owns hso.disk.cells
 obtain ⟨oP, pP, rfl⟩ := slice_of_owns hso.disk.pend
 obtain ⟨oK, pK, rfl⟩ := hso.kept.len
 obtain ⟨oB, pB, rfl⟩ := slice_of_owns hso.bans
 dsimp only at hso ⊢
 have HRN : Hid (RowsO w4 w.heap.size (shAll (.slice oC cs.length pC) (.slice oP ws.length pP) (.slice oK kv.length pK) (.slice oB bl.length pB) kv cs ws bl)) := RowsO.wide hso.1 hb3.size
 have HT0 : Hid (∀ r ∈ (shAll (.slice oC cs.length pC) (.slice oP ws.length pP) (.slice oK kv.length pK) (.slice oB bl.length pB) kv cs ws bl), 48 ≠ r.T) := shAll_noC 48 ⟨by decide, by decide, by decide, by decide, by decide, by decide, by decide, by decide, by decide⟩
 have hb4 := hbt hb3 bw
 have B1_4 := hblk B1_3 bw
 have B2_4 := hblk B2_3 bw
 have B3_4 := hblk B3_3 bw
 clear hb3 bw
 have ER_4 := HRN
 clear HRN
 clear c1_0 c1_1 c1_2 c1_3 c1_4 c1_5
 have c3_0 := (k10c B3_4).1
 have f3_0 := hfz B3_4 0
 have c3_1 := (k10c B3_4).2.1
 have f3_1 := hfz B3_4 1
 have c3_2 := (k10c B3_4).2.2.1
 have f3_2 := hfz B3_4 2
 have c3_3 := (k10c B3_4).2.2.2.1
 have f3_3 := hfz B3_4 3
 have c3_4 := (k10c B3_4).2.2.2.2.1
 have f3_4 := hfz B3_4 4
 have c3_5 := (k10c B3_4).2.2.2.2.2.1
 have f3_5 := hfz B3_4 5
 go_upto_region 3 with fail
 obtain ⟨w5, hW5⟩ := exq (w4.setCell ⟨q3, 0, none⟩ (.slice oC cs.length pC))
 rw [← hW5]
 have hb5 := hbS hW5 hb4 Gv3
 have B1_5 := hset hW5 Nv1v3.out B1_4
 have B2_5 := hset hW5 Nv2v3.out B2_4
 have ER_5 := erS hW5 ER_4 B3_4 HT0.out
 have B3_5 := hput hW5 B3_4
 clear hb4 hW5
 obtain ⟨w6, hW6⟩ := exq (w5.setCell ⟨q3, 1, none⟩ (.slice oP ws.length pP))
 rw [← hW6]
 have hb6 := hbS hW6 hb5 Gv3
 have B1_6 := hset hW6 Nv1v3.out B1_5
 have B2_6 := hset hW6 Nv2v3.out B2_5
 have ER_6 := erS hW6 ER_5 B3_5 HT0.out
 have B3_6 := hput hW6 B3_5
 clear hb5 hW6
 obtain ⟨w7, hW7⟩ := exq (w6.setCell ⟨q3, 2, none⟩ (.slice oK kv.length pK))
 rw [← hW7]
 have hb7 := hbS hW7 hb6 Gv3
 have B1_7 := hset hW7 Nv1v3.out B1_6
 have B2_7 := hset hW7 Nv2v3.out B2_6
 have ER_7 := erS hW7 ER_6 B3_6 HT0.out
 have B3_7 := hput hW7 B3_6
 clear hb6 hW7
 obtain ⟨w8, hW8⟩ := exq (w7.setCell ⟨q3, 3, none⟩ (.slice oB bl.length pB))
 rw [← hW8]
 have hb8 := hbS hW8 hb7 Gv3
 have B1_8 := hset hW8 Nv1v3.out B1_7
 have B2_8 := hset hW8 Nv2v3.out B2_7
 have ER_8 := erS hW8 ER_7 B3_7 HT0.out
 have B3_8 := hput hW8 B3_7
 clear hb7 hW8
 obtain ⟨w9, hW9⟩ := exq (w8.setCell ⟨q3, 4, none⟩ (.int .i64 nx))
 rw [← hW9]
 have hb9 := hbS hW9 hb8 Gv3
 have B1_9 := hset hW9 Nv1v3.out B1_8
 have B2_9 := hset hW9 Nv2v3.out B2_8
 have ER_9 := erS hW9 ER_8 B3_8 HT0.out
 have B3_9 := hput hW9 B3_8
 clear hb8 hW9
 obtain ⟨w10, hW10⟩ := exq (w9.setCell ⟨q3, 5, none⟩ (.int .i64 sq))
 rw [← hW10]
 have hb10 := hbS hW10 hb9 Gv3
 have B1_10 := hset hW10 Nv1v3.out B1_9
 have B2_10 := hset hW10 Nv2v3.out B2_9
 have ER_10 := erS hW10 ER_9 B3_9 HT0.out
 have B3_10 := hput hW10 B3_9
 clear hb9 hW10
 clear c3_0 f3_0 c3_1 f3_1 c3_2 f3_2 c3_3 f3_3 c3_4 f3_4 c3_5 f3_5
 have c1_6 := (k10c B1_10).2.2.2.2.2.2.1
 go_wp2_with fail
 refine (toFlightS_any B a5 n5 c5 fl _ (HA5.out _ hb10) (HBB.out _ hb10) HN.out.e HN.out.fl).mono ?_
 rintro e w11 ⟨VF, fv, rfl, hfm, hfo, bw⟩
 have HFM := hid hfm
 obtain ⟨oF, pF, rfl⟩ := hfo.len
 have HRN : Hid (RowsO w11 w.heap.size (shAll (.slice oC cs.length pC) (.slice oP ws.length pP) (.slice oK kv.length pK) (.slice oB bl.length pB) kv cs ws bl ++ flAll (.slice oF fv.length pF) fv)) := ER_10.out.more bw hfo (Nat.le_refl _) hb10.size
 have HT1 : Hid (∀ r ∈ (shAll (.slice oC cs.length pC) (.slice oP ws.length pP) (.slice oK kv.length pK) (.slice oB bl.length pB) kv cs ws bl ++ flAll (.slice oF fv.length pF) fv), 48 ≠ r.T) := by
  intro r hr
  rcases List.mem_append.1 hr with hr | hr
  · exact HT0.out r hr
  · rcases flAll_T hr with e | e | e | e <;> rw [e] <;> decide
 have hb11 := hbt hb10 bw
 have B1_11 := hblk B1_10 bw
 have B2_11 := hblk B2_10 bw
 have B3_11 := hblk B3_10 bw
 have ER_11 := hid (ER_10.out.below bw)
 clear hb10 bw
 clear ER_11
 have ER_11 := HRN
 clear HRN
 clear c1_6
 have c3_6 := (k10c B3_11).2.2.2.2.2.2.1
 have f3_6 := hfz B3_11 6
 go_upto_region 4 with fail
 obtain ⟨w12, hW12⟩ := exq (w11.setCell ⟨q3, 6, none⟩ (.slice oF fv.length pF))
 rw [← hW12]
 have hb12 := hbS hW12 hb11 Gv3
 have B1_12 := hset hW12 Nv1v3.out B1_11
 have B2_12 := hset hW12 Nv2v3.out B2_11
 have ER_12 := erS hW12 ER_11 B3_11 HT1.out
 have B3_12 := hput hW12 B3_11
 clear hb11 hW12
 clear c3_6 f3_6
 have c1_7 := (k10c B1_12).2.2.2.2.2.2.2.1
 have c3_7 := (k10c B3_12).2.2.2.2.2.2.2.1
 have f3_7 := hfz B3_12 7
 go_upto_region 5 with fail
 obtain ⟨w13, hW13⟩ := exq (w12.setCell ⟨q3, 7, none⟩ (.int .i64 now))
 rw [← hW13]
 have hb13 := hbS hW13 hb12 Gv3
 have B1_13 := hset hW13 Nv1v3.out B1_12
 have B2_13 := hset hW13 Nv2v3.out B2_12
 have ER_13 := erS hW13 ER_12 B3_12 HT1.out
 have B3_13 := hput hW13 B3_12
 clear hb12 hW13
 clear c1_7 c3_7 f3_7
 have c1_8 := (k10c B1_13).2.2.2.2.2.2.2.2.1
 go_wp2_with fail
 refine (toSeenS_any B a6 n6 c6 se _ (HA6.out _ hb13) (HBB.out _ hb13) HN.out.f HN.out.se).mono ?_
 rintro e w14 ⟨VE, ev, rfl, hem, heo, bw⟩
 have HEM := hid hem
 obtain ⟨oE, pE, rfl⟩ := heo.len
 have HRN : Hid (RowsO w14 w.heap.size ((shAll (.slice oC cs.length pC) (.slice oP ws.length pP) (.slice oK kv.length pK) (.slice oB bl.length pB) kv cs ws bl ++ flAll (.slice oF fv.length pF) fv) ++ seAll (.slice oE ev.length pE) ev)) := ER_13.out.more bw heo (Nat.le_refl _) hb13.size
 have HT2 : Hid (∀ r ∈ ((shAll (.slice oC cs.length pC) (.slice oP ws.length pP) (.slice oK kv.length pK) (.slice oB bl.length pB) kv cs ws bl ++ flAll (.slice oF fv.length pF) fv) ++ seAll (.slice oE ev.length pE) ev), 48 ≠ r.T) := by
  intro r hr
  rcases List.mem_append.1 hr with hr | hr
  · exact HT1.out r hr
  · rcases seAll_T hr with e | e <;> rw [e] <;> decide
 have hb14 := hbt hb13 bw
 have B1_14 := hblk B1_13 bw
 have B2_14 := hblk B2_13 bw
 have B3_14 := hblk B3_13 bw
 have ER_14 := hid (ER_13.out.below bw)
 clear hb13 bw
 clear ER_14
 have ER_14 := HRN
 clear HRN
 clear c1_8
 have c3_8 := (k10c B3_14).2.2.2.2.2.2.2.2.1
 have f3_8 := hfz B3_14 8
 go_upto_region 6 with fail
 obtain ⟨w15, hW15⟩ := exq (w14.setCell ⟨q3, 8, none⟩ (.slice oE ev.length pE))
 rw [← hW15]
 have hb15 := hbS hW15 hb14 Gv3
 have B1_15 := hset hW15 Nv1v3.out B1_14
 have B2_15 := hset hW15 Nv2v3.out B2_14
 have ER_15 := erS hW15 ER_14 B3_14 HT2.out
 have B3_15 := hput hW15 B3_14
 clear hb14 hW15
 clear c3_8 f3_8
 have c1_9 := (k10c B1_15).2.2.2.2.2.2.2.2.2
 go_wp2_with fail
 refine (toReplyS_any B a7 n7 c7 sn _ (HA7.out _ hb15) (HBB.out _ hb15) HN.out.g HN.out.sn).mono ?_
 rintro e w16 ⟨VR, rv, rfl, hrm, hro, bw⟩
 have HRM := hid hrm
 obtain ⟨oR, pR, rfl⟩ := hro.len
 have HRN : Hid (RowsO w16 w.heap.size (((shAll (.slice oC cs.length pC) (.slice oP ws.length pP) (.slice oK kv.length pK) (.slice oB bl.length pB) kv cs ws bl ++ flAll (.slice oF fv.length pF) fv) ++ seAll (.slice oE ev.length pE) ev) ++ rpAll (.slice oR rv.length pR) rv)) := ER_15.out.more bw hro (Nat.le_refl _) hb15.size
 have HT3 : Hid (∀ r ∈ (((shAll (.slice oC cs.length pC) (.slice oP ws.length pP) (.slice oK kv.length pK) (.slice oB bl.length pB) kv cs ws bl ++ flAll (.slice oF fv.length pF) fv) ++ seAll (.slice oE ev.length pE) ev) ++ rpAll (.slice oR rv.length pR) rv), 48 ≠ r.T) := by
  intro r hr
  rcases List.mem_append.1 hr with hr | hr
  · exact HT2.out r hr
  · rcases rpAll_T hr with e | e | e <;> rw [e] <;> decide
 have hb16 := hbt hb15 bw
 have B1_16 := hblk B1_15 bw
 have B2_16 := hblk B2_15 bw
 have B3_16 := hblk B3_15 bw
 have ER_16 := hid (ER_15.out.below bw)
 clear hb15 bw
 clear ER_16
 have ER_16 := HRN
 clear HRN
 clear c1_9
 have c3_9 := (k10c B3_16).2.2.2.2.2.2.2.2.2
 have f3_9 := hfz B3_16 9
 go_upto_region 7 with fail
 obtain ⟨w17, hW17⟩ := exq (w16.setCell ⟨q3, 9, none⟩ (.slice oR rv.length pR))
 rw [← hW17]
 have hb17 := hbS hW17 hb16 Gv3
 have B1_17 := hset hW17 Nv1v3.out B1_16
 have B2_17 := hset hW17 Nv2v3.out B2_16
 have ER_17 := erS hW17 ER_16 B3_16 HT3.out
 have B3_17 := hput hW17 B3_16
 clear hb16 hW17
 clear c3_9 f3_9
 have c2_0 := (k10c B2_17).1
 have f2_0 := hfz B2_17 0
 have c2_1 := (k10c B2_17).2.1
 have f2_1 := hfz B2_17 1
 have c2_2 := (k10c B2_17).2.2.1
 have f2_2 := hfz B2_17 2
 have c2_3 := (k10c B2_17).2.2.2.1
 have f2_3 := hfz B2_17 3
 have c2_4 := (k10c B2_17).2.2.2.2.1
 have f2_4 := hfz B2_17 4
 have c2_5 := (k10c B2_17).2.2.2.2.2.1
 have f2_5 := hfz B2_17 5
 have c2_6 := (k10c B2_17).2.2.2.2.2.2.1
 have f2_6 := hfz B2_17 6
 have c2_7 := (k10c B2_17).2.2.2.2.2.2.2.1
 have f2_7 := hfz B2_17 7
 have c2_8 := (k10c B2_17).2.2.2.2.2.2.2.2.1
 have f2_8 := hfz B2_17 8
 have c2_9 := (k10c B2_17).2.2.2.2.2.2.2.2.2
 have f2_9 := hfz B2_17 9
 have c3_0 := (k10c B3_17).1
 have c3_1 := (k10c B3_17).2.1
 have c3_2 := (k10c B3_17).2.2.1
 have c3_3 := (k10c B3_17).2.2.2.1
 have c3_4 := (k10c B3_17).2.2.2.2.1
 have c3_5 := (k10c B3_17).2.2.2.2.2.1
 have c3_6 := (k10c B3_17).2.2.2.2.2.2.1
 have c3_7 := (k10c B3_17).2.2.2.2.2.2.2.1
 have c3_8 := (k10c B3_17).2.2.2.2.2.2.2.2.1
 have c3_9 := (k10c B3_17).2.2.2.2.2.2.2.2.2
 go_wp2_with fail
 obtain ⟨w18, hW18⟩ := exq (w17.setCell ⟨q2, 0, none⟩ (.slice oC cs.length pC))
 rw [← hW18]
 have hb18 := hbS hW18 hb17 Gv2
 have B1_18 := hset hW18 Nv1v2.out B1_17
 have B3_18 := hset hW18 Nv2v3.out.symm B3_17
 have ER_18 := erS hW18 ER_17 B2_17 HT3.out
 have B2_18 := hput hW18 B2_17
 clear hb17 hW18
 obtain ⟨w19, hW19⟩ := exq (w18.setCell ⟨q2, 1, none⟩ (.slice oP ws.length pP))
 rw [← hW19]
 have hb19 := hbS hW19 hb18 Gv2
 have B1_19 := hset hW19 Nv1v2.out B1_18
 have B3_19 := hset hW19 Nv2v3.out.symm B3_18
 have ER_19 := erS hW19 ER_18 B2_18 HT3.out
 have B2_19 := hput hW19 B2_18
 clear hb18 hW19
 obtain ⟨w20, hW20⟩ := exq (w19.setCell ⟨q2, 2, none⟩ (.slice oK kv.length pK))
 rw [← hW20]
 have hb20 := hbS hW20 hb19 Gv2
 have B1_20 := hset hW20 Nv1v2.out B1_19
 have B3_20 := hset hW20 Nv2v3.out.symm B3_19
 have ER_20 := erS hW20 ER_19 B2_19 HT3.out
 have B2_20 := hput hW20 B2_19
 clear hb19 hW20
 obtain ⟨w21, hW21⟩ := exq (w20.setCell ⟨q2, 3, none⟩ (.slice oB bl.length pB))
 rw [← hW21]
 have hb21 := hbS hW21 hb20 Gv2
 have B1_21 := hset hW21 Nv1v2.out B1_20
 have B3_21 := hset hW21 Nv2v3.out.symm B3_20
 have ER_21 := erS hW21 ER_20 B2_20 HT3.out
 have B2_21 := hput hW21 B2_20
 clear hb20 hW21
 obtain ⟨w22, hW22⟩ := exq (w21.setCell ⟨q2, 4, none⟩ (.int .i64 nx))
 rw [← hW22]
 have hb22 := hbS hW22 hb21 Gv2
 have B1_22 := hset hW22 Nv1v2.out B1_21
 have B3_22 := hset hW22 Nv2v3.out.symm B3_21
 have ER_22 := erS hW22 ER_21 B2_21 HT3.out
 have B2_22 := hput hW22 B2_21
 clear hb21 hW22
 obtain ⟨w23, hW23⟩ := exq (w22.setCell ⟨q2, 5, none⟩ (.int .i64 sq))
 rw [← hW23]
 have hb23 := hbS hW23 hb22 Gv2
 have B1_23 := hset hW23 Nv1v2.out B1_22
 have B3_23 := hset hW23 Nv2v3.out.symm B3_22
 have ER_23 := erS hW23 ER_22 B2_22 HT3.out
 have B2_23 := hput hW23 B2_22
 clear hb22 hW23
 obtain ⟨w24, hW24⟩ := exq (w23.setCell ⟨q2, 6, none⟩ (.slice oF fv.length pF))
 rw [← hW24]
 have hb24 := hbS hW24 hb23 Gv2
 have B1_24 := hset hW24 Nv1v2.out B1_23
 have B3_24 := hset hW24 Nv2v3.out.symm B3_23
 have ER_24 := erS hW24 ER_23 B2_23 HT3.out
 have B2_24 := hput hW24 B2_23
 clear hb23 hW24
 obtain ⟨w25, hW25⟩ := exq (w24.setCell ⟨q2, 7, none⟩ (.int .i64 now))
 rw [← hW25]
 have hb25 := hbS hW25 hb24 Gv2
 have B1_25 := hset hW25 Nv1v2.out B1_24
 have B3_25 := hset hW25 Nv2v3.out.symm B3_24
 have ER_25 := erS hW25 ER_24 B2_24 HT3.out
 have B2_25 := hput hW25 B2_24
 clear hb24 hW25
 obtain ⟨w26, hW26⟩ := exq (w25.setCell ⟨q2, 8, none⟩ (.slice oE ev.length pE))
 rw [← hW26]
 have hb26 := hbS hW26 hb25 Gv2
 have B1_26 := hset hW26 Nv1v2.out B1_25
 have B3_26 := hset hW26 Nv2v3.out.symm B3_25
 have ER_26 := erS hW26 ER_25 B2_25 HT3.out
 have B2_26 := hput hW26 B2_25
 clear hb25 hW26
 obtain ⟨w27, hW27⟩ := exq (w26.setCell ⟨q2, 9, none⟩ (.slice oR rv.length pR))
 rw [← hW27]
 have hb27 := hbS hW27 hb26 Gv2
 have B1_27 := hset hW27 Nv1v2.out B1_26
 have B3_27 := hset hW27 Nv2v3.out.symm B3_26
 have ER_27 := erS hW27 ER_26 B2_26 HT3.out
 have B2_27 := hput hW27 B2_26
 clear hb26 hW27
 have kv2_0 := (k10c B2_27).1
 have kv2_1 := (k10c B2_27).2.1
 have kv2_2 := (k10c B2_27).2.2.1
 have kv2_3 := (k10c B2_27).2.2.2.1
 have kv2_4 := (k10c B2_27).2.2.2.2.1
 have kv2_5 := (k10c B2_27).2.2.2.2.2.1
 have kv2_6 := (k10c B2_27).2.2.2.2.2.2.1
 have kv2_7 := (k10c B2_27).2.2.2.2.2.2.2.1
 have kv2_8 := (k10c B2_27).2.2.2.2.2.2.2.2.1
 have kv2_9 := (k10c B2_27).2.2.2.2.2.2.2.2.2
 refine bodyPost_ret (v := .agg #[.slice oC cs.length pC, .slice oP ws.length pP, .slice oK kv.length pK, .slice oB bl.length pB, .int .i64 nx, .int .i64 sq, .slice oF fv.length pF, .int .i64 now, .slice oE ev.length pE, .slice oR rv.length pR]) (by simp [results, Tryz.results6, go_sem, kv2_0, kv2_1, kv2_2, kv2_3, kv2_4, kv2_5, kv2_6, kv2_7, kv2_8, kv2_9]) rfl ?_
 exact ⟨_, _, _, _, _, _, _, kv, fv, ev, rv, rfl, ⟨ER_27.out, HKM.out, HFM.out, HEM.out, HRM.out⟩, hb27⟩
def SzCache (L : Int) (n1 : Nat) (cs : Ts) (n2 : Nat) (ws : List (Int × ByteArray)) (ks : List KpD) (n4 : Nat) (bl : Bs) (fl : List FlD) (se : List SeD) (sn : List RpD) (w : World) (e : Ending) (w' : World) : Prop :=
 ∃ r : Int, e = .returned (.int .i64 r) ∧ r ≤ L ∧ (0 ≤ r → r + (n1 : Int) + (n2 : Int) + (wtK ks : Int) + (n4 : Int) + (wtFl fl : Int) + (wtSe se : Int) + (wtRp sn : Int) ≤ L ∧ ((n1 ≤ 1048576 ∧ ∀ i, i < n1 → (textAt cs i).size ≤ 1048576) ∧ (n2 ≤ 1048576 ∧ ∀ x ∈ ws, (x.2).size ≤ 1048576) ∧ (∀ k ∈ ks, KpSmall k) ∧ (n4 ≤ 1048576 ∧ ∀ x ∈ bl, (x.2.1).size ≤ 1048576 ∧ (x.2.2.1).size ≤ 1048576)) ∧ (∀ k ∈ fl, FlSmall k) ∧ (∀ k ∈ se, SeSmall k) ∧ ∀ k ∈ sn, RpSmall k) ∧ Below w.heap.size w w'
theorem szCache_any (L : Int) (hL0 : 0 ≤ L) (hL1 : L ≤ 1048576) (a1 : Oa) (n1 c1 : Nat) (cs : Ts) (a2 : Oa) (n2 c2 : Nat) (ws : List (Int × ByteArray)) (a3 : Oa) (n3 c3 : Nat) (ks : List KpD) (a4 : Oa) (n4 c4 : Nat) (bl : Bs) (nx sq : Int) (a5 : Oa) (n5 c5 : Nat) (fl : List FlD) (now : Int) (a6 : Oa) (n6 c6 : Nat) (se : List SeD) (a7 : Oa) (n7 c7 : Nat) (sn : List RpD) (B : Nat) (w : World) (h1 : ArgT w B a1 n1 cs) (h2 : ArgWrite w B a2 n2 ws) (h3 : ArgKept w B a3 n3 ks) (h4 : ArgBan w B a4 n4 bl) (h5 : ArgFlight w B a5 n5 fl) (h6 : ArgSeen w B a6 n6 se) (h7 : ArgReply w B a7 n7 sn) (hB : B ≤ w.heap.size) (hm : (n1 ≤ maxLen ∧ n2 ≤ maxLen ∧ n3 ≤ maxLen ∧ n4 ≤ maxLen ∧ (∀ i, i < n1 → (textAt cs i).size ≤ maxLen) ∧ (∀ x ∈ ws, (x.2).size ≤ maxLen) ∧ (∀ k ∈ ks, KpMax k) ∧ ∀ x ∈ bl, (x.2.1).size ≤ maxLen ∧ (x.2.2.1).size ≤ maxLen) ∧ (n5 ≤ maxLen ∧ ∀ k ∈ fl, FlMax k) ∧ (n6 ≤ maxLen ∧ ∀ k ∈ se, SeMax k) ∧ n7 ≤ maxLen ∧ ∀ k ∈ sn, RpMax k) :
  Calls Tryz.prog 4 #[.agg #[.slice a1 n1 c1, .slice a2 n2 c2, .slice a3 n3 c3, .slice a4 n4 c4, .int .i64 nx, .int .i64 sq, .slice a5 n5 c5, .int .i64 now, .slice a6 n6 c6, .slice a7 n7 c7], .int .i64 L] w fun e w' => SzCache L n1 cs n2 ws ks n4 bl fl se sn w e w' := by
 have HA1 : Hid (∀ W, Below w.heap.size w W → ArgT W B a1 n1 cs) := fun W h => h1.below (h.mono hB)
 have HA2 : Hid (∀ W, Below w.heap.size w W → ArgWrite W B a2 n2 ws) := fun W h => h2.below (h.mono hB)
 have HA3 : Hid (∀ W, Below w.heap.size w W → ArgKept W B a3 n3 ks) := fun W h => h3.below (h.mono hB)
 have HA4 : Hid (∀ W, Below w.heap.size w W → ArgBan W B a4 n4 bl) := fun W h => h4.below (h.mono hB)
 have HA5 : Hid (∀ W, Below w.heap.size w W → ArgFlight W B a5 n5 fl) := fun W h => h5.below (h.mono hB)
 have HA6 : Hid (∀ W, Below w.heap.size w W → ArgSeen W B a6 n6 se) := fun W h => h6.below (h.mono hB)
 have HA7 : Hid (∀ W, Below w.heap.size w W → ArgReply W B a7 n7 sn) := fun W h => h7.below (h.mono hB)
 have HBB : Hid (∀ W, Below w.heap.size w W → B ≤ W.heap.size) := fun W h => Nat.le_trans hB h.size
 have HM := hid hm
 clear h1 h2 h3 h4 h5 h6 h7 hm hB
 have hb0 := Below.refl w.heap.size w
 go_enter Tryz.func4, Tryz.ntmps4
 go_upto_region 1 with fail
 obtain ⟨q1, hq1⟩ := exq (w.heap.size)
 obtain ⟨w1, hW1⟩ := exq (w.alloc (.cells #[.slice a1 n1 c1, .slice a2 n2 c2, .slice a3 n3 c3, .slice a4 n4 c4, .int .i64 nx, .int .i64 sq, .slice a5 n5 c5, .int .i64 now, .slice a6 n6 c6, .slice a7 n7 c7] 34))
 have hz1 := hq1.symm
 rw [← hW1]; try rw [← hq1]
 have hs1 := hsa hW1 hz1
 have bw := bal hW1
 have hb1 := hbt hb0 bw
 have B1_1 := hnew hW1 hz1
 clear hb0 bw hW1 hz1
 clear hs1 hq1
 have c1_0 := (k10c B1_1).1
 have c1_1 := (k10c B1_1).2.1
 have c1_2 := (k10c B1_1).2.2.1
 have c1_3 := (k10c B1_1).2.2.2.1
 have c1_4 := (k10c B1_1).2.2.2.2.1
 have c1_5 := (k10c B1_1).2.2.2.2.2.1
 go_wp2_with fail
 refine (szShelf_any L (by omega) (by omega) a1 n1 c1 cs a2 n2 c2 ws a3 n3 c3 ks a4 n4 c4 bl nx sq B _ (HA1.out _ hb1) (HA2.out _ hb1) (HA3.out _ hb1) (HA4.out _ hb1) (HBB.out _ hb1) HM.out.1).mono ?_
 rintro e w2 ⟨r1, rfl, hl1, hr1, bw⟩
 have hb2 := hbt hb1 bw
 have B1_2 := hblk B1_1 bw
 clear hb1 bw
 clear c1_0 c1_1 c1_2 c1_3 c1_4 c1_5
 by_cases hc1 : r1 < 0
 ·clear hr1
  go_wp2_with fail
  go_ret
  exact ⟨-1, rfl, by omega, fun h => absurd h (by omega), hb2⟩
 have HR1 : Hid _ := hr1 (by omega)
 clear hr1
 have mr1 := HR1.out.1
 have c1_6 := (k10c B1_2).2.2.2.2.2.2.1
 go_wp2_with fail
 refine (szFlightS_any r1 (by omega) (by omega) B a5 n5 c5 fl _ (HA5.out _ hb2) (HBB.out _ hb2) HM.out.2.1.1 HM.out.2.1.2).mono ?_
 rintro e w3 ⟨r2, rfl, hl2, hr2, bw⟩
 have hb3 := hbt hb2 bw
 have B1_3 := hblk B1_2 bw
 clear hb2 bw
 clear c1_6
 by_cases hc2 : r2 < 0
 ·clear hr2
  go_wp2_with fail
  go_ret
  exact ⟨-1, rfl, by omega, fun h => absurd h (by omega), hb3⟩
 have HR2 : Hid _ := hr2 (by omega)
 clear hr2
 have mr2 := HR2.out.1
 have c1_8 := (k10c B1_3).2.2.2.2.2.2.2.2.1
 go_wp2_with fail
 refine (szSeenS_any r2 (by omega) (by omega) B a6 n6 c6 se _ (HA6.out _ hb3) (HBB.out _ hb3) HM.out.2.2.1.1 HM.out.2.2.1.2).mono ?_
 rintro e w4 ⟨r3, rfl, hl3, hr3, bw⟩
 have hb4 := hbt hb3 bw
 have B1_4 := hblk B1_3 bw
 clear hb3 bw
 clear c1_8
 by_cases hc3 : r3 < 0
 ·clear hr3
  go_wp2_with fail
  go_ret
  exact ⟨-1, rfl, by omega, fun h => absurd h (by omega), hb4⟩
 have HR3 : Hid _ := hr3 (by omega)
 clear hr3
 have mr3 := HR3.out.1
 have c1_9 := (k10c B1_4).2.2.2.2.2.2.2.2.2
 go_wp2_with fail
 refine (szReplyS_any r3 (by omega) (by omega) B a7 n7 c7 sn _ (HA7.out _ hb4) (HBB.out _ hb4) HM.out.2.2.2.1 HM.out.2.2.2.2).mono ?_
 rintro e w5 ⟨r4, rfl, hl4, hr4, bw⟩
 have hb5 := hbt hb4 bw
 have B1_5 := hblk B1_4 bw
 clear hb4 bw
 clear c1_9
 by_cases hc4 : r4 < 0
 ·clear hr4
  go_wp2_with fail
  go_ret
  exact ⟨-1, rfl, by omega, fun h => absurd h (by omega), hb5⟩
 have HR4 : Hid _ := hr4 (by omega)
 clear hr4
 have mr4 := HR4.out.1
 go_wp2_with fail
 go_ret
 exact ⟨r4, rfl, by omega, fun _ => ⟨by omega, HR1.out.2, HR2.out.2, HR3.out.2, HR4.out.2⟩, hb5⟩
structure CaLim (y : CaD) : Prop where
 c : y.s.cs.length ≤ 2000000
 w : y.s.ws.length ≤ 2000000
 k : y.s.ks.length ≤ 2000000
 b : y.s.bl.length ≤ 2000000
 ks : ∀ k ∈ y.s.ks, k.xs.length ≤ 2000000 ∧ k.ys.length ≤ 2000000 ∧ k.fs.length ≤ 2000000
 nfl : y.fl.length ≤ 2000000
 nse : y.se.length ≤ 2000000
 nsn : y.sn.length ≤ 2000000
 fl : ∀ k ∈ y.fl, FlLim k
 se : ∀ k ∈ y.se, SeLim k
 sn : ∀ k ∈ y.sn, RpLim k
theorem eqCache_any (c : CaD) (x1 x2 x3 x4 x5 x6 x7 y1 y2 y3 y4 y5 y6 y7 : Value) (kvx kvy : Ks) (fvx fvy : List FlV) (evx evy : List SeV) (rvx rvy : List RpV) (Bx By : Nat) (w : World) (hx : CacheO (w) Bx x1 x2 x3 x4 x5 x6 x7 kvx fvx evx rvx c) (hy : CacheO (w) By y1 y2 y3 y4 y5 y6 y7 kvy fvy evy rvy c) (hl : CaLim c) :
  Calls Tryz.prog 8 #[.agg #[x1, x2, x3, x4, .int .i64 c.s.nx, .int .i64 c.s.sq, x5, .int .i64 c.now, x6, x7], .agg #[y1, y2, y3, y4, .int .i64 c.s.nx, .int .i64 c.s.sq, y5, .int .i64 c.now, y6, y7]] w fun e w' => e = .returned (.bool true) ∧ Below w.heap.size w w' := by
 have HLM : Hid (CaLim c) := hl
 have Ex_0 : Hid (CacheO (w) Bx x1 x2 x3 x4 x5 x6 x7 kvx fvx evx rvx c) := hx
 have Ey_0 : Hid (CacheO (w) By y1 y2 y3 y4 y5 y6 y7 kvy fvy evy rvy c) := hy
 clear hx hy hl
 have hnw : (c.now != c.now) = false := by simp
 have hb0 := Below.refl w.heap.size w
 go_enter Tryz.func8, Tryz.ntmps8
 go_upto_region 1 with fail
 obtain ⟨q1, hq1⟩ := exq (w.heap.size)
 obtain ⟨w1, hW1⟩ := exq (w.alloc (.cells #[x1, x2, x3, x4, .int .i64 c.s.nx, .int .i64 c.s.sq, x5, .int .i64 c.now, x6, x7] 48))
 have hz1 := hq1.symm
 rw [← hW1]; try rw [← hq1]
 have hs1 := hsa hW1 hz1
 have bw := bal hW1
 have hb1 := hbt hb0 bw
 have Ex_1 := hid (Ex_0.out.below bw)
 have Ey_1 := hid (Ey_0.out.below bw)
 have B1_1 := hnew hW1 hz1
 clear hb0 Ex_0 Ey_0 bw hW1 hz1
 obtain ⟨q2, hq2⟩ := exq (q1 + 1)
 obtain ⟨w2, hW2⟩ := exq (w1.alloc (.cells #[y1, y2, y3, y4, .int .i64 c.s.nx, .int .i64 c.s.sq, y5, .int .i64 c.now, y6, y7] 48))
 have hz2 : w1.heap.size = q2 := by rw [hq2]; exact hs1
 rw [← hW2]; try rw [← hq2]
 have hs2 := hsa hW2 hz2
 have bw := bal hW2
 have hb2 := hbt hb1 bw
 have B1_2 := hblk B1_1 bw
 have Ex_2 := hid (Ex_1.out.below bw)
 have Ey_2 := hid (Ey_1.out.below bw)
 have B2_2 := hnew hW2 hz2
 clear hb1 Ex_1 Ey_1 bw hW2 hz2
 clear hs2 hq2 hs1 hq1
 have c1_0 := (k10c B1_2).1
 have c1_1 := (k10c B1_2).2.1
 have c1_2 := (k10c B1_2).2.2.1
 have c1_3 := (k10c B1_2).2.2.2.1
 have c1_4 := (k10c B1_2).2.2.2.2.1
 have c1_5 := (k10c B1_2).2.2.2.2.2.1
 have c2_0 := (k10c B2_2).1
 have c2_1 := (k10c B2_2).2.1
 have c2_2 := (k10c B2_2).2.2.1
 have c2_3 := (k10c B2_2).2.2.2.1
 have c2_4 := (k10c B2_2).2.2.2.2.1
 have c2_5 := (k10c B2_2).2.2.2.2.2.1
 go_wp2_with fail
 refine (eqShelf_any c.s _ _ _ _ _ _ _ _ kvx kvy Bx By _ Ex_2.out.shelf Ey_2.out.shelf HLM.out.c HLM.out.w HLM.out.k HLM.out.b HLM.out.ks).mono ?_
 rintro e w3 ⟨rfl, bw⟩
 have hb3 := hbt hb2 bw
 have B1_3 := hblk B1_2 bw
 have B2_3 := hblk B2_2 bw
 have Ex_3 := hid (Ex_2.out.below bw)
 have Ey_3 := hid (Ey_2.out.below bw)
 clear hb2 Ex_2 Ey_2 bw
 clear c1_0 c1_1 c1_2 c1_3 c1_4 c1_5 c2_0 c2_1 c2_2 c2_3 c2_4 c2_5
 have c1_6 := (k10c B1_3).2.2.2.2.2.2.1
 have c2_6 := (k10c B2_3).2.2.2.2.2.2.1
 go_wp2_with fail
 refine (eqFlightS_any _ _ fvx fvy Bx By _ (Ex_3.out.hf.trans Ey_3.out.hf.symm) Ex_3.out.fls Ey_3.out.fls (by rw [← List.length_map (f := (·.d)), Ex_3.out.hf]; exact HLM.out.nfl) (fun x hx => HLM.out.fl x.d (by rw [← Ex_3.out.hf]; exact List.mem_map.2 ⟨x, hx, rfl⟩))).mono ?_
 rintro e w4 ⟨rfl, bw⟩
 have hb4 := hbt hb3 bw
 have B1_4 := hblk B1_3 bw
 have B2_4 := hblk B2_3 bw
 have Ex_4 := hid (Ex_3.out.below bw)
 have Ey_4 := hid (Ey_3.out.below bw)
 clear hb3 Ex_3 Ey_3 bw
 clear c1_6 c2_6
 have c1_7 := (k10c B1_4).2.2.2.2.2.2.2.1
 have c2_7 := (k10c B2_4).2.2.2.2.2.2.2.1
 have c1_8 := (k10c B1_4).2.2.2.2.2.2.2.2.1
 have c2_8 := (k10c B2_4).2.2.2.2.2.2.2.2.1
 go_wp2_with fail
 refine (eqSeenS_any _ _ evx evy Bx By _ (Ex_4.out.he.trans Ey_4.out.he.symm) Ex_4.out.ses Ey_4.out.ses (by rw [← List.length_map (f := (·.d)), Ex_4.out.he]; exact HLM.out.nse) (fun x hx => HLM.out.se x.d (by rw [← Ex_4.out.he]; exact List.mem_map.2 ⟨x, hx, rfl⟩))).mono ?_
 rintro e w5 ⟨rfl, bw⟩
 have hb5 := hbt hb4 bw
 have B1_5 := hblk B1_4 bw
 have B2_5 := hblk B2_4 bw
 have Ex_5 := hid (Ex_4.out.below bw)
 have Ey_5 := hid (Ey_4.out.below bw)
 clear hb4 Ex_4 Ey_4 bw
 clear c1_7 c2_7 c1_8 c2_8
 have c1_9 := (k10c B1_5).2.2.2.2.2.2.2.2.2
 have c2_9 := (k10c B2_5).2.2.2.2.2.2.2.2.2
 go_wp2_with fail
 refine (eqReplyS_any _ _ rvx rvy Bx By _ (Ex_5.out.hr.trans Ey_5.out.hr.symm) Ex_5.out.rps Ey_5.out.rps (by rw [← List.length_map (f := (·.d)), Ex_5.out.hr]; exact HLM.out.nsn) (fun x hx => HLM.out.sn x.d (by rw [← Ex_5.out.hr]; exact List.mem_map.2 ⟨x, hx, rfl⟩))).mono ?_
 rintro e w6 ⟨rfl, bw⟩
 have hb6 := hbt hb5 bw
 have B1_6 := hblk B1_5 bw
 have B2_6 := hblk B2_5 bw
 have Ex_6 := hid (Ex_5.out.below bw)
 have Ey_6 := hid (Ey_5.out.below bw)
 clear hb5 Ex_5 Ey_5 bw
 clear c1_9 c2_9
 go_wp2_with fail
 go_ret
 exact ⟨rfl, hb6⟩
end Go.Proofs.YtpacdigfnneoeaaGreatDoor
namespace Go.Proofs.YtpacdigfnneoeaaGreatDoor
open Go.RowKit
open Go.Lib hiding intOf
theorem l9Names_any (oa : Oa) (m cm : Nat) (xs : Ts) (w : World) (hx : TextsA w oa m xs) (hm : m ≤ 2000000) (hsz : ∀ i, i < m → (textAt xs i).size ≤ maxLen) :
  Calls Tryz.prog 70 #[.slice oa m cm] w fun e w' => BoolIs (NamesP xs) w e w' := by
 have HX : Hid (∀ W, Below w.heap.size w W → TextsA W oa m xs) := fun W h => hx.below h
 have HL : Hid (xs.length = m) := hx.1
 have HS := hid hsz
 clear hx hsz
 go_enter Tryz.func70, Tryz.ntmps70
 go_wp2_with fail
 go_loopw [3] (fun i wr => ∃ j : Nat, j ≤ m ∧ i = .int .i64 (j : Int) ∧ Below w.heap.size w wr ∧ Hid (∀ x ∈ xs.take j, TokOk x)) (fun i _ => m - (intOf i).toNat)
 case atStart => exact ⟨0, Nat.zero_le _, rfl, Below.refl _ _, fun x hx => by simp at hx⟩
 case round =>
  obtain ⟨j, hj, rfl, hbw, HN⟩ := hrel
  by_cases hlt : (j : Int) < (m : Int)
  rotate_left
  ·have HA : Hid (∀ x ∈ xs, TokOk x) := by
    have h := HN.out
    rw [List.take_of_length_le (by rw [HL.out]; omega)] at h
    exact h
   have HQ : Hid (((m : Int) ≤ 4) ↔ NamesP xs) := ⟨fun h => ⟨HA.out, by rw [HL.out]; omega⟩, fun h => by have := h.2; rw [HL.out] at this; omega⟩
   clear HN
   go_wp2_with fail
   go_ret
   exact ⟨decide ((m : Int) ≤ 4), rfl, by rw [decide_eq_true_iff]; exact HQ.out, hbw⟩
  have hjx : j < xs.length := by rw [HL.out]; omega
  obtain ⟨g, rfl, hg, hc⟩ := (HX.out wr hbw).2 j (by omega)
  have hs := HS.out j (by omega)
  obtain ⟨x, hxx⟩ := exq (textAt xs j)
  rw [← hxx] at hc hs
  have HM : Hid (x ∈ xs) := by show _ ∈ _; rw [hxx]; exact textAt_mem xs j hjx
  have HT : Hid (xs.take (j + 1) = xs.take j ++ [x]) := by show _ = _; rw [take_textAt xs j hjx, hxx]
  clear hxx hjx
  go_wp2_with fail
  refine (specTokenOk_any x _ hs).mono ?_
  rintro e w1 ⟨t, rfl, ht, b1⟩
  have hb1 : Below w.heap.size w w1 := hbw.trans (b1.mono hbw.size)
  clear b1 hbw hc
  cases t
  ·have HF : Hid (¬ NamesP xs) := fun h => nomatch ht.2 (h.1 x HM.out)
   clear ht HN
   go_wp2_with fail
   go_ret
   exact BoolIs.no HF.out hb1
  have HN2 : Hid (∀ y ∈ xs.take (j + 1), TokOk y) := by
   intro y hy
   rw [HT.out] at hy
   rcases List.mem_append.1 hy with hy | hy
   · exact HN.out y hy
   · rw [List.mem_singleton.1 hy]; exact ht.1 rfl
  clear ht HN
  go_wp2_with fail
  go_roundw
  case rel => exact ⟨j + 1, by omega, by go_num, hb1, HN2⟩
  case measure => simp [intOf]; omega
theorem l9Copy_any (v : Value) (n base : Nat) (fs : Fs) (w : World) (hv : FieldsV w base v n fs) (hn : n ≤ 2000000) :
  Calls Tryz.prog 123 #[v] w fun e w' => RowF fs w e w' := by
 obtain ⟨i0, hi, hz0, hz1, hz2⟩ := info_parts info33
 have hl := hv.len
 have h63a : 0 + n ≤ maxLen := by unfold maxLen; omega
 have h47a : (0 + n) * 32 ≤ 140737488355328 := by omega
 have hown0 : (w.alloc (.cells #[] 185)).ownsRow w.heap.size 185 2 (.slice (some ⟨w.heap.size, 0, none⟩) 0 0) 0 [] := ⟨rfl, .inr ⟨w.heap.size, 0, #[], rfl, Nat.le_refl _, heap_alloc_new w _, Nat.le_refl _, Nat.zero_le _, rfl, rfl⟩⟩
 have hbs0 : w.heap.size ≤ (w.alloc (.cells #[] 185)).heap.size := by simp
 have hv1 := hv.below ((Below.refl _ w).alloc (Nat.le_refl _) (.cells #[] 185))
 rcases hv1.src with ⟨rfl, rfl, rfl⟩ | ⟨ad, cap, rfl, hcs⟩
 ·have hb2 : Below w.heap.size w (w.alloc (.cells #[] 185)) := (Below.refl _ w).alloc (Nat.le_refl _) _
  clear hv
  go_enter Tryz.func123, Tryz.ntmps123
  go_wp2_with (at_builtin; refine wpList_append_own_none rfl _ _ 56 rfl w.heap.size 185 i0 2 Tryz.underlying56 hi _ _ _ rfl hown0 rfl ?_)
  go_wp2
  go_ret
  exact ⟨_, rfl, hown0, hb2⟩
 ·have hnl : (flatF fs).length = n * 2 := by rw [flatF_len, hl]
  go_enter Tryz.func123, Tryz.ntmps123
  go_wp2_with (at_builtin; refine wpList_append_own _ rfl _ _ 56 rfl w.heap.size 185 i0 (.agg #[.string ⟨#[]⟩, .string ⟨#[]⟩]) 2 32 Tryz.underlying56 hi hz0 hz1 hz2 rfl (by decide) _ _ _ rfl hown0 ad n cap (flatF fs) rfl hnl hcs (flat_one _) h63a h47a hbs0 ?_)
  intro v1 w2 hown1 hgrow _
  have hb2 : Below w.heap.size w w2 := ((Below.refl _ w).alloc (Nat.le_refl _) _).grown hgrow hbs0 (fun g hg => owns_ge hown0 hg)
  have hown2 : w2.ownsRow w.heap.size 185 2 v1 fs.length (flatF fs) := by rw [hl]; simpa using hown1
  clear hgrow hown1 hown0 hbs0 hv1 hcs hv
  go_wp2
  go_ret
  exact ⟨_, rfl, hown2, hb2⟩
theorem specSame_any (m : Int) (p : Tx) (v : Value) (b : Tx) (n base : Nat) (fs : Fs) (u : Value) (k base2 : Nat) (gs : Fs) (w : World) (hv : FieldsV w base v n fs) (hn : n ≤ 1073741824) (hu : FieldsV w base2 u k gs) (hk : k ≤ 1073741824) :
  Calls Tryz.prog 82 #[.agg #[.int .i64 m, .string p, v, .string b], u] w fun e w' => BoolIs (SameP fs gs) w e w' := by
 obtain ⟨oa, cap, rfl, _⟩ := hv.slice
 obtain ⟨W0, hW0⟩ := exq (w.alloc (.cells #[.int .i64 m, .string p, .slice oa n cap, .string b] 58))
 have HW0 := hsy hW0
 have b0 : Below w.heap.size w W0 := by rw [hW0]; exact (Below.refl _ w).alloc (Nat.le_refl _) _
 have hv0 := hv.below b0
 have HU : Hid (FieldsV W0 base2 u k gs) := hu.below b0
 obtain ⟨⟨_, _, c2, _⟩, _⟩ := four_facts (show W0.heap[w.heap.size]? = some (.cells #[.int .i64 m, .string p, .slice oa n cap, .string b] 58) by rw [hW0]; exact heap_alloc_new w _)
 have HB : Hid (Below w.heap.size w W0) := b0
 obtain ⟨s, hs⟩ := exq (getV fs inmName)
 obtain ⟨t, ht⟩ := exq (getV gs tagName)
 obtain ⟨f1, hf1⟩ := exq (getB fs inmName)
 obtain ⟨f2, hf2⟩ := exq (getB gs tagName)
 have HQ : Hid (SameP fs gs ↔ f1 = true ∧ f2 = true ∧ s = t) := by show _ ↔ _; rw [hs, ht, hf1, hf2]; rfl
 have HE1 : Hid (getV fs inmName = s) := hs.symm
 have HE2 : Hid (getV gs tagName = t) := ht.symm
 have HE3 : Hid (getB fs inmName = f1) := hf1.symm
 have HE4 : Hid (getB gs tagName = f2) := hf2.symm
 obtain ⟨r, hr⟩ := exq (w.heap.size)
 have HR : Hid (w.heap.size = r) := hr.symm
 rw [← hr] at c2
 clear hW0 b0 hv hu hs ht hf1 hf2
 go_enter Tryz.func82, Tryz.ntmps82
 go_upto_region 1 with fail
 rw [HW0.out, ← hr]
 clear hr HW0
 go_wp2_with fail
 refine (specGet_any _ n base fs inmName _ hv0 hn).mono ?_
 rintro e w1 ⟨rfl, rfl⟩
 rw [HE1.out, HE3.out]
 clear hv0 c2
 go_wp2_with fail
 refine (specGet_any u k base2 gs tagName _ HU.out hk).mono ?_
 rintro e w2 ⟨rfl, rfl⟩
 rw [HE2.out, HE4.out]
 cases f1
 ·have HF : Hid (¬ SameP fs gs) := fun h => nomatch (HQ.out.1 h).1
  go_wp2_with fail
  go_ret
  exact BoolIs.no HF.out HB.out
 cases f2
 ·have HF : Hid (¬ SameP fs gs) := fun h => nomatch (HQ.out.1 h).2.1
  go_wp2_with fail
  go_ret
  exact BoolIs.no HF.out HB.out
 have HT : Hid ((s.toList == t.toList) = true ↔ SameP fs gs) := by show _ ↔ _; rw [HQ.out, text_beq]; simp
 go_wp2_with fail
 go_ret
 exact ⟨_, rfl, HT.out, HB.out⟩
def twoSet (w : World) (r : Nat) (nm vl : Tx) : World := (w.setCell ⟨r, 0, none⟩ (.string nm)).setCell ⟨r, 1, none⟩ (.string vl)
theorem twoSet_heap {w : World} {r : Nat} (nm vl : Tx) (h : w.heap[r]? = some (.cells #[.string ⟨#[]⟩, .string ⟨#[]⟩] 185)) : (twoSet w r nm vl).heap[r]? = some (.cells #[.string nm, .string vl] 185) := by
 have := heap_set _ r 1 _ _ _ (.string vl) (heap_set w r 0 _ _ _ (.string nm) h)
 simpa [twoSet] using this
theorem place_any (v : Value) (n base : Nat) (fs : Fs) (name : Tx) (w : World) (hv : FieldsV w base v n fs) (hn : n ≤ 1073741824) :
  Calls Tryz.prog 187 #[v, .string name] w fun e w' => e = .returned (.int .i64 (atF fs name : Int)) ∧ w' = w := by
 have hl := hv.len
 obtain ⟨oa, cap, rfl, hrow⟩ := hv.slice
 clear hv
 go_enter Tryz.func187, Tryz.ntmps187
 go_wp2
 go_loop [8] (fun i => ∃ k : Nat, k ≤ n ∧ i = .int .i64 (k : Int) ∧ Hid (∀ j, j < k → nameAt fs j ≠ name)) (fun i => n - (intOf i).toNat)
 case atStart => exact ⟨0, Nat.zero_le _, rfl, fun j h => absurd h (by omega)⟩
 case round =>
  obtain ⟨k, hk, rfl, hb⟩ := hrel
  by_cases hlt : k < n
  rotate_left
  ·have hT : Hid (atF fs name = n) := by
    have := atF_none (fs := fs) (name := name) (fun j hj => hb.out j (by omega))
    show _ = _
    omega
   clear hrow
   go_wp2
   go_ret
   exact ⟨by rw [hT.out]; rfl, rfl⟩
  obtain ⟨g, rfl, row⟩ := hrow k hlt
  have hc := row.name k hlt
  have hlt2 : (k : Int) < (n : Int) := by omega
  clear hrow row
  by_cases he : nameAt fs k = name
  ·have hT : Hid (atF fs name = k) := atF_uniq (by omega) hb.out he
   have ht : ((nameAt fs k).toList == name.toList) = true := (text_beq _ _).2 he
   clear he
   go_wp2
   go_ret
   exact ⟨by rw [hT.out]; rfl, rfl⟩
  have ht := text_beq_no he
  have HE := hid he
  clear he
  go_wp2
  go_round
  case rel =>
   refine ⟨k + 1, by omega, by go_num, ?_⟩
   intro j hj
   by_cases e : j = k
   · subst e; exact HE.out
   exact hb.out j (by omega)
  case measure => simp [intOf]; omega
theorem newField_any (nm vl : Tx) (w : World) (h1 : nm.size ≤ 281474976710656) (h2 : vl.size ≤ 281474976710656) :
  Calls Tryz.prog 192 #[.string nm, .string vl] w fun e w' => e = .returned (.agg #[.string nm, .string vl]) ∧ Below w.heap.size w w' := by
 go_enter Tryz.func192, Tryz.ntmps192
 go_wp2_with fail
 refine (clone_any nm _ h1).mono ?_
 rintro e w1 ⟨rfl, hb1⟩
 go_wp2_with fail
 refine (clone_any vl _ h2).mono ?_
 rintro e w2 ⟨rfl, hb2⟩
 obtain ⟨r, hr⟩ := exq (w.heap.size)
 have h0 : (w.alloc (.cells #[.string ⟨#[]⟩, .string ⟨#[]⟩] 185)).heap.size = w.heap.size + 1 := by simp
 have hb : Below w.heap.size w w2 := ((Below.refl _ w).alloc (Nat.le_refl _) _).trans ((hb1.trans (hb2.mono hb1.size)).mono (by omega))
 have hre2 : w2.heap[r]? = some (.cells #[.string ⟨#[]⟩, .string ⟨#[]⟩] 185) := by
  rw [hr, (hb1.trans (hb2.mono hb1.size)).block _ (by omega)]; exact heap_alloc_new w _
 have hc0 : w2.cell? ⟨r, 0, none⟩ = some (.string ⟨#[]⟩) := by simp [World.cell?, hre2]
 have hc1 : w2.cell? ⟨r, 1, none⟩ = some (.string ⟨#[]⟩) := by simp [World.cell?, hre2]
 have hf0 : w2.frozen? ⟨r, 0, none⟩ = false := by simp [World.frozen?, hre2]
 have hf1 : w2.frozen? ⟨r, 1, none⟩ = false := by simp [World.frozen?, hre2]
 have hre3 := twoSet_heap nm vl hre2
 have k0 : (twoSet w2 r nm vl).cell? ⟨r, 0, none⟩ = some (.string nm) := by simp [World.cell?, hre3]
 have k1 : (twoSet w2 r nm vl).cell? ⟨r, 1, none⟩ = some (.string vl) := by simp [World.cell?, hre3]
 have hb3 : Below w.heap.size w (twoSet w2 r nm vl) := (hb.setCell (p := ⟨r, 0, none⟩) (by simp [hr]) _).setCell (p := ⟨r, 1, none⟩) (by simp [hr]) _
 have HB3 := hid hb3
 rw [← hr]
 unfold twoSet at k0 k1
 clear hre3 hre2 hb hb3 hb1 hb2 hr h0
 go_wp2
 exact bodyPost_ret (v := .agg #[.string nm, .string vl]) (by simp [results, Tryz.results192, go_sem, k0, k1]) rfl ⟨rfl, HB3.out⟩
theorem cell_set_other (w : World) (r o g p : Nat) (v : Value) (h : g ≠ r) : (w.setCell ⟨r, o, none⟩ v).cell? ⟨g, p, none⟩ = w.cell? ⟨g, p, none⟩ := by
 unfold World.cell?
 rw [heap_setCell_other _ _ g _ (fun e => h e)]
def CopyF (fs : Fs) : Prop := ∀ i, i < fs.length → (nameAt fs i).size ≤ 281474976710656 ∧ (valAt fs i).size ≤ 281474976710656
theorem copied_any (v : Value) (n base : Nat) (fs : Fs) (w : World) (hv : FieldsV w base v n fs) (hn : n ≤ 2000000) (hsz : CopyF fs) :
  Calls Tryz.prog 194 #[v] w fun e w' => RowF fs w e w' := by
 obtain ⟨i0, hi, hz0, hz1, hz2⟩ := info_parts info33
 obtain ⟨M, hM⟩ : ∃ M, M = madeCells (Value.agg #[.string ⟨#[]⟩, .string ⟨#[]⟩]).cells (((n : Nat) : Int).toNat * i0.size) := ⟨_, rfl⟩
 have hmk : ∀ W : World, (Instr.makeSlice 236 (.int .i64 (n : Int)) (.int .i64 (n : Int))).run Tryz.prog W = .ok (.slice (some ⟨W.heap.size, 0, none⟩) n n) (W.alloc (.cells M 185)) := fun W => by
  have h := run_make (P := Tryz.prog) W 236 185 i0 (.agg #[.string ⟨#[]⟩, .string ⟨#[]⟩]) Tryz.underlying236 hi hz0 .i64 .i64 (n : Int) (n : Int) (by omega) (by omega) (by rw [hz2]; omega) (by omega)
  rw [← hM] at h
  simpa using h
 have hMs : M.size = n * 2 := by rw [hM, size_madeCells, hz1]; simp
 have hlen := hv.len
 obtain ⟨oa, cap, rfl, hrow⟩ := hv.slice
 have HROW := hid hrow
 have HSZ := hid hsz
 clear hM hv hrow hsz
 have HP : Hid (PartRow (w.alloc (.cells M 185)) w.heap.size n 0 fs) := ⟨M, heap_alloc_new w _, hMs, fun i h => absurd h (by omega)⟩
 go_enter Tryz.func194, Tryz.ntmps194
 go_wp2
 go_loopw [10] (fun i wr => ∃ k : Nat, k ≤ n ∧ i = .int .i64 (k : Int) ∧ Hid (PartRow wr w.heap.size n k fs) ∧ Below w.heap.size w wr) (fun i _ => n - (intOf i).toNat)
 case atStart => exact ⟨0, Nat.zero_le _, rfl, HP, (Below.refl _ _).alloc (Nat.le_refl _) _⟩
 case round =>
  obtain ⟨k, hk, rfl, hpr, hbw⟩ := hrel
  by_cases hlt : k < n
  rotate_left
  ·obtain rfl : k = n := by omega
   go_wp2
   go_ret
   exact ⟨_, rfl, by rw [hlen]; exact hpr.out.owns hlen (by unfold maxLen; omega) (Nat.le_refl _), hbw⟩
  have hlt2 : (k : Int) < (n : Int) := by omega
  obtain ⟨g, rfl, row⟩ := HROW.out k hlt
  have hrowlt := row.lt
  have HRW : Hid (FieldRow base w g n cap fs) := row
  have row1 := row.below hbw row.lt
  have hc1 := row1.name k hlt
  have hc2 := row1.val k hlt
  obtain ⟨z1, z2⟩ := HSZ.out k (by omega)
  obtain ⟨nm, hnm⟩ := exq (nameAt fs k)
  obtain ⟨vl, hvl⟩ := exq (valAt fs k)
  rw [← hnm] at hc1 z1
  rw [← hvl] at hc2 z2
  have HNM := hid hnm
  have HVL := hid hvl
  clear hnm hvl row row1
  have hgr : g < w.heap.size := hrowlt
  have HA : Hid (∀ w0 w1, Below wr.heap.size wr w0 → Below w0.heap.size w0 w1 → (w1.cell? ⟨g, k * 2, none⟩ = some (.string nm) ∧ w1.cell? ⟨g, k * 2 + 1, none⟩ = some (.string vl)) ∧ (∃ u, w1.cell? ⟨w.heap.size, k * 2, none⟩ = some u) ∧ (∃ u, w1.cell? ⟨w.heap.size, k * 2 + 1, none⟩ = some u) ∧ w1.frozen? ⟨w.heap.size, k * 2, none⟩ = false ∧ w1.frozen? ⟨w.heap.size, k * 2 + 1, none⟩ = false ∧ Hid (PartRow ((w1.setCell ⟨w.heap.size, k * 2, none⟩ (.string nm)).setCell ⟨w.heap.size, k * 2 + 1, none⟩ (.string vl)) w.heap.size n (k + 1) fs) ∧ Below w.heap.size w w1 ∧ (((w1.setCell ⟨w.heap.size, k * 2, none⟩ (.string nm)).setCell ⟨w.heap.size, k * 2 + 1, none⟩ (.string vl)).cell? ⟨g, k * 2, none⟩ = some (.string nm) ∧ ((w1.setCell ⟨w.heap.size, k * 2, none⟩ (.string nm)).setCell ⟨w.heap.size, k * 2 + 1, none⟩ (.string vl)).cell? ⟨g, k * 2 + 1, none⟩ = some (.string vl))) := fun w0 w1 h h' => by
   have hx := h.trans (h'.mono h.size)
   have hy := hbw.trans (hx.mono hbw.size)
   have row1 := HRW.out.below hy hgr
   have a1 := row1.name k hlt
   have a2 := row1.val k hlt
   rw [← HNM.out] at a1
   rw [← HVL.out] at a2
   have hpr1 := hpr.out.below hx hpr.out.lt
   have hput := hpr1.put hlt
   rw [← HNM.out, ← HVL.out] at hput
   exact ⟨⟨a1, a2⟩, hpr1.cell (k * 2) (by omega), hpr1.cell (k * 2 + 1) (by omega), hpr1.frozen _, hpr1.frozen _, hput, hy, by rw [cell_set_other _ _ _ _ _ _ (by omega), cell_set_other _ _ _ _ _ _ (by omega)]; exact a1, by rw [cell_set_other _ _ _ _ _ _ (by omega), cell_set_other _ _ _ _ _ _ (by omega)]; exact a2⟩
  go_wp2
  go_region_held3 (fun w' => w'.cell? ⟨g, k * 2, none⟩ = some (.string nm) ∧ w'.cell? ⟨g, k * 2 + 1, none⟩ = some (.string vl)) (first | assumption | go_keep) (first | (go_at_call 192; refine (newField_any nm vl _ z1 z2).mono ?_; rintro e w1 ⟨rfl, hb1⟩; obtain ⟨hcc, ⟨u0, hu0⟩, ⟨u1, hu1⟩, f0, f1, HPUT, hb2, hs1, hs2⟩ := HA.out _ w1 ((Below.refl _ wr).drew) hb1))
  go_wp2
  go_roundw
  case rel => exact ⟨k + 1, by omega, by go_num, HPUT, (hb2.setCell (Nat.le_refl _) _).setCell (Nat.le_refl _) _⟩
  case measure => simp [intOf]; omega
theorem implGet_any (v : Value) (n base : Nat) (fs : Fs) (name : Tx) (w : World) (hv : FieldsV w base v n fs) (hn : n ≤ 1073741824) (hsz : CopyF fs) :
  Calls Tryz.prog 164 #[v, .string name] w fun e w' => e = .returned (.tuple #[.string (getV fs name), .bool (getB fs name)]) ∧ Below w.heap.size w w' := by
 have hl := hv.len
 have hv0 := hv
 obtain ⟨oa, cap, rfl, hrow⟩ := hv0.slice
 clear hv0
 obtain ⟨k, hk⟩ := exq (atF fs name)
 have hle := atF_le fs name
 by_cases hin : atF fs name < fs.length
 rotate_left
 ·have hV : Hid (getV fs name = ⟨#[]⟩) := by show _ = _; unfold getV; rw [if_neg hin]
  have hB : Hid (getB fs name = false) := by show _ = _; unfold getB; simpa using hin
  have hkn : k = n := by omega
  go_enter Tryz.func164, Tryz.ntmps164
  go_wp2_with fail
  refine (place_any _ n base fs name _ hv hn).mono ?_
  rintro e w1 ⟨rfl, rfl⟩
  rw [← hk, hkn]
  clear hv hrow hk hle hin hsz hkn
  go_wp2
  go_ret2
  exact ⟨by rw [hV.out, hB.out]; rfl, Below.refl _ _⟩
 have hV : Hid (getV fs name = valAt fs k) := by show _ = _; unfold getV; rw [if_pos hin, hk]
 have hB : Hid (getB fs name = true) := by show _ = _; unfold getB; simpa using hin
 obtain ⟨g, rfl, row⟩ := hrow k (by omega)
 have hc := row.val k (by omega)
 have hlt : (k : Int) < (n : Int) := by omega
 have hne : ((k : Int) == (n : Int)) = false := by rw [beq_eq_false_iff_ne]; omega
 obtain ⟨_, hz⟩ := hsz k (by omega)
 obtain ⟨vl, hvl⟩ := exq (valAt fs k)
 rw [← hvl] at hV hc hz
 go_enter Tryz.func164, Tryz.ntmps164
 go_wp2_with fail
 refine (place_any _ n base fs name _ hv hn).mono ?_
 rintro e w1 ⟨rfl, rfl⟩
 rw [← hk]
 clear hv hrow row hk hvl hle hin hsz
 go_wp2_with fail
 refine (clone_any vl _ hz).mono ?_
 rintro e w2 ⟨rfl, hb2⟩
 go_wp2
 go_ret2
 exact ⟨by rw [hV.out, hB.out]; rfl, hb2⟩
end Go.Proofs.YtpacdigfnneoeaaGreatDoor
