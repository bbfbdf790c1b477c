/- What the proof of FnAnswered leans on: contracts of the program's and the specification's functions, and plain facts (part 8 of 9). -/
import Derived.Test.YtmcmeeibogkpaaaGreatDoorRFnAnsweredG
set_option maxHeartbeats 16000000
set_option maxRecDepth 100000
namespace Go.Proofs.YtmcmeeibogkpaaaGreatDoorR
open Go.RowKit
open Go.Lib hiding intOf
theorem specAnswer_any (ma : Int) (pa : ByteArray) (va : Value) (ba : ByteArray) (na basea : Nat) (fsa : List (ByteArray × ByteArray)) (op : ByteArray) (o1 o2 : Option Addr) (n1 c1 n2 c2 : Nat) (st : Int) (u : Value) (d : ByteArray) (t : Int) (k baseo : Nat) (gs : List (ByteArray × ByteArray)) (now : Int) (w : World) (hva : FieldsV w basea va na fsa) (hna : na ≤ 1048576) (hsa : WalkF na fsa) (hpa : pa.size ≤ maxLen) (hba : ba.size ≤ maxLen) (hga : ∀ x, (getV fsa x).size ≤ 1048576) (hu : FieldsV w baseo u k gs) (hk : k ≤ 1048576) (hso : WalkF k gs) (hd : d.size ≤ maxLen) (hgo : ∀ x, (getV gs x).size ≤ 1048576) (ht : -9223372036854775808 ≤ t) (hnow : now ≤ 9223372036854775807) :
  Calls Tryz.prog 10 #[.agg #[.int .i64 ma, .string pa, va, .string ba], .agg #[.string op, .slice o1 n1 c1, .slice o2 n2 c2, .int .i64 st, u, .string d, .int .i64 t], .int .i64 now] w fun e w' => RespRow (ansS fsa gs st) (ansF fsa gs st d t now) (ansB fsa gs d) w e w' := by
 obtain ⟨oa, ca, hsl, _⟩ := hva.slice
 subst hsl
 have HVa : Hid (∀ W, Below w.heap.size w W → FieldsV W basea (.slice oa na ca) na fsa) := fun W h => hva.below h
 have HLFa : Hid (fsa.length = na) := hva.len
 have HSa : Hid (WalkF na fsa) := hsa
 have HPMa : Hid (pa.size ≤ maxLen) := hpa
 have HBMa : Hid (ba.size ≤ maxLen) := hba
 have HQVa : Hid (∀ x, (getV fsa x).size ≤ 1048576) := hga
 clear hva hsa hpa hba hga
 obtain ⟨o3, c3, hsl, _⟩ := hu.slice
 subst hsl
 have HVo : Hid (∀ W, Below w.heap.size w W → FieldsV W baseo (.slice o3 k c3) k gs) := fun W h => hu.below h
 have HLo : Hid (gs.length = k) := hu.len
 have HSo : Hid (WalkF k gs) := hso
 have HDM : Hid (d.size ≤ maxLen) := hd
 have HGo : Hid (∀ x, (getV gs x).size ≤ 1048576) := hgo
 have HTN : Hid (-9223372036854775808 ≤ t ∧ now ≤ 9223372036854775807) := ⟨ht, hnow⟩
 clear hu hso hd hgo ht hnow
 obtain ⟨sg, hsg⟩ := exq (shortF gs)
 have HSG : Hid (shortF gs = sg) := hsg.symm
 have HSL : Hid (sg.length ≤ k) := by show _ ≤ _; rw [hsg, ← HLo.out]; exact shortF_le gs
 have bsl : sg.length ≤ 1048576 := by have := HSL.out; omega
 have HSW : Hid (WalkF sg.length sg) := by show WalkF _ _; rw [hsg]; exact walk_short HLo.out HSo.out
 clear hsg
 obtain ⟨ag, hag⟩ := exq (ageAt gs t now)
 have HAG : Hid (ageAt gs t now = ag) := hag.symm
 have HAB : Hid (0 ≤ ag ∧ ag ≤ 1000000) := by show _ ∧ _; rw [hag]; exact ageAt_in gs t now
 have hab0 : -9223372036854775808 ≤ ag := by have := HAB.out.1; omega
 have hab1 : ag ≤ 9223372036854775807 := by have := HAB.out.2; omega
 clear hag
 obtain ⟨tx, htx⟩ := exq (numTextI ag)
 have HTX : Hid (numTextI ag = tx) := htx.symm
 have HAT : Hid (ageT gs t now = tx) := by show _ = _; rw [htx, ← HAG.out]; rfl
 have HTZ : Hid (tx.size ≤ 8) := by show _ ≤ _; rw [← HAT.out]; exact ageT_size gs t now
 clear htx
 have hb0 : Below w.heap.size w w := Below.refl _ _
 go_enter Tryz.func10, Tryz.ntmps10
 go_upto_region 1 with fail
 obtain ⟨qv1, hqv1⟩ := exq ((w).heap.size)
 obtain ⟨w1, hW1⟩ := exq ((w).alloc (.cells #[.int .i64 ma, .string pa, .slice oa na ca, .string ba] 26))
 have hz1 : (w).heap.size = qv1 := hqv1.symm
 first | rw [← hW1, ← hqv1] | rw [← hW1]
 have hs1 := hsa hW1 hz1
 have bw := bal hW1
 have hb1 := hbt hb0 bw
 have HBv1_1 := hnew hW1 hz1
 clear hb0 bw hW1 hz1
 obtain ⟨qv2, hqv2⟩ := exq (qv1 + 1)
 obtain ⟨w2, hW2⟩ := exq ((w1).alloc (.cells #[.string op, .slice o1 n1 c1, .slice o2 n2 c2, .int .i64 st, .slice o3 k c3, .string d, .int .i64 t] 31))
 have hz2 : (w1).heap.size = qv2 := by rw [hqv2]; exact hs1
 first | rw [← hW2, ← hqv2] | rw [← hW2]
 have hs2 := hsa hW2 hz2
 have bw := bal hW2
 have hb2 := hbt hb1 bw
 have HBv1_2 := hblk HBv1_1 bw
 have HBv2_2 := hnew hW2 hz2
 clear hb1 HBv1_1 bw hW2 hz2
 obtain ⟨qv3, hqv3⟩ := exq (qv2 + 1)
 obtain ⟨w3, hW3⟩ := exq ((w2).alloc (.cells #[.int .i64 0, .slice none 0 0, .string ⟨#[]⟩] 29))
 have hz3 : (w2).heap.size = qv3 := by rw [hqv3]; exact hs2
 first | rw [← hW3, ← hqv3] | rw [← hW3]
 have hs3 := hsa hW3 hz3
 have bw := bal hW3
 have hb3 := hbt hb2 bw
 have HBv1_3 := hblk HBv1_2 bw
 have HBv2_3 := hblk HBv2_2 bw
 have HNv1v3 : Hid (qv1 ≠ qv3) := fun e => by have h1 := (Array.getElem?_eq_some_iff.1 HBv1_2.out).1; omega
 have HNv2v3 : Hid (qv2 ≠ qv3) := fun e => by have h1 := (Array.getElem?_eq_some_iff.1 HBv2_2.out).1; omega
 have HBv3_3 := hnew hW3 hz3
 have HGv3 := hge hz3 hb2
 clear hb2 HBv1_2 HBv2_2 bw hW3 hz3
 clear hs3 hqv3 hs2 hqv2 hs1 hqv1
 have cv2_3 := (k7c HBv2_3).2.2.2.1
 have cv2_4 := (k7c HBv2_3).2.2.2.2.1
 have cv2_5 := (k7c HBv2_3).2.2.2.2.2.1
 go_wp2_with fail
 refine (l9Resp_any st _ d k baseo gs _ (HVo.out _ hb3) (by omega)).mono ?_
 rintro e w4 ⟨vv, rfl, ownCG, bw⟩
 obtain ⟨oCG, pCG, rfl⟩ := slice_of_owns ownCG
 rw [HLo.out] at ownCG ⊢
 have hb4 := hbt hb3 bw
 have HBv1_4 := hblk HBv1_3 bw
 have HBv2_4 := hblk HBv2_3 bw
 have HBv3_4 := hblk HBv3_3 bw
 have HOCG_4 := hwd ownCG hb3.size
 clear ownCG
 clear hb3 HBv1_3 HBv2_3 HBv3_3 bw
 clear cv2_3 cv2_4 cv2_5
 go_upto_region 2 with fail
 obtain ⟨qv4, hqv4⟩ := exq ((w4).heap.size)
 obtain ⟨w5, hW5⟩ := exq ((w4).alloc (.cells #[.int .i64 st, .slice oCG k pCG, .string d] 29))
 have hz5 : (w4).heap.size = qv4 := hqv4.symm
 first | rw [← hW5, ← hqv4] | rw [← hW5]
 have hs5 := hsa hW5 hz5
 have bw := bal hW5
 have hb5 := hbt hb4 bw
 have HOCG_5 := hown HOCG_4 bw
 have HBv1_5 := hblk HBv1_4 bw
 have HBv2_5 := hblk HBv2_4 bw
 have HBv3_5 := hblk HBv3_4 bw
 have HNv1v4 : Hid (qv1 ≠ qv4) := fun e => by have h1 := (Array.getElem?_eq_some_iff.1 HBv1_4.out).1; omega
 have HNv2v4 : Hid (qv2 ≠ qv4) := fun e => by have h1 := (Array.getElem?_eq_some_iff.1 HBv2_4.out).1; omega
 have HNv3v4 : Hid (qv3 ≠ qv4) := fun e => by have h1 := (Array.getElem?_eq_some_iff.1 HBv3_4.out).1; omega
 have HBv4_5 := hnew hW5 hz5
 have HGv4 := hge hz5 hb4
 clear hb4 HOCG_4 HBv1_4 HBv2_4 HBv3_4 bw hW5 hz5
 clear hs5 hqv4
 have cv1_0 := (k4c HBv1_5).1
 have cv1_1 := (k4c HBv1_5).2.1
 have cv1_2 := (k4c HBv1_5).2.2.1
 have cv1_3 := (k4c HBv1_5).2.2.2
 have cv2_4 := (k7c HBv2_5).2.2.2.2.1
 go_wp2_with fail
 refine (specSame_any ma pa _ ba na basea fsa _ k baseo gs _ (HVa.out _ hb5) (by omega) (HVo.out _ hb5) (by omega)).mono ?_
 rintro e w6 ⟨sm, rfl, hsm, bw⟩
 have hb6 := hbt hb5 bw
 have HOCG_6 := hown HOCG_5 bw
 have HBv1_6 := hblk HBv1_5 bw
 have HBv2_6 := hblk HBv2_5 bw
 have HBv3_6 := hblk HBv3_5 bw
 have HBv4_6 := hblk HBv4_5 bw
 clear hb5 HOCG_5 HBv1_5 HBv2_5 HBv3_5 HBv4_5 bw
 clear cv1_0 cv1_1 cv1_2 cv1_3 cv2_4
 cases sm with
 | false =>
  have HNsm : Hid (¬ (SameP fsa gs)) := fun h => nomatch hsm.2 h
  clear hsm
  have cv4_0 := (k3c HBv4_6).1
  have Acv4_0 : ∀ o, ((w6).alloc o).cell? ⟨qv4, 0, none⟩ = some (.int .i64 st) := fun o => (cell_of (blk_below HBv4_6.out ((Below.refl _ _).alloc (Nat.le_refl _) o)) 0).trans rfl
  have Afcv4_0 : ∀ o, ((w6).alloc o).frozen? ⟨qv4, 0, none⟩ = false := fun o => frozen_of (blk_below HBv4_6.out ((Below.refl _ _).alloc (Nat.le_refl _) o)) 0
  have cv4_1 := (k3c HBv4_6).2.1
  have Acv4_1 : ∀ o, ((w6).alloc o).cell? ⟨qv4, 1, none⟩ = some (.slice oCG k pCG) := fun o => (cell_of (blk_below HBv4_6.out ((Below.refl _ _).alloc (Nat.le_refl _) o)) 1).trans rfl
  have Afcv4_1 : ∀ o, ((w6).alloc o).frozen? ⟨qv4, 1, none⟩ = false := fun o => frozen_of (blk_below HBv4_6.out ((Below.refl _ _).alloc (Nat.le_refl _) o)) 1
  have cv4_2 := (k3c HBv4_6).2.2
  have Acv4_2 : ∀ o, ((w6).alloc o).cell? ⟨qv4, 2, none⟩ = some (.string d) := fun o => (cell_of (blk_below HBv4_6.out ((Below.refl _ _).alloc (Nat.le_refl _) o)) 2).trans rfl
  have Afcv4_2 : ∀ o, ((w6).alloc o).frozen? ⟨qv4, 2, none⟩ = false := fun o => frozen_of (blk_below HBv4_6.out ((Below.refl _ _).alloc (Nat.le_refl _) o)) 2
  go_upto_region 5 with fail
  obtain ⟨qv5, hqv5⟩ := exq ((w6).heap.size)
  obtain ⟨w7, hW7⟩ := exq ((w6).alloc (.cells #[.int .i64 st, .slice oCG k pCG, .string d] 29))
  have hz7 : (w6).heap.size = qv5 := hqv5.symm
  first | rw [← hW7, ← hqv5] | rw [← hW7]
  have hs7 := hsa hW7 hz7
  have bw := bal hW7
  have hb7 := hbt hb6 bw
  have HM7 := hsz bw
  have HOCG_7 := hown HOCG_6 bw
  have HBv1_7 := hblk HBv1_6 bw
  have HBv2_7 := hblk HBv2_6 bw
  have HBv3_7 := hblk HBv3_6 bw
  have HBv4_7 := hblk HBv4_6 bw
  have HNv1v5 : Hid (qv1 ≠ qv5) := fun e => by have h1 := (Array.getElem?_eq_some_iff.1 HBv1_6.out).1; omega
  have HNv2v5 : Hid (qv2 ≠ qv5) := fun e => by have h1 := (Array.getElem?_eq_some_iff.1 HBv2_6.out).1; omega
  have HNv3v5 : Hid (qv3 ≠ qv5) := fun e => by have h1 := (Array.getElem?_eq_some_iff.1 HBv3_6.out).1; omega
  have HNv4v5 : Hid (qv4 ≠ qv5) := fun e => by have h1 := (Array.getElem?_eq_some_iff.1 HBv4_6.out).1; omega
  have HBv5_7 := hnew hW7 hz7
  have HGv5 := hge hz7 hb6
  clear hb6 HOCG_6 HBv1_6 HBv2_6 HBv3_6 HBv4_6 bw hW7 hz7
  clear hs7 hqv5
  clear cv4_0 Acv4_0 Afcv4_0 cv4_1 Acv4_1 Afcv4_1 cv4_2 Acv4_2 Afcv4_2
  go_upto_region 5 with fail
  refine wp_region_held_drew (S := fun W => W.heap[qv4]? = some (.cells #[.int .i64 st, .slice oCG k pCG, .string d] 29) ∧ W.heap[qv2]? = some (.cells #[.string op, .slice o1 n1 c1, .slice o2 n2 c2, .int .i64 st, .slice o3 k c3, .string d, .int .i64 t] 31)) (by kernel_rfl) ⟨HBv4_7.out, HBv2_7.out⟩ (fun _ => ?_)
  obtain ⟨w8, hX⟩ := exq w7.drew
  have bw := bdr hX
  rw [← hX]
  have hb8 := hbt hb7 bw
  have HM8 := hsz bw
  have HOCG_8 := hown HOCG_7 bw
  have HBv1_8 := hblk HBv1_7 bw
  have HBv2_8 := hblk HBv2_7 bw
  have HBv3_8 := hblk HBv3_7 bw
  have HBv4_8 := hblk HBv4_7 bw
  have HBv5_8 := hblk HBv5_7 bw
  have hS8 := And.intro HBv4_8.out HBv2_8.out
  clear hb7 HOCG_7 HBv1_7 HBv2_7 HBv3_7 HBv4_7 HBv5_7 bw hX
  refine tkP 0 (.pointer (some ⟨qv4, 1, none⟩)) 21 rfl rfl hS8 ?_
  go_frame
  refine tkL 1 (.slice oCG k pCG) 22 rfl rfl (Or.inl ⟨by rfl, by intro W hW; obtain ⟨hhv4, hhv2⟩ := hW; have y1 := (cell_of hhv4 1).trans rfl; go_simp⟩) hS8 ?_
  go_frame
  refine tkP 2 (.pointer (some ⟨qv2, 3, none⟩)) 23 rfl rfl hS8 ?_
  go_frame
  refine tkP 3 (.pointer (some ⟨qv2, 4, none⟩)) 24 rfl rfl hS8 ?_
  go_frame
  refine tkL 4 (.slice o3 k c3) 25 rfl rfl (Or.inl ⟨by rfl, by intro W hW; obtain ⟨hhv4, hhv2⟩ := hW; have y4 := (cell_of hhv2 4).trans rfl; go_simp⟩) hS8 ?_
  go_frame
  refine tkP 5 (.pointer (some ⟨qv2, 6, none⟩)) 26 rfl rfl hS8 ?_
  go_frame
  refine tkL 6 (.int .i64 t) 27 rfl rfl (Or.inl ⟨by rfl, by intro W hW; obtain ⟨hhv4, hhv2⟩ := hW; have y6 := (cell_of hhv2 6).trans rfl; go_simp⟩) hS8 ?_
  go_frame
  refine tkP 7 (.int .i64 now) 28 rfl rfl hS8 ?_
  go_frame
  refine rd1 8 rfl (fun K hK => ?_)
  go_simp
  refine (specAgeAt_any _ k baseo gs t now _ (HVo.out _ hb8) (by omega) (by have := HGo.out ageName; unfold maxLen; omega) HTN.out.1 HTN.out.2).mono ?_
  rintro e w9 ⟨rfl, bw⟩
  rw [HAG.out]
  have hb9 := hbt hb8 bw
  have HM9 := hsz bw
  have HOCG_9 := hown HOCG_8 bw
  have HBv1_9 := hblk HBv1_8 bw
  have HBv2_9 := hblk HBv2_8 bw
  have HBv3_9 := hblk HBv3_8 bw
  have HBv4_9 := hblk HBv4_8 bw
  have HBv5_9 := hblk HBv5_8 bw
  clear hb8 HOCG_8 HBv1_8 HBv2_8 HBv3_8 HBv4_8 HBv5_8 bw
  have hS9 := And.intro HBv4_9.out HBv2_9.out
  refine hK.out _ _ hS9 (fun _ => ?_)
  clear hK K hS8
  refine rd1 9 rfl (fun K hK => ?_)
  go_simp
  refine (specNumText_int ag _ hab0 hab1).mono ?_
  rintro e w10 ⟨rfl, bw⟩
  rw [HTX.out]
  have hb10 := hbt hb9 bw
  have HM10 := hsz bw
  have HOCG_10 := hown HOCG_9 bw
  have HBv1_10 := hblk HBv1_9 bw
  have HBv2_10 := hblk HBv2_9 bw
  have HBv3_10 := hblk HBv3_9 bw
  have HBv4_10 := hblk HBv4_9 bw
  have HBv5_10 := hblk HBv5_9 bw
  clear hb9 HOCG_9 HBv1_9 HBv2_9 HBv3_9 HBv4_9 HBv5_9 bw
  have hS10 := And.intro HBv4_10.out HBv2_10.out
  refine hK.out _ _ hS10 (fun _ => ?_)
  clear hK K hS9
  refine rd1 10 rfl (fun K hK => ?_)
  go_simp
  refine (specPut_any _ k _ gs ageName tx _ (FieldsV.of_owns HOCG_10.out) (by omega)).mono ?_
  rintro e w11 ⟨vv, rfl, ownPG, bw⟩
  obtain ⟨pg, hpg⟩ := exq (putF gs ageName tx)
  have HPG : Hid (putF gs ageName tx = pg) := hpg.symm
  rw [← hpg] at ownPG
  have HPL : Hid (pg.length ≤ k + 1) := by show _ ≤ _; rw [hpg]; have := putF_le gs ageName tx; have h2 := HLo.out; rw [h2] at this; exact this
  have bpl : pg.length ≤ 1048577 := by have := HPL.out; omega
  have HPW : Hid (WalkF pg.length pg) := by show WalkF _ _; rw [hpg]; exact walk_put HLo.out HSo.out (by decide) (by have := HTZ.out; unfold maxLen; omega)
  clear hpg
  obtain ⟨oPG, pPG, rfl⟩ := slice_of_owns ownPG
  have hb11 := hbt hb10 bw
  have HM11 := hsz bw
  have HOCG_11 := hown HOCG_10 bw
  have HBv1_11 := hblk HBv1_10 bw
  have HBv2_11 := hblk HBv2_10 bw
  have HBv3_11 := hblk HBv3_10 bw
  have HBv4_11 := hblk HBv4_10 bw
  have HBv5_11 := hblk HBv5_10 bw
  have HOPG_11 := hwd ownPG hb10.size
  have LOPG := hlo ownPG
  have HIPG := hhi ownPG
  clear ownPG
  clear hb10 HOCG_10 HBv1_10 HBv2_10 HBv3_10 HBv4_10 HBv5_10 bw
  have hS11 := And.intro HBv4_11.out HBv2_11.out
  refine hK.out _ _ hS11 (fun _ => ?_)
  clear hK K hS10
  refine tkP 11 (.pointer (some ⟨qv5, 1, none⟩)) 32 rfl rfl hS11 ?_
  go_frame
  refine rd1 12 rfl (fun K hK => ?_)
  have ce1 := (k3c HBv5_11).2.1
  have fe1 := hfz HBv5_11 1
  obtain ⟨w12, hY⟩ := exq ((w11.setCell ⟨qv5, 1, none⟩ (.slice oPG pg.length pPG)))
  have HY := hsy hY
  have hb12 : Below w.heap.size w (w12) := by rw [hY]; exact (hb11.setCell (p := ⟨qv5, 1, none⟩) HGv5.out _)
  have HM12 : Hid ((w11).heap.size ≤ w12.heap.size) := by show _ ≤ _; rw [hY]; simp
  have HOCG_12 : Hid ((w12).ownsRow w.heap.size 74 2 (.slice oCG k pCG) k (flatF gs)) := by show World.ownsRow _ _ _ _ _ _ _; rw [hY]; exact owns_same HOCG_11.out (fun g hg => by have hne := own_ne HOCG_11.out HBv5_11.out (by decide) g hg; rw [heap_setCell_other _ _ g _ hne])
  have HOPG_12 : Hid ((w12).ownsRow w.heap.size 74 2 (.slice oPG pg.length pPG) pg.length (flatF pg)) := by show World.ownsRow _ _ _ _ _ _ _; rw [hY]; exact owns_same HOPG_11.out (fun g hg => by have hne := own_ne HOPG_11.out HBv5_11.out (by decide) g hg; rw [heap_setCell_other _ _ g _ hne])
  have HBv1_12 : Hid ((w12).heap[qv1]? = some (.cells #[.int .i64 ma, .string pa, .slice oa na ca, .string ba] 26)) := by show _ = _; rw [hY, heap_setCell_other _ _ _ _ HNv1v5.out]; exact HBv1_11.out
  have HBv2_12 : Hid ((w12).heap[qv2]? = some (.cells #[.string op, .slice o1 n1 c1, .slice o2 n2 c2, .int .i64 st, .slice o3 k c3, .string d, .int .i64 t] 31)) := by show _ = _; rw [hY, heap_setCell_other _ _ _ _ HNv2v5.out]; exact HBv2_11.out
  have HBv3_12 : Hid ((w12).heap[qv3]? = some (.cells #[.int .i64 0, .slice none 0 0, .string ⟨#[]⟩] 29)) := by show _ = _; rw [hY, heap_setCell_other _ _ _ _ HNv3v5.out]; exact HBv3_11.out
  have HBv4_12 : Hid ((w12).heap[qv4]? = some (.cells #[.int .i64 st, .slice oCG k pCG, .string d] 29)) := by show _ = _; rw [hY, heap_setCell_other _ _ _ _ HNv4v5.out]; exact HBv4_11.out
  have HBv5_12 : Hid ((w12).heap[qv5]? = some (.cells #[.int .i64 st, .slice oPG pg.length pPG, .string d] 29)) := by show _ = _; rw [hY]; have h := (heap_set _ qv5 1 _ _ _ (.slice oPG pg.length pPG) HBv5_11.out); simpa using h
  clear hY hb11 HOCG_11 HOPG_11 HBv1_11 HBv2_11 HBv3_11 HBv4_11 HBv5_11
  go_simp
  rw [HY.out]
  have hS12 := And.intro HBv4_12.out HBv2_12.out
  refine hK.out _ _ hS12 (fun _ => ?_)
  clear hK K HY hS11 ce1 fe1
  clear hS12
  refine wpAnyH_done (by kernel_rfl) ?_ _
  have cv5_0 := (k3c HBv5_12).1
  have cv5_1 := (k3c HBv5_12).2.1
  have cv5_2 := (k3c HBv5_12).2.2
  go_wp2_with fail
  refine (specRespOk_any st _ d pg.length _ pg _ (FieldsV.of_owns HOPG_12.out) (by omega) HPW.out HDM.out).mono ?_
  rintro e w13 ⟨ro, rfl, hro, bw⟩
  have hb13 := hbt hb12 bw
  have HM13 := hsz bw
  have HOCG_13 := hown HOCG_12 bw
  have HOPG_13 := hown HOPG_12 bw
  have HBv1_13 := hblk HBv1_12 bw
  have HBv2_13 := hblk HBv2_12 bw
  have HBv3_13 := hblk HBv3_12 bw
  have HBv4_13 := hblk HBv4_12 bw
  have HBv5_13 := hblk HBv5_12 bw
  clear hb12 HOCG_12 HOPG_12 HBv1_12 HBv2_12 HBv3_12 HBv4_12 HBv5_12 bw
  clear cv5_0 cv5_1 cv5_2
  cases ro with
  | false =>
   have HNro : Hid (¬ (RespP st pg d)) := fun h => nomatch hro.2 h
   clear hro
   have cv3_0 := (k3c HBv3_13).1
   have fcv3_0 := hfz HBv3_13 0
   have cv3_1 := (k3c HBv3_13).2.1
   have fcv3_1 := hfz HBv3_13 1
   have cv3_2 := (k3c HBv3_13).2.2
   have fcv3_2 := hfz HBv3_13 2
   have cv4_0 := (k3c HBv4_13).1
   have cv4_1 := (k3c HBv4_13).2.1
   have cv4_2 := (k3c HBv4_13).2.2
   go_wp2_with fail
   obtain ⟨w14, hW14⟩ := exq ((w13).setCell ⟨qv3, 0, none⟩ (.int .i64 st))
   rw [← hW14]
   have hb14 : Below w.heap.size w (w14) := by rw [hW14]; exact (hb13.setCell (p := ⟨qv3, 0, none⟩) HGv3.out _)
   have HM14 : Hid ((w13).heap.size ≤ w14.heap.size) := by show _ ≤ _; rw [hW14]; simp
   have HOCG_14 := hsetR hW14 (own_ne HOCG_13.out HBv3_13.out (by decide)) HOCG_13
   have HOPG_14 := hsetR hW14 (own_ne HOPG_13.out HBv3_13.out (by decide)) HOPG_13
   have HBv1_14 := hset hW14 HNv1v3.out HBv1_13
   have HBv2_14 := hset hW14 HNv2v3.out HBv2_13
   have HBv4_14 := hset hW14 HNv3v4.out.symm HBv4_13
   have HBv5_14 := hset hW14 HNv3v5.out.symm HBv5_13
   have HBv3_14 : Hid ((w14).heap[qv3]? = some (.cells #[.int .i64 st, .slice none 0 0, .string ⟨#[]⟩] 29)) := by show _ = _; rw [hW14]; have h := heap_set _ _ 0 _ _ _ (.int .i64 st) HBv3_13.out; simpa using h
   clear hb13 HOCG_13 HOPG_13 HBv1_13 HBv2_13 HBv3_13 HBv4_13 HBv5_13 hW14
   obtain ⟨w15, hW15⟩ := exq ((w14).setCell ⟨qv3, 1, none⟩ (.slice oCG k pCG))
   rw [← hW15]
   have hb15 : Below w.heap.size w (w15) := by rw [hW15]; exact (hb14.setCell (p := ⟨qv3, 1, none⟩) HGv3.out _)
   have HM15 : Hid ((w14).heap.size ≤ w15.heap.size) := by show _ ≤ _; rw [hW15]; simp
   have HOCG_15 := hsetR hW15 (own_ne HOCG_14.out HBv3_14.out (by decide)) HOCG_14
   have HOPG_15 := hsetR hW15 (own_ne HOPG_14.out HBv3_14.out (by decide)) HOPG_14
   have HBv1_15 := hset hW15 HNv1v3.out HBv1_14
   have HBv2_15 := hset hW15 HNv2v3.out HBv2_14
   have HBv4_15 := hset hW15 HNv3v4.out.symm HBv4_14
   have HBv5_15 := hset hW15 HNv3v5.out.symm HBv5_14
   have HBv3_15 : Hid ((w15).heap[qv3]? = some (.cells #[.int .i64 st, .slice oCG k pCG, .string ⟨#[]⟩] 29)) := by show _ = _; rw [hW15]; have h := heap_set _ _ 1 _ _ _ (.slice oCG k pCG) HBv3_14.out; simpa using h
   clear hb14 HOCG_14 HOPG_14 HBv1_14 HBv2_14 HBv3_14 HBv4_14 HBv5_14 hW15
   obtain ⟨w16, hW16⟩ := exq ((w15).setCell ⟨qv3, 2, none⟩ (.string d))
   rw [← hW16]
   have hb16 : Below w.heap.size w (w16) := by rw [hW16]; exact (hb15.setCell (p := ⟨qv3, 2, none⟩) HGv3.out _)
   have HM16 : Hid ((w15).heap.size ≤ w16.heap.size) := by show _ ≤ _; rw [hW16]; simp
   have HOCG_16 := hsetR hW16 (own_ne HOCG_15.out HBv3_15.out (by decide)) HOCG_15
   have HOPG_16 := hsetR hW16 (own_ne HOPG_15.out HBv3_15.out (by decide)) HOPG_15
   have HBv1_16 := hset hW16 HNv1v3.out HBv1_15
   have HBv2_16 := hset hW16 HNv2v3.out HBv2_15
   have HBv4_16 := hset hW16 HNv3v4.out.symm HBv4_15
   have HBv5_16 := hset hW16 HNv3v5.out.symm HBv5_15
   have HBv3_16 : Hid ((w16).heap[qv3]? = some (.cells #[.int .i64 st, .slice oCG k pCG, .string d] 29)) := by show _ = _; rw [hW16]; have h := heap_set _ _ 2 _ _ _ (.string d) HBv3_15.out; simpa using h
   clear hb15 HOCG_15 HOPG_15 HBv1_15 HBv2_15 HBv3_15 HBv4_15 HBv5_15 hW16
   have kv3_0 := (k3c HBv3_16).1
   have kv3_1 := (k3c HBv3_16).2.1
   have kv3_2 := (k3c HBv3_16).2.2
   refine bodyPost_ret (v := .agg #[.int .i64 st, .slice oCG k pCG, .string d]) (by simp [results, Tryz.results10, go_sem, kv3_0, kv3_1, kv3_2]) rfl ?_
   unfold ansF
   rw [ansS_no HNsm.out, ansB_no HNsm.out, ansG_no HNsm.out, HAT.out]
   rw [merge_not (by rw [HPG.out]; exact HNro.out)]
   exact ⟨_, rfl, by rw [HLo.out]; exact HOCG_16.out, hb16⟩
  | true =>
   have HYro : Hid (RespP st pg d) := hro.1 rfl
   clear hro
   have cv3_0 := (k3c HBv3_13).1
   have fcv3_0 := hfz HBv3_13 0
   have cv3_1 := (k3c HBv3_13).2.1
   have fcv3_1 := hfz HBv3_13 1
   have cv3_2 := (k3c HBv3_13).2.2
   have fcv3_2 := hfz HBv3_13 2
   have cv5_0 := (k3c HBv5_13).1
   have cv5_1 := (k3c HBv5_13).2.1
   have cv5_2 := (k3c HBv5_13).2.2
   go_wp2_with fail
   obtain ⟨w14, hW14⟩ := exq ((w13).setCell ⟨qv3, 0, none⟩ (.int .i64 st))
   rw [← hW14]
   have hb14 : Below w.heap.size w (w14) := by rw [hW14]; exact (hb13.setCell (p := ⟨qv3, 0, none⟩) HGv3.out _)
   have HM14 : Hid ((w13).heap.size ≤ w14.heap.size) := by show _ ≤ _; rw [hW14]; simp
   have HOCG_14 := hsetR hW14 (own_ne HOCG_13.out HBv3_13.out (by decide)) HOCG_13
   have HOPG_14 := hsetR hW14 (own_ne HOPG_13.out HBv3_13.out (by decide)) HOPG_13
   have HBv1_14 := hset hW14 HNv1v3.out HBv1_13
   have HBv2_14 := hset hW14 HNv2v3.out HBv2_13
   have HBv4_14 := hset hW14 HNv3v4.out.symm HBv4_13
   have HBv5_14 := hset hW14 HNv3v5.out.symm HBv5_13
   have HBv3_14 : Hid ((w14).heap[qv3]? = some (.cells #[.int .i64 st, .slice none 0 0, .string ⟨#[]⟩] 29)) := by show _ = _; rw [hW14]; have h := heap_set _ _ 0 _ _ _ (.int .i64 st) HBv3_13.out; simpa using h
   clear hb13 HOCG_13 HOPG_13 HBv1_13 HBv2_13 HBv3_13 HBv4_13 HBv5_13 hW14
   obtain ⟨w15, hW15⟩ := exq ((w14).setCell ⟨qv3, 1, none⟩ (.slice oPG pg.length pPG))
   rw [← hW15]
   have hb15 : Below w.heap.size w (w15) := by rw [hW15]; exact (hb14.setCell (p := ⟨qv3, 1, none⟩) HGv3.out _)
   have HM15 : Hid ((w14).heap.size ≤ w15.heap.size) := by show _ ≤ _; rw [hW15]; simp
   have HOCG_15 := hsetR hW15 (own_ne HOCG_14.out HBv3_14.out (by decide)) HOCG_14
   have HOPG_15 := hsetR hW15 (own_ne HOPG_14.out HBv3_14.out (by decide)) HOPG_14
   have HBv1_15 := hset hW15 HNv1v3.out HBv1_14
   have HBv2_15 := hset hW15 HNv2v3.out HBv2_14
   have HBv4_15 := hset hW15 HNv3v4.out.symm HBv4_14
   have HBv5_15 := hset hW15 HNv3v5.out.symm HBv5_14
   have HBv3_15 : Hid ((w15).heap[qv3]? = some (.cells #[.int .i64 st, .slice oPG pg.length pPG, .string ⟨#[]⟩] 29)) := by show _ = _; rw [hW15]; have h := heap_set _ _ 1 _ _ _ (.slice oPG pg.length pPG) HBv3_14.out; simpa using h
   clear hb14 HOCG_14 HOPG_14 HBv1_14 HBv2_14 HBv3_14 HBv4_14 HBv5_14 hW15
   obtain ⟨w16, hW16⟩ := exq ((w15).setCell ⟨qv3, 2, none⟩ (.string d))
   rw [← hW16]
   have hb16 : Below w.heap.size w (w16) := by rw [hW16]; exact (hb15.setCell (p := ⟨qv3, 2, none⟩) HGv3.out _)
   have HM16 : Hid ((w15).heap.size ≤ w16.heap.size) := by show _ ≤ _; rw [hW16]; simp
   have HOCG_16 := hsetR hW16 (own_ne HOCG_15.out HBv3_15.out (by decide)) HOCG_15
   have HOPG_16 := hsetR hW16 (own_ne HOPG_15.out HBv3_15.out (by decide)) HOPG_15
   have HBv1_16 := hset hW16 HNv1v3.out HBv1_15
   have HBv2_16 := hset hW16 HNv2v3.out HBv2_15
   have HBv4_16 := hset hW16 HNv3v4.out.symm HBv4_15
   have HBv5_16 := hset hW16 HNv3v5.out.symm HBv5_15
   have HBv3_16 : Hid ((w16).heap[qv3]? = some (.cells #[.int .i64 st, .slice oPG pg.length pPG, .string d] 29)) := by show _ = _; rw [hW16]; have h := heap_set _ _ 2 _ _ _ (.string d) HBv3_15.out; simpa using h
   clear hb15 HOCG_15 HOPG_15 HBv1_15 HBv2_15 HBv3_15 HBv4_15 HBv5_15 hW16
   have kv3_0 := (k3c HBv3_16).1
   have kv3_1 := (k3c HBv3_16).2.1
   have kv3_2 := (k3c HBv3_16).2.2
   refine bodyPost_ret (v := .agg #[.int .i64 st, .slice oPG pg.length pPG, .string d]) (by simp [results, Tryz.results10, go_sem, kv3_0, kv3_1, kv3_2]) rfl ?_
   unfold ansF
   rw [ansS_no HNsm.out, ansB_no HNsm.out, ansG_no HNsm.out, HAT.out]
   rw [merge_put (by rw [HPG.out]; exact HYro.out), HPG.out]
   exact ⟨_, rfl, HOPG_16.out, hb16⟩
 | true =>
  have HYsm : Hid (SameP fsa gs) := hsm.1 rfl
  clear hsm
  have cv2_3 := (k7c HBv2_6).2.2.2.1
  have cv2_4 := (k7c HBv2_6).2.2.2.2.1
  have cv2_5 := (k7c HBv2_6).2.2.2.2.2.1
  go_wp2_with fail
  refine (specShort_any st _ d k baseo gs _ (HVo.out _ hb6) (by omega)).mono ?_
  rintro e w7 ⟨vv, rfl, ownSG, bw⟩
  rw [HSG.out] at ownSG
  obtain ⟨oSG, pSG, rfl⟩ := slice_of_owns ownSG
  have hb7 := hbt hb6 bw
  have HM7 := hsz bw
  have HOCG_7 := hown HOCG_6 bw
  have HBv1_7 := hblk HBv1_6 bw
  have HBv2_7 := hblk HBv2_6 bw
  have HBv3_7 := hblk HBv3_6 bw
  have HBv4_7 := hblk HBv4_6 bw
  have HOSG_7 := hwd ownSG hb6.size
  clear ownSG
  clear hb6 HOCG_6 HBv1_6 HBv2_6 HBv3_6 HBv4_6 bw
  clear cv2_3 cv2_4 cv2_5
  have cv4_0 := (k3c HBv4_7).1
  have fcv4_0 := hfz HBv4_7 0
  have cv4_1 := (k3c HBv4_7).2.1
  have fcv4_1 := hfz HBv4_7 1
  have cv4_2 := (k3c HBv4_7).2.2
  have fcv4_2 := hfz HBv4_7 2
  go_upto_region 4 with fail
  obtain ⟨w8, hW8⟩ := exq ((w7).setCell ⟨qv4, 0, none⟩ (.int .i64 304))
  rw [← hW8]
  have hb8 : Below w.heap.size w (w8) := by rw [hW8]; exact (hb7.setCell (p := ⟨qv4, 0, none⟩) HGv4.out _)
  have HM8 : Hid ((w7).heap.size ≤ w8.heap.size) := by show _ ≤ _; rw [hW8]; simp
  have HOCG_8 := hsetR hW8 (own_ne HOCG_7.out HBv4_7.out (by decide)) HOCG_7
  have HOSG_8 := hsetR hW8 (own_ne HOSG_7.out HBv4_7.out (by decide)) HOSG_7
  have HBv1_8 := hset hW8 HNv1v4.out HBv1_7
  have HBv2_8 := hset hW8 HNv2v4.out HBv2_7
  have HBv3_8 := hset hW8 HNv3v4.out HBv3_7
  have HBv4_8 : Hid ((w8).heap[qv4]? = some (.cells #[.int .i64 304, .slice oCG k pCG, .string d] 29)) := by show _ = _; rw [hW8]; have h := heap_set _ _ 0 _ _ _ (.int .i64 304) HBv4_7.out; simpa using h
  clear hb7 HOCG_7 HOSG_7 HBv1_7 HBv2_7 HBv3_7 HBv4_7 hW8
  obtain ⟨w9, hW9⟩ := exq ((w8).setCell ⟨qv4, 1, none⟩ (.slice oSG sg.length pSG))
  rw [← hW9]
  have hb9 : Below w.heap.size w (w9) := by rw [hW9]; exact (hb8.setCell (p := ⟨qv4, 1, none⟩) HGv4.out _)
  have HM9 : Hid ((w8).heap.size ≤ w9.heap.size) := by show _ ≤ _; rw [hW9]; simp
  have HOCG_9 := hsetR hW9 (own_ne HOCG_8.out HBv4_8.out (by decide)) HOCG_8
  have HOSG_9 := hsetR hW9 (own_ne HOSG_8.out HBv4_8.out (by decide)) HOSG_8
  have HBv1_9 := hset hW9 HNv1v4.out HBv1_8
  have HBv2_9 := hset hW9 HNv2v4.out HBv2_8
  have HBv3_9 := hset hW9 HNv3v4.out HBv3_8
  have HBv4_9 : Hid ((w9).heap[qv4]? = some (.cells #[.int .i64 304, .slice oSG sg.length pSG, .string d] 29)) := by show _ = _; rw [hW9]; have h := heap_set _ _ 1 _ _ _ (.slice oSG sg.length pSG) HBv4_8.out; simpa using h
  clear hb8 HOCG_8 HOSG_8 HBv1_8 HBv2_8 HBv3_8 HBv4_8 hW9
  obtain ⟨w10, hW10⟩ := exq ((w9).setCell ⟨qv4, 2, none⟩ (.string ⟨#[]⟩))
  rw [← hW10]
  have hb10 : Below w.heap.size w (w10) := by rw [hW10]; exact (hb9.setCell (p := ⟨qv4, 2, none⟩) HGv4.out _)
  have HM10 : Hid ((w9).heap.size ≤ w10.heap.size) := by show _ ≤ _; rw [hW10]; simp
  have HOCG_10 := hsetR hW10 (own_ne HOCG_9.out HBv4_9.out (by decide)) HOCG_9
  have HOSG_10 := hsetR hW10 (own_ne HOSG_9.out HBv4_9.out (by decide)) HOSG_9
  have HBv1_10 := hset hW10 HNv1v4.out HBv1_9
  have HBv2_10 := hset hW10 HNv2v4.out HBv2_9
  have HBv3_10 := hset hW10 HNv3v4.out HBv3_9
  have HBv4_10 : Hid ((w10).heap[qv4]? = some (.cells #[.int .i64 304, .slice oSG sg.length pSG, .string ⟨#[]⟩] 29)) := by show _ = _; rw [hW10]; have h := heap_set _ _ 2 _ _ _ (.string ⟨#[]⟩) HBv4_9.out; simpa using h
  clear hb9 HOCG_9 HOSG_9 HBv1_9 HBv2_9 HBv3_9 HBv4_9 hW10
  clear cv4_0 fcv4_0 cv4_1 fcv4_1 cv4_2 fcv4_2
  have cv4_0 := (k3c HBv4_10).1
  have Acv4_0 : ∀ o, ((w10).alloc o).cell? ⟨qv4, 0, none⟩ = some (.int .i64 304) := fun o => (cell_of (blk_below HBv4_10.out ((Below.refl _ _).alloc (Nat.le_refl _) o)) 0).trans rfl
  have Afcv4_0 : ∀ o, ((w10).alloc o).frozen? ⟨qv4, 0, none⟩ = false := fun o => frozen_of (blk_below HBv4_10.out ((Below.refl _ _).alloc (Nat.le_refl _) o)) 0
  have cv4_1 := (k3c HBv4_10).2.1
  have Acv4_1 : ∀ o, ((w10).alloc o).cell? ⟨qv4, 1, none⟩ = some (.slice oSG sg.length pSG) := fun o => (cell_of (blk_below HBv4_10.out ((Below.refl _ _).alloc (Nat.le_refl _) o)) 1).trans rfl
  have Afcv4_1 : ∀ o, ((w10).alloc o).frozen? ⟨qv4, 1, none⟩ = false := fun o => frozen_of (blk_below HBv4_10.out ((Below.refl _ _).alloc (Nat.le_refl _) o)) 1
  have cv4_2 := (k3c HBv4_10).2.2
  have Acv4_2 : ∀ o, ((w10).alloc o).cell? ⟨qv4, 2, none⟩ = some (.string ⟨#[]⟩) := fun o => (cell_of (blk_below HBv4_10.out ((Below.refl _ _).alloc (Nat.le_refl _) o)) 2).trans rfl
  have Afcv4_2 : ∀ o, ((w10).alloc o).frozen? ⟨qv4, 2, none⟩ = false := fun o => frozen_of (blk_below HBv4_10.out ((Below.refl _ _).alloc (Nat.le_refl _) o)) 2
  go_upto_region 5 with fail
  obtain ⟨qv5, hqv5⟩ := exq ((w10).heap.size)
  obtain ⟨w11, hW11⟩ := exq ((w10).alloc (.cells #[.int .i64 304, .slice oSG sg.length pSG, .string ⟨#[]⟩] 29))
  have hz11 : (w10).heap.size = qv5 := hqv5.symm
  first | rw [← hW11, ← hqv5] | rw [← hW11]
  have hs11 := hsa hW11 hz11
  have bw := bal hW11
  have hb11 := hbt hb10 bw
  have HM11 := hsz bw
  have HOCG_11 := hown HOCG_10 bw
  have HOSG_11 := hown HOSG_10 bw
  have HBv1_11 := hblk HBv1_10 bw
  have HBv2_11 := hblk HBv2_10 bw
  have HBv3_11 := hblk HBv3_10 bw
  have HBv4_11 := hblk HBv4_10 bw
  have HNv1v5 : Hid (qv1 ≠ qv5) := fun e => by have h1 := (Array.getElem?_eq_some_iff.1 HBv1_10.out).1; omega
  have HNv2v5 : Hid (qv2 ≠ qv5) := fun e => by have h1 := (Array.getElem?_eq_some_iff.1 HBv2_10.out).1; omega
  have HNv3v5 : Hid (qv3 ≠ qv5) := fun e => by have h1 := (Array.getElem?_eq_some_iff.1 HBv3_10.out).1; omega
  have HNv4v5 : Hid (qv4 ≠ qv5) := fun e => by have h1 := (Array.getElem?_eq_some_iff.1 HBv4_10.out).1; omega
  have HBv5_11 := hnew hW11 hz11
  have HGv5 := hge hz11 hb10
  clear hb10 HOCG_10 HOSG_10 HBv1_10 HBv2_10 HBv3_10 HBv4_10 bw hW11 hz11
  clear hs11 hqv5
  clear cv4_0 Acv4_0 Afcv4_0 cv4_1 Acv4_1 Afcv4_1 cv4_2 Acv4_2 Afcv4_2
  go_upto_region 5 with fail
  refine wp_region_held_drew (S := fun W => W.heap[qv4]? = some (.cells #[.int .i64 304, .slice oSG sg.length pSG, .string ⟨#[]⟩] 29) ∧ W.heap[qv2]? = some (.cells #[.string op, .slice o1 n1 c1, .slice o2 n2 c2, .int .i64 st, .slice o3 k c3, .string d, .int .i64 t] 31)) (by kernel_rfl) ⟨HBv4_11.out, HBv2_11.out⟩ (fun _ => ?_)
  obtain ⟨w12, hX⟩ := exq w11.drew
  have bw := bdr hX
  rw [← hX]
  have hb12 := hbt hb11 bw
  have HM12 := hsz bw
  have HOCG_12 := hown HOCG_11 bw
  have HOSG_12 := hown HOSG_11 bw
  have HBv1_12 := hblk HBv1_11 bw
  have HBv2_12 := hblk HBv2_11 bw
  have HBv3_12 := hblk HBv3_11 bw
  have HBv4_12 := hblk HBv4_11 bw
  have HBv5_12 := hblk HBv5_11 bw
  have hS12 := And.intro HBv4_12.out HBv2_12.out
  clear hb11 HOCG_11 HOSG_11 HBv1_11 HBv2_11 HBv3_11 HBv4_11 HBv5_11 bw hX
  refine tkP 0 (.pointer (some ⟨qv4, 1, none⟩)) 21 rfl rfl hS12 ?_
  go_frame
  refine tkL 1 (.slice oSG sg.length pSG) 22 rfl rfl (Or.inl ⟨by rfl, by intro W hW; obtain ⟨hhv4, hhv2⟩ := hW; have y1 := (cell_of hhv4 1).trans rfl; go_simp⟩) hS12 ?_
  go_frame
  refine tkP 2 (.pointer (some ⟨qv2, 3, none⟩)) 23 rfl rfl hS12 ?_
  go_frame
  refine tkP 3 (.pointer (some ⟨qv2, 4, none⟩)) 24 rfl rfl hS12 ?_
  go_frame
  refine tkL 4 (.slice o3 k c3) 25 rfl rfl (Or.inl ⟨by rfl, by intro W hW; obtain ⟨hhv4, hhv2⟩ := hW; have y4 := (cell_of hhv2 4).trans rfl; go_simp⟩) hS12 ?_
  go_frame
  refine tkP 5 (.pointer (some ⟨qv2, 6, none⟩)) 26 rfl rfl hS12 ?_
  go_frame
  refine tkL 6 (.int .i64 t) 27 rfl rfl (Or.inl ⟨by rfl, by intro W hW; obtain ⟨hhv4, hhv2⟩ := hW; have y6 := (cell_of hhv2 6).trans rfl; go_simp⟩) hS12 ?_
  go_frame
  refine tkP 7 (.int .i64 now) 28 rfl rfl hS12 ?_
  go_frame
  refine rd1 8 rfl (fun K hK => ?_)
  go_simp
  refine (specAgeAt_any _ k baseo gs t now _ (HVo.out _ hb12) (by omega) (by have := HGo.out ageName; unfold maxLen; omega) HTN.out.1 HTN.out.2).mono ?_
  rintro e w13 ⟨rfl, bw⟩
  rw [HAG.out]
  have hb13 := hbt hb12 bw
  have HM13 := hsz bw
  have HOCG_13 := hown HOCG_12 bw
  have HOSG_13 := hown HOSG_12 bw
  have HBv1_13 := hblk HBv1_12 bw
  have HBv2_13 := hblk HBv2_12 bw
  have HBv3_13 := hblk HBv3_12 bw
  have HBv4_13 := hblk HBv4_12 bw
  have HBv5_13 := hblk HBv5_12 bw
  clear hb12 HOCG_12 HOSG_12 HBv1_12 HBv2_12 HBv3_12 HBv4_12 HBv5_12 bw
  have hS13 := And.intro HBv4_13.out HBv2_13.out
  refine hK.out _ _ hS13 (fun _ => ?_)
  clear hK K hS12
  refine rd1 9 rfl (fun K hK => ?_)
  go_simp
  refine (specNumText_int ag _ hab0 hab1).mono ?_
  rintro e w14 ⟨rfl, bw⟩
  rw [HTX.out]
  have hb14 := hbt hb13 bw
  have HM14 := hsz bw
  have HOCG_14 := hown HOCG_13 bw
  have HOSG_14 := hown HOSG_13 bw
  have HBv1_14 := hblk HBv1_13 bw
  have HBv2_14 := hblk HBv2_13 bw
  have HBv3_14 := hblk HBv3_13 bw
  have HBv4_14 := hblk HBv4_13 bw
  have HBv5_14 := hblk HBv5_13 bw
  clear hb13 HOCG_13 HOSG_13 HBv1_13 HBv2_13 HBv3_13 HBv4_13 HBv5_13 bw
  have hS14 := And.intro HBv4_14.out HBv2_14.out
  refine hK.out _ _ hS14 (fun _ => ?_)
  clear hK K hS13
  refine rd1 10 rfl (fun K hK => ?_)
  go_simp
  refine (specPut_any _ sg.length _ sg ageName tx _ (FieldsV.of_owns HOSG_14.out) (by omega)).mono ?_
  rintro e w15 ⟨vv, rfl, ownPG, bw⟩
  obtain ⟨pg, hpg⟩ := exq (putF sg ageName tx)
  have HPG : Hid (putF sg ageName tx = pg) := hpg.symm
  rw [← hpg] at ownPG
  have HPL : Hid (pg.length ≤ sg.length + 1) := by show _ ≤ _; rw [hpg]; have := putF_le sg ageName tx; exact this
  have bpl : pg.length ≤ 1048577 := by have := HPL.out; omega
  have HPW : Hid (WalkF pg.length pg) := by show WalkF _ _; rw [hpg]; exact walk_put rfl HSW.out (by decide) (by have := HTZ.out; unfold maxLen; omega)
  clear hpg
  obtain ⟨oPG, pPG, rfl⟩ := slice_of_owns ownPG
  have hb15 := hbt hb14 bw
  have HM15 := hsz bw
  have HOCG_15 := hown HOCG_14 bw
  have HOSG_15 := hown HOSG_14 bw
  have HBv1_15 := hblk HBv1_14 bw
  have HBv2_15 := hblk HBv2_14 bw
  have HBv3_15 := hblk HBv3_14 bw
  have HBv4_15 := hblk HBv4_14 bw
  have HBv5_15 := hblk HBv5_14 bw
  have HOPG_15 := hwd ownPG hb14.size
  have LOPG := hlo ownPG
  have HIPG := hhi ownPG
  clear ownPG
  clear hb14 HOCG_14 HOSG_14 HBv1_14 HBv2_14 HBv3_14 HBv4_14 HBv5_14 bw
  have hS15 := And.intro HBv4_15.out HBv2_15.out
  refine hK.out _ _ hS15 (fun _ => ?_)
  clear hK K hS14
  refine tkP 11 (.pointer (some ⟨qv5, 1, none⟩)) 32 rfl rfl hS15 ?_
  go_frame
  refine rd1 12 rfl (fun K hK => ?_)
  have ce1 := (k3c HBv5_15).2.1
  have fe1 := hfz HBv5_15 1
  obtain ⟨w16, hY⟩ := exq ((w15.setCell ⟨qv5, 1, none⟩ (.slice oPG pg.length pPG)))
  have HY := hsy hY
  have hb16 : Below w.heap.size w (w16) := by rw [hY]; exact (hb15.setCell (p := ⟨qv5, 1, none⟩) HGv5.out _)
  have HM16 : Hid ((w15).heap.size ≤ w16.heap.size) := by show _ ≤ _; rw [hY]; simp
  have HOCG_16 : Hid ((w16).ownsRow w.heap.size 74 2 (.slice oCG k pCG) k (flatF gs)) := by show World.ownsRow _ _ _ _ _ _ _; rw [hY]; exact owns_same HOCG_15.out (fun g hg => by have hne := own_ne HOCG_15.out HBv5_15.out (by decide) g hg; rw [heap_setCell_other _ _ g _ hne])
  have HOSG_16 : Hid ((w16).ownsRow w.heap.size 74 2 (.slice oSG sg.length pSG) sg.length (flatF sg)) := by show World.ownsRow _ _ _ _ _ _ _; rw [hY]; exact owns_same HOSG_15.out (fun g hg => by have hne := own_ne HOSG_15.out HBv5_15.out (by decide) g hg; rw [heap_setCell_other _ _ g _ hne])
  have HOPG_16 : Hid ((w16).ownsRow w.heap.size 74 2 (.slice oPG pg.length pPG) pg.length (flatF pg)) := by show World.ownsRow _ _ _ _ _ _ _; rw [hY]; exact owns_same HOPG_15.out (fun g hg => by have hne := own_ne HOPG_15.out HBv5_15.out (by decide) g hg; rw [heap_setCell_other _ _ g _ hne])
  have HBv1_16 : Hid ((w16).heap[qv1]? = some (.cells #[.int .i64 ma, .string pa, .slice oa na ca, .string ba] 26)) := by show _ = _; rw [hY, heap_setCell_other _ _ _ _ HNv1v5.out]; exact HBv1_15.out
  have HBv2_16 : Hid ((w16).heap[qv2]? = some (.cells #[.string op, .slice o1 n1 c1, .slice o2 n2 c2, .int .i64 st, .slice o3 k c3, .string d, .int .i64 t] 31)) := by show _ = _; rw [hY, heap_setCell_other _ _ _ _ HNv2v5.out]; exact HBv2_15.out
  have HBv3_16 : Hid ((w16).heap[qv3]? = some (.cells #[.int .i64 0, .slice none 0 0, .string ⟨#[]⟩] 29)) := by show _ = _; rw [hY, heap_setCell_other _ _ _ _ HNv3v5.out]; exact HBv3_15.out
  have HBv4_16 : Hid ((w16).heap[qv4]? = some (.cells #[.int .i64 304, .slice oSG sg.length pSG, .string ⟨#[]⟩] 29)) := by show _ = _; rw [hY, heap_setCell_other _ _ _ _ HNv4v5.out]; exact HBv4_15.out
  have HBv5_16 : Hid ((w16).heap[qv5]? = some (.cells #[.int .i64 304, .slice oPG pg.length pPG, .string ⟨#[]⟩] 29)) := by show _ = _; rw [hY]; have h := (heap_set _ qv5 1 _ _ _ (.slice oPG pg.length pPG) HBv5_15.out); simpa using h
  clear hY hb15 HOCG_15 HOSG_15 HOPG_15 HBv1_15 HBv2_15 HBv3_15 HBv4_15 HBv5_15
  go_simp
  rw [HY.out]
  have hS16 := And.intro HBv4_16.out HBv2_16.out
  refine hK.out _ _ hS16 (fun _ => ?_)
  clear hK K HY hS15 ce1 fe1
  clear hS16
  refine wpAnyH_done (by kernel_rfl) ?_ _
  have cv5_0 := (k3c HBv5_16).1
  have cv5_1 := (k3c HBv5_16).2.1
  have cv5_2 := (k3c HBv5_16).2.2
  go_wp2_with fail
  refine (specRespOk_any 304 _ ⟨#[]⟩ pg.length _ pg _ (FieldsV.of_owns HOPG_16.out) (by omega) HPW.out (by decide)).mono ?_
  rintro e w17 ⟨ro, rfl, hro, bw⟩
  have hb17 := hbt hb16 bw
  have HOCG_17 := hown HOCG_16 bw
  have HOSG_17 := hown HOSG_16 bw
  have HOPG_17 := hown HOPG_16 bw
  have HBv1_17 := hblk HBv1_16 bw
  have HBv2_17 := hblk HBv2_16 bw
  have HBv3_17 := hblk HBv3_16 bw
  have HBv4_17 := hblk HBv4_16 bw
  have HBv5_17 := hblk HBv5_16 bw
  clear hb16 HOCG_16 HOSG_16 HOPG_16 HBv1_16 HBv2_16 HBv3_16 HBv4_16 HBv5_16 bw
  clear cv5_0 cv5_1 cv5_2
  cases ro with
  | false =>
   have HNro : Hid (¬ (RespP 304 pg ⟨#[]⟩)) := fun h => nomatch hro.2 h
   clear hro
   have cv3_0 := (k3c HBv3_17).1
   have fcv3_0 := hfz HBv3_17 0
   have cv3_1 := (k3c HBv3_17).2.1
   have fcv3_1 := hfz HBv3_17 1
   have cv3_2 := (k3c HBv3_17).2.2
   have fcv3_2 := hfz HBv3_17 2
   have cv4_0 := (k3c HBv4_17).1
   have cv4_1 := (k3c HBv4_17).2.1
   have cv4_2 := (k3c HBv4_17).2.2
   go_wp2_with fail
   obtain ⟨w18, hW18⟩ := exq ((w17).setCell ⟨qv3, 0, none⟩ (.int .i64 304))
   rw [← hW18]
   have hb18 : Below w.heap.size w (w18) := by rw [hW18]; exact (hb17.setCell (p := ⟨qv3, 0, none⟩) HGv3.out _)
   have HM18 : Hid ((w17).heap.size ≤ w18.heap.size) := by show _ ≤ _; rw [hW18]; simp
   have HOCG_18 := hsetR hW18 (own_ne HOCG_17.out HBv3_17.out (by decide)) HOCG_17
   have HOSG_18 := hsetR hW18 (own_ne HOSG_17.out HBv3_17.out (by decide)) HOSG_17
   have HOPG_18 := hsetR hW18 (own_ne HOPG_17.out HBv3_17.out (by decide)) HOPG_17
   have HBv1_18 := hset hW18 HNv1v3.out HBv1_17
   have HBv2_18 := hset hW18 HNv2v3.out HBv2_17
   have HBv4_18 := hset hW18 HNv3v4.out.symm HBv4_17
   have HBv5_18 := hset hW18 HNv3v5.out.symm HBv5_17
   have HBv3_18 : Hid ((w18).heap[qv3]? = some (.cells #[.int .i64 304, .slice none 0 0, .string ⟨#[]⟩] 29)) := by show _ = _; rw [hW18]; have h := heap_set _ _ 0 _ _ _ (.int .i64 304) HBv3_17.out; simpa using h
   clear hb17 HOCG_17 HOSG_17 HOPG_17 HBv1_17 HBv2_17 HBv3_17 HBv4_17 HBv5_17 hW18
   obtain ⟨w19, hW19⟩ := exq ((w18).setCell ⟨qv3, 1, none⟩ (.slice oSG sg.length pSG))
   rw [← hW19]
   have hb19 : Below w.heap.size w (w19) := by rw [hW19]; exact (hb18.setCell (p := ⟨qv3, 1, none⟩) HGv3.out _)
   have HM19 : Hid ((w18).heap.size ≤ w19.heap.size) := by show _ ≤ _; rw [hW19]; simp
   have HOCG_19 := hsetR hW19 (own_ne HOCG_18.out HBv3_18.out (by decide)) HOCG_18
   have HOSG_19 := hsetR hW19 (own_ne HOSG_18.out HBv3_18.out (by decide)) HOSG_18
   have HOPG_19 := hsetR hW19 (own_ne HOPG_18.out HBv3_18.out (by decide)) HOPG_18
   have HBv1_19 := hset hW19 HNv1v3.out HBv1_18
   have HBv2_19 := hset hW19 HNv2v3.out HBv2_18
   have HBv4_19 := hset hW19 HNv3v4.out.symm HBv4_18
   have HBv5_19 := hset hW19 HNv3v5.out.symm HBv5_18
   have HBv3_19 : Hid ((w19).heap[qv3]? = some (.cells #[.int .i64 304, .slice oSG sg.length pSG, .string ⟨#[]⟩] 29)) := by show _ = _; rw [hW19]; have h := heap_set _ _ 1 _ _ _ (.slice oSG sg.length pSG) HBv3_18.out; simpa using h
   clear hb18 HOCG_18 HOSG_18 HOPG_18 HBv1_18 HBv2_18 HBv3_18 HBv4_18 HBv5_18 hW19
   obtain ⟨w20, hW20⟩ := exq ((w19).setCell ⟨qv3, 2, none⟩ (.string ⟨#[]⟩))
   rw [← hW20]
   have hb20 : Below w.heap.size w (w20) := by rw [hW20]; exact (hb19.setCell (p := ⟨qv3, 2, none⟩) HGv3.out _)
   have HM20 : Hid ((w19).heap.size ≤ w20.heap.size) := by show _ ≤ _; rw [hW20]; simp
   have HOCG_20 := hsetR hW20 (own_ne HOCG_19.out HBv3_19.out (by decide)) HOCG_19
   have HOSG_20 := hsetR hW20 (own_ne HOSG_19.out HBv3_19.out (by decide)) HOSG_19
   have HOPG_20 := hsetR hW20 (own_ne HOPG_19.out HBv3_19.out (by decide)) HOPG_19
   have HBv1_20 := hset hW20 HNv1v3.out HBv1_19
   have HBv2_20 := hset hW20 HNv2v3.out HBv2_19
   have HBv4_20 := hset hW20 HNv3v4.out.symm HBv4_19
   have HBv5_20 := hset hW20 HNv3v5.out.symm HBv5_19
   have HBv3_20 : Hid ((w20).heap[qv3]? = some (.cells #[.int .i64 304, .slice oSG sg.length pSG, .string ⟨#[]⟩] 29)) := by show _ = _; rw [hW20]; have h := heap_set _ _ 2 _ _ _ (.string ⟨#[]⟩) HBv3_19.out; simpa using h
   clear hb19 HOCG_19 HOSG_19 HOPG_19 HBv1_19 HBv2_19 HBv3_19 HBv4_19 HBv5_19 hW20
   have kv3_0 := (k3c HBv3_20).1
   have kv3_1 := (k3c HBv3_20).2.1
   have kv3_2 := (k3c HBv3_20).2.2
   refine bodyPost_ret (v := .agg #[.int .i64 304, .slice oSG sg.length pSG, .string ⟨#[]⟩]) (by simp [results, Tryz.results10, go_sem, kv3_0, kv3_1, kv3_2]) rfl ?_
   unfold ansF
   rw [ansS_yes HYsm.out, ansB_yes HYsm.out, ansG_yes HYsm.out, HAT.out, HSG.out]
   rw [merge_not (by rw [HPG.out]; exact HNro.out)]
   exact ⟨_, rfl, HOSG_20.out, hb20⟩
  | true =>
   have HYro : Hid (RespP 304 pg ⟨#[]⟩) := hro.1 rfl
   clear hro
   have cv3_0 := (k3c HBv3_17).1
   have fcv3_0 := hfz HBv3_17 0
   have cv3_1 := (k3c HBv3_17).2.1
   have fcv3_1 := hfz HBv3_17 1
   have cv3_2 := (k3c HBv3_17).2.2
   have fcv3_2 := hfz HBv3_17 2
   have cv5_0 := (k3c HBv5_17).1
   have cv5_1 := (k3c HBv5_17).2.1
   have cv5_2 := (k3c HBv5_17).2.2
   go_wp2_with fail
   obtain ⟨w18, hW18⟩ := exq ((w17).setCell ⟨qv3, 0, none⟩ (.int .i64 304))
   rw [← hW18]
   have hb18 : Below w.heap.size w (w18) := by rw [hW18]; exact (hb17.setCell (p := ⟨qv3, 0, none⟩) HGv3.out _)
   have HM18 : Hid ((w17).heap.size ≤ w18.heap.size) := by show _ ≤ _; rw [hW18]; simp
   have HOCG_18 := hsetR hW18 (own_ne HOCG_17.out HBv3_17.out (by decide)) HOCG_17
   have HOSG_18 := hsetR hW18 (own_ne HOSG_17.out HBv3_17.out (by decide)) HOSG_17
   have HOPG_18 := hsetR hW18 (own_ne HOPG_17.out HBv3_17.out (by decide)) HOPG_17
   have HBv1_18 := hset hW18 HNv1v3.out HBv1_17
   have HBv2_18 := hset hW18 HNv2v3.out HBv2_17
   have HBv4_18 := hset hW18 HNv3v4.out.symm HBv4_17
   have HBv5_18 := hset hW18 HNv3v5.out.symm HBv5_17
   have HBv3_18 : Hid ((w18).heap[qv3]? = some (.cells #[.int .i64 304, .slice none 0 0, .string ⟨#[]⟩] 29)) := by show _ = _; rw [hW18]; have h := heap_set _ _ 0 _ _ _ (.int .i64 304) HBv3_17.out; simpa using h
   clear hb17 HOCG_17 HOSG_17 HOPG_17 HBv1_17 HBv2_17 HBv3_17 HBv4_17 HBv5_17 hW18
   obtain ⟨w19, hW19⟩ := exq ((w18).setCell ⟨qv3, 1, none⟩ (.slice oPG pg.length pPG))
   rw [← hW19]
   have hb19 : Below w.heap.size w (w19) := by rw [hW19]; exact (hb18.setCell (p := ⟨qv3, 1, none⟩) HGv3.out _)
   have HM19 : Hid ((w18).heap.size ≤ w19.heap.size) := by show _ ≤ _; rw [hW19]; simp
   have HOCG_19 := hsetR hW19 (own_ne HOCG_18.out HBv3_18.out (by decide)) HOCG_18
   have HOSG_19 := hsetR hW19 (own_ne HOSG_18.out HBv3_18.out (by decide)) HOSG_18
   have HOPG_19 := hsetR hW19 (own_ne HOPG_18.out HBv3_18.out (by decide)) HOPG_18
   have HBv1_19 := hset hW19 HNv1v3.out HBv1_18
   have HBv2_19 := hset hW19 HNv2v3.out HBv2_18
   have HBv4_19 := hset hW19 HNv3v4.out.symm HBv4_18
   have HBv5_19 := hset hW19 HNv3v5.out.symm HBv5_18
   have HBv3_19 : Hid ((w19).heap[qv3]? = some (.cells #[.int .i64 304, .slice oPG pg.length pPG, .string ⟨#[]⟩] 29)) := by show _ = _; rw [hW19]; have h := heap_set _ _ 1 _ _ _ (.slice oPG pg.length pPG) HBv3_18.out; simpa using h
   clear hb18 HOCG_18 HOSG_18 HOPG_18 HBv1_18 HBv2_18 HBv3_18 HBv4_18 HBv5_18 hW19
   obtain ⟨w20, hW20⟩ := exq ((w19).setCell ⟨qv3, 2, none⟩ (.string ⟨#[]⟩))
   rw [← hW20]
   have hb20 : Below w.heap.size w (w20) := by rw [hW20]; exact (hb19.setCell (p := ⟨qv3, 2, none⟩) HGv3.out _)
   have HM20 : Hid ((w19).heap.size ≤ w20.heap.size) := by show _ ≤ _; rw [hW20]; simp
   have HOCG_20 := hsetR hW20 (own_ne HOCG_19.out HBv3_19.out (by decide)) HOCG_19
   have HOSG_20 := hsetR hW20 (own_ne HOSG_19.out HBv3_19.out (by decide)) HOSG_19
   have HOPG_20 := hsetR hW20 (own_ne HOPG_19.out HBv3_19.out (by decide)) HOPG_19
   have HBv1_20 := hset hW20 HNv1v3.out HBv1_19
   have HBv2_20 := hset hW20 HNv2v3.out HBv2_19
   have HBv4_20 := hset hW20 HNv3v4.out.symm HBv4_19
   have HBv5_20 := hset hW20 HNv3v5.out.symm HBv5_19
   have HBv3_20 : Hid ((w20).heap[qv3]? = some (.cells #[.int .i64 304, .slice oPG pg.length pPG, .string ⟨#[]⟩] 29)) := by show _ = _; rw [hW20]; have h := heap_set _ _ 2 _ _ _ (.string ⟨#[]⟩) HBv3_19.out; simpa using h
   clear hb19 HOCG_19 HOSG_19 HOPG_19 HBv1_19 HBv2_19 HBv3_19 HBv4_19 HBv5_19 hW20
   have kv3_0 := (k3c HBv3_20).1
   have kv3_1 := (k3c HBv3_20).2.1
   have kv3_2 := (k3c HBv3_20).2.2
   refine bodyPost_ret (v := .agg #[.int .i64 304, .slice oPG pg.length pPG, .string ⟨#[]⟩]) (by simp [results, Tryz.results10, go_sem, kv3_0, kv3_1, kv3_2]) rfl ?_
   unfold ansF
   rw [ansS_yes HYsm.out, ansB_yes HYsm.out, ansG_yes HYsm.out, HAT.out, HSG.out]
   rw [merge_put (by rw [HPG.out]; exact HYro.out), HPG.out]
   exact ⟨_, rfl, HOPG_20.out, hb20⟩
end Go.Proofs.YtmcmeeibogkpaaaGreatDoorR
namespace Go.Proofs.YtmcmeeibogkpaaaGreatDoorR
open Go.RowKit
open Go.Lib hiding intOf
theorem two_facts {W : World} {R : Nat} {a b : Value} {t : TypeId} (h : W.heap[R]? = some (.cells #[a, b] t)) : W.cell? ⟨R, 0, none⟩ = some a ∧ W.cell? ⟨R, 1, none⟩ = some b := by
 simp [World.cell?, h]
theorem putTogether_any (v : Value) (n base : Nat) (fs : List (ByteArray × ByteArray)) (u : Value) (k base2 : Nat) (gs : List (ByteArray × ByteArray)) (w : World) (hv : FieldsV w base v n fs) (hu : FieldsV w base2 u k gs) (hnk : n + k ≤ 1999999) (hsz : CopyF fs) (hsz2 : CopyF gs) :
  Calls Tryz.prog 91 #[v, u] w fun e w' => RowF (putAll fs gs) w e w' := by
 obtain ⟨i0, hi, hz0, hz1, hz2⟩ := info_parts info33
 have HLA : Hid (fs.length = n) := hv.len
 have HLB : Hid (gs.length = k) := hu.len
 obtain ⟨oa, cap, rfl, _⟩ := hv.slice
 obtain ⟨ob, cb, rfl, hrow⟩ := hu.slice
 have HROW : Hid (∀ j, j < k → ∃ g, ob = some ⟨g, 0, none⟩ ∧ FieldRow base2 w g k cb gs) := hrow
 have HSZ : Hid (CopyF gs) := hsz2
 clear hu hrow hsz2
 go_enter Tryz.func91, Tryz.ntmps91
 go_wp2_with fail
 refine (copied_any _ n base fs _ hv (by omega) hsz).mono ?_
 rintro e w1 ⟨out, rfl, hown, hb1⟩
 obtain ⟨o1, c1, rfl⟩ := slice_of_owns hown
 have HO1 : Hid (w1.ownsRow w.heap.size 74 2 (.slice o1 fs.length c1) fs.length (flatF fs)) := hown
 have HB1 : Hid (Below w.heap.size w w1) := hb1
 clear hv hsz hown hb1
 go_wp2_with fail
 go_loopw [5, 13] (fun s i wr => ∃ (j : Nat) (o : Option Addr) (c np : Nat) (P : List (ByteArray × ByteArray)), j ≤ k ∧ i = .int .i64 (j : Int) ∧ s = .slice o np c ∧ Hid (P = putAll fs (gs.take j) ∧ P.length = np ∧ np ≤ n + j) ∧ Hid (wr.ownsRow w.heap.size 74 2 (.slice o np c) np (flatF P)) ∧ Hid (Below w.heap.size w wr)) (fun _ i _ => k - (intOf i).toNat)
 case atStart => exact ⟨0, o1, c1, fs.length, fs, Nat.zero_le _, rfl, rfl, ⟨by simp [putAll], rfl, by rw [HLA.out]; omega⟩, HO1, HB1⟩
 case round =>
  obtain ⟨j, o, c, np, P, hj, rfl, rfl, HP, HO, HB⟩ := hrel
  by_cases hlt : j < k
  ·
   have hlt2 : (j : Int) < (k : Int) := by omega
   obtain ⟨g, rfl, row⟩ := HROW.out j hlt
   have hgr : g < w.heap.size := row.lt
   have row1 := row.below HB.out row.lt
   have hc1 := row1.name j hlt
   have hc2 := row1.val j hlt
   obtain ⟨z1, z2⟩ := HSZ.out j (by rw [HLB.out]; exact hlt)
   have HTK : Hid (gs.take (j + 1) = gs.take j ++ [(nameAt gs j, valAt gs j)]) := take_field gs j (by rw [HLB.out]; exact hlt)
   obtain ⟨nm, hnm⟩ := exq (nameAt gs j)
   obtain ⟨vl, hvl⟩ := exq (valAt gs j)
   rw [← hnm] at hc1 z1 HTK
   rw [← hvl] at hc2 z2 HTK
   clear hnm hvl row row1
   go_upto_region 5 with fail
   obtain ⟨q, hq⟩ := exq (wr.heap.size)
   obtain ⟨W2, hW2⟩ := exq (wr.alloc (.cells #[.string nm, .string vl] 74))
   rw [← hW2, ← hq]
   have HQ2 : Hid (W2.heap[q]? = some (.cells #[.string nm, .string vl] 74)) := by show _ = _; rw [hW2, hq]; exact heap_alloc_new wr _
   have HB2 : Hid (Below w.heap.size w W2) := by show Below _ _ _; rw [hW2]; exact HB.out.alloc HB.out.size _
   have HO2 : Hid (W2.ownsRow w.heap.size 74 2 (.slice o np c) np (flatF P)) := by show World.ownsRow _ _ _ _ _ _ _; rw [hW2]; exact HO.out.alloc _
   have HNE : Hid (∀ x, (Value.slice o np c).ownBlock = some x → x ≠ q) := fun x hx => by have := owns_lt HO.out hx; omega
   obtain ⟨hq0, hq1⟩ := two_facts HQ2.out
   have hvp := FieldsV.of_owns HO2.out
   have hnp : np ≤ 1999999 := by have := HP.out.2.2; omega
   clear hW2 hq HO HB hc1 hc2
   go_wp2_with fail
   refine (place_any _ np _ P nm _ hvp (by omega)).mono ?_
   rintro e w3 ⟨rfl, rfl⟩
   clear hvp hq0 hq1
   have hle := atF_le P nm
   have HL2 := HP.out.2.1
   obtain ⟨a, ha⟩ := exq (atF P nm)
   rw [← ha] at hle ⊢
   by_cases hin : a < P.length
   ·
    have HPE : Hid (putF P nm vl = P.set a (nm, vl)) := by show _ = _; rw [putF_eq P nm vl (by rw [← ha]; exact hin), ha]
    have hlt3 : a < np := by omega
    have hne : ((a : Int) == (np : Int)) = false := by rw [beq_eq_false_iff_ne]; omega
    have HL3 : Hid (P.length = np) := HL2
    clear ha hle hin HL2 HNE
    have HO3 := HO2
    have HQ3 := HQ2
    have HB3 := HB2
    clear HO2 HQ2 HB2
    rcases frow_form HO3.out with ⟨_, _, _, _, h0, _⟩ | ⟨g1, cc, he, _, row3⟩
    · exact absurd h0 (by omega)
    cases he
    have HROW3 : Hid (FieldRow w.heap.size w3 g1 np c P) := row3
    have hat : ((a : Nat) : Int) < ((np : Nat) : Int) := by omega
    clear row3 HO3
    obtain ⟨hq0, hq1⟩ := two_facts HQ3.out
    go_wp2_with fail
    refine (newField_any nm vl _ z1 z2).mono ?_
    rintro e w5 ⟨rfl, hb5⟩
    have row5 := HROW3.out.below hb5 HROW3.out.lt
    have hb6 : Below w.heap.size w w5 := HB3.out.trans (hb5.mono HB3.out.size)
    have hset := row5.set a (by omega) nm vl _ rfl (by simp)
    have k0 := row5.name a (by omega)
    have k1 := row5.val a (by omega)
    have hf0 := row5.frozen (a * 2)
    have hf1 := row5.frozen (a * 2 + 1)
    have HSET : Hid (((w5.setCell ⟨g1, a * 2, none⟩ (.string nm)).setCell ⟨g1, a * 2 + 1, none⟩ (.string vl)).ownsRow w.heap.size 74 2 (.slice (some ⟨g1, 0, none⟩) (np) c) (np) (flatF (P.set a (nm, vl)))) := hset.owns
    have HB6 : Hid (Below w.heap.size w ((w5.setCell ⟨g1, a * 2, none⟩ (.string nm)).setCell ⟨g1, a * 2 + 1, none⟩ (.string vl))) := (hb6.setCell (p := ⟨g1, a * 2, none⟩) row5.base _).setCell (p := ⟨g1, a * 2 + 1, none⟩) row5.base _
    have HE : Hid (P.set a (nm, vl) = putAll fs (gs.take (j + 1)) ∧ (P.set a (nm, vl)).length = np ∧ np ≤ n + (j + 1)) := by
     show _ ∧ _ ∧ _
     rw [HTK.out, putAll_snoc, ← HP.out.1]
     exact ⟨HPE.out.symm, by rw [List.length_set]; exact HL3.out, by have := HP.out.2.2; omega⟩
    clear hb5 hb6 row5 hset HROW3 HB3 HQ3 hq0 hq1 HP HTK
    go_wp2_with fail
    go_roundw
    case rel => exact ⟨j + 1, _, _, _, _, by omega, by go_num, rfl, HE, HSET, HB6⟩
    case measure => simp [intOf]; omega
   ·
    have han : a = np := by omega
    have HPE : Hid (putF P nm vl = P ++ [(nm, vl)]) := by show _ = _; unfold putF; rw [if_neg (by rw [← ha]; exact hin)]
    have HL4 : Hid (P.length = np) := HL2
    clear ha hle hin HL2
    subst han
    have h63 : a + 1 ≤ maxLen := by unfold maxLen; omega
    have h47 : (a + 1) * 32 ≤ 140737488355328 := by omega
    have HBS : ∀ o, w.heap.size ≤ (w3.alloc o).heap.size := fun o => by have := HB2.out.size; simp; omega
    go_wp2_with (at_builtin; refine wpList_append_own _ rfl _ _ 75 rfl w.heap.size 74 i0 (.agg #[.string ⟨#[]⟩, .string ⟨#[]⟩]) 2 32 Tryz.underlying75 hi hz0 hz1 hz2 rfl (by decide) _ _ _ rfl (HO2.out.alloc _) ⟨w3.heap.size, 0, none⟩ 1 1 [.string ⟨#[]⟩, .string ⟨#[]⟩] rfl rfl (cell_two_new _ _ _ _) (two_text _ _) h63 h47 (HBS _) ?_)
    intro v4 w4 hown4 hgrow4 _
    have HB3 : Hid (Below w.heap.size w w4) := (HB2.out.alloc HB2.out.size _).grown hgrow4 (HBS _) (fun g hg => owns_ge HO2.out hg)
    have HO3 : Hid (w4.ownsRow w.heap.size 74 2 v4 (a + 1) (flatF (P ++ [((⟨#[]⟩ : ByteArray), (⟨#[]⟩ : ByteArray))]))) := by
     show World.ownsRow _ _ _ _ _ _ _
     rw [flatF_append, flatF_one]
     exact hown4
    have HQ3 : Hid (w4.heap[q]? = some (.cells #[.string nm, .string vl] 74)) := by
     show _ = _
     have hlt := (Array.getElem?_eq_some_iff.1 HQ2.out).1
     rw [hgrow4.block q (by simp; omega) (fun e => HNE.out q e.symm rfl), Below.heap_alloc _ _ _ hlt]
     exact HQ2.out
    obtain ⟨o4, c4, rfl⟩ := slice_of_owns HO3.out
    have HL3 : Hid ((P ++ [((⟨#[]⟩ : ByteArray), (⟨#[]⟩ : ByteArray))]).length = a + 1) := by show _ = _; rw [List.length_append, HL4.out]; rfl
    have HSE : Hid ((P ++ [((⟨#[]⟩ : ByteArray), (⟨#[]⟩ : ByteArray))]).set a (nm, vl) = putF P nm vl) := by
     show _ = _
     rw [HPE.out, List.set_append_right _ _ (by rw [HL4.out]; exact Nat.le_refl _), HL4.out, Nat.sub_self, List.set_cons_zero]
    obtain ⟨P1, hP1⟩ : ∃ x, x = P ++ [((⟨#[]⟩ : ByteArray), (⟨#[]⟩ : ByteArray))] := ⟨_, rfl⟩
    rw [← hP1] at HO3 HL3 HSE
    clear hgrow4 hown4 HBS HO2 HQ2 HB2 HNE hP1 h63 h47
    rcases frow_form HO3.out with ⟨_, _, _, _, h0, _⟩ | ⟨g1, cc, he, _, row3⟩
    · exact absurd h0 (by omega)
    cases he
    have HROW3 : Hid (FieldRow w.heap.size w4 g1 (a + 1) c4 P1) := row3
    have hat : ((a : Nat) : Int) < (((a + 1) : Nat) : Int) := by omega
    clear row3 HO3
    obtain ⟨hq0, hq1⟩ := two_facts HQ3.out
    go_wp2_with fail
    refine (newField_any nm vl _ z1 z2).mono ?_
    rintro e w5 ⟨rfl, hb5⟩
    have row5 := HROW3.out.below hb5 HROW3.out.lt
    have hb6 : Below w.heap.size w w5 := HB3.out.trans (hb5.mono HB3.out.size)
    have hset := row5.set a (by omega) nm vl _ rfl (by simp)
    have k0 := row5.name a (by omega)
    have k1 := row5.val a (by omega)
    have hf0 := row5.frozen (a * 2)
    have hf1 := row5.frozen (a * 2 + 1)
    have HSET : Hid (((w5.setCell ⟨g1, a * 2, none⟩ (.string nm)).setCell ⟨g1, a * 2 + 1, none⟩ (.string vl)).ownsRow w.heap.size 74 2 (.slice (some ⟨g1, 0, none⟩) ((a + 1)) c4) ((a + 1)) (flatF (P1.set a (nm, vl)))) := hset.owns
    have HB6 : Hid (Below w.heap.size w ((w5.setCell ⟨g1, a * 2, none⟩ (.string nm)).setCell ⟨g1, a * 2 + 1, none⟩ (.string vl))) := (hb6.setCell (p := ⟨g1, a * 2, none⟩) row5.base _).setCell (p := ⟨g1, a * 2 + 1, none⟩) row5.base _
    have HE : Hid (P1.set a (nm, vl) = putAll fs (gs.take (j + 1)) ∧ (P1.set a (nm, vl)).length = (a + 1) ∧ (a + 1) ≤ n + (j + 1)) := by
     show _ ∧ _ ∧ _
     rw [HTK.out, putAll_snoc, ← HP.out.1]
     exact ⟨HSE.out, by rw [List.length_set]; exact HL3.out, by have := HP.out.2.2; omega⟩
    clear hb5 hb6 row5 hset HROW3 HB3 HQ3 hq0 hq1 HP HTK
    go_wp2_with fail
    go_roundw
    case rel => exact ⟨j + 1, _, _, _, _, by omega, by go_num, rfl, HE, HSET, HB6⟩
    case measure => simp [intOf]; omega
  ·
   have hjk : j = k := by omega
   have HE : Hid (P = putAll fs gs ∧ P.length = np) := ⟨by rw [HP.out.1, List.take_of_length_le (by rw [HLB.out]; omega)], HP.out.2.1⟩
   clear HP
   go_wp2_with fail
   go_ret
   exact ⟨_, rfl, by rw [← HE.out.1, HE.out.2]; exact HO.out, HB.out⟩
open Classical in
/-- The fields whose name is one of these. -/
noncomputable def namedF (xs : List ByteArray) (gs : List (ByteArray × ByteArray)) : List (ByteArray × ByteArray) := gs.filter fun f => decide (f.1 ∈ xs)
open Classical in
theorem namedF_snoc (xs : List ByteArray) (gs : List (ByteArray × ByteArray)) (f : ByteArray × ByteArray) : namedF xs (gs ++ [f]) = if f.1 ∈ xs then namedF xs gs ++ [f] else namedF xs gs := by
 unfold namedF
 rw [List.filter_append]
 by_cases h : f.1 ∈ xs
 · rw [if_pos h]; simp [h]
 · rw [if_neg h]; simp [h]
theorem onlyNamed_any (v : Value) (n base : Nat) (gs : List (ByteArray × ByteArray)) (oa : Option Addr) (m cm : Nat) (xs : List ByteArray) (w : World) (hv : FieldsV w base v n gs) (hn : n ≤ 1999999) (hsz : CopyF gs) (hx : TextsA w oa m xs) (hm : m ≤ 2000000) :
  Calls Tryz.prog 89 #[v, .slice oa m cm] w fun e w' => RowF (namedF xs gs) w e w' := by
 classical
 obtain ⟨i0, hi, hz0, hz1, hz2⟩ := info_parts info33
 have HLB : Hid (gs.length = n) := hv.len
 obtain ⟨ob, cb, rfl, hrow⟩ := hv.slice
 have HROW : Hid (∀ j, j < n → ∃ g, ob = some ⟨g, 0, none⟩ ∧ FieldRow base w g n cb gs) := hrow
 have HSZ : Hid (CopyF gs) := hsz
 have HX : Hid (∀ W, Below w.heap.size w W → TextsA W oa m xs) := fun W h => hx.below h
 clear hv hrow hsz hx
 go_enter Tryz.func89, Tryz.ntmps89
 go_wp2_with fail
 go_loopw [5, 10] (fun s i wr => ∃ (j : Nat) (o : Option Addr) (c np : Nat) (P : List (ByteArray × ByteArray)), j ≤ n ∧ i = .int .i64 (j : Int) ∧ s = .slice o np c ∧ Hid (P = namedF xs (gs.take j) ∧ P.length = np ∧ np ≤ j) ∧ Hid (wr.ownsRow w.heap.size 74 2 (.slice o np c) np (flatF P)) ∧ Hid (Below w.heap.size w wr)) (fun _ i _ => n - (intOf i).toNat)
 case atStart => exact ⟨0, none, 0, 0, [], Nat.zero_le _, rfl, rfl, ⟨by simp [namedF], rfl, Nat.le_refl _⟩, ⟨rfl, .inl ⟨rfl, rfl⟩⟩, Below.refl _ _⟩
 case round =>
  obtain ⟨j, o, c, np, P, hj, rfl, rfl, HP, HO, HB⟩ := hrel
  by_cases hlt : j < n
  ·
   have hlt2 : (j : Int) < (n : Int) := by omega
   obtain ⟨g, rfl, row⟩ := HROW.out j hlt
   have hgr : g < w.heap.size := row.lt
   have row1 := row.below HB.out row.lt
   have hc1 := row1.name j hlt
   have hc2 := row1.val j hlt
   obtain ⟨z1, z2⟩ := HSZ.out j (by rw [HLB.out]; exact hlt)
   have HTK : Hid (gs.take (j + 1) = gs.take j ++ [(nameAt gs j, valAt gs j)]) := take_field gs j (by rw [HLB.out]; exact hlt)
   obtain ⟨nm, hnm⟩ := exq (nameAt gs j)
   obtain ⟨vl, hvl⟩ := exq (valAt gs j)
   rw [← hnm] at hc1 z1 HTK
   rw [← hvl] at hc2 z2 HTK
   clear hnm hvl row row1
   go_upto_region 5 with fail
   obtain ⟨q, hq⟩ := exq (wr.heap.size)
   obtain ⟨W2, hW2⟩ := exq (wr.alloc (.cells #[.string nm, .string vl] 74))
   rw [← hW2, ← hq]
   have HQ2 : Hid (W2.heap[q]? = some (.cells #[.string nm, .string vl] 74)) := by show _ = _; rw [hW2, hq]; exact heap_alloc_new wr _
   have HB2 : Hid (Below w.heap.size w W2) := by show Below _ _ _; rw [hW2]; exact HB.out.alloc HB.out.size _
   have HO2 : Hid (W2.ownsRow w.heap.size 74 2 (.slice o np c) np (flatF P)) := by show World.ownsRow _ _ _ _ _ _ _; rw [hW2]; exact HO.out.alloc _
   obtain ⟨hq0, hq1⟩ := two_facts HQ2.out
   have hx2 := HX.out _ HB2.out
   clear hW2 hq HO HB hc1 hc2
   go_wp2_with fail
   refine (contains_any oa m cm xs nm _ hx2 hm).mono ?_
   rintro e w3 ⟨rfl, rfl⟩
   clear hx2
   by_cases hin : nm ∈ xs
   ·
    rw [decide_eq_true hin]
    have HE : Hid (P ++ [(nm, vl)] = namedF xs (gs.take (j + 1)) ∧ (P ++ [(nm, vl)]).length = np + 1 ∧ np + 1 ≤ j + 1) := by
     show _ ∧ _ ∧ _
     rw [HTK.out, namedF_snoc, if_pos (by exact hin), ← HP.out.1]
     exact ⟨rfl, by rw [List.length_append, HP.out.2.1]; rfl, by have := HP.out.2.2; omega⟩
    have hnp : np ≤ j := HP.out.2.2
    clear HP HTK hin
    go_wp2_with fail
    refine (newField_any nm vl _ z1 z2).mono ?_
    rintro e w5 ⟨rfl, hb5⟩
    have HB5 : Hid (Below w.heap.size w w5) := HB2.out.trans (hb5.mono HB2.out.size)
    have HO5 := hown HO2 hb5
    have h63 : np + 1 ≤ maxLen := by unfold maxLen; omega
    have h47 : (np + 1) * 32 ≤ 140737488355328 := by omega
    have HBS : ∀ o, w.heap.size ≤ (w5.alloc o).heap.size := fun o => by have := HB5.out.size; simp; omega
    clear hb5 HO2 HB2 HQ2 hq0 hq1
    go_wp2_with (at_builtin; refine wpList_append_own _ rfl _ _ 24 rfl w.heap.size 74 i0 (.agg #[.string ⟨#[]⟩, .string ⟨#[]⟩]) 2 32 Tryz.underlying24 hi hz0 hz1 hz2 rfl (by decide) _ _ _ rfl (HO5.out.alloc _) ⟨w5.heap.size, 0, none⟩ 1 1 [.string nm, .string vl] rfl rfl (cell_two_new _ _ _ _) (two_text _ _) h63 h47 (HBS _) ?_)
    intro v6 w6 hown6 hgrow6 _
    have HB6 : Hid (Below w.heap.size w w6) := (HB5.out.alloc HB5.out.size _).grown hgrow6 (HBS _) (fun g hg => owns_ge HO5.out hg)
    have HO6 : Hid (w6.ownsRow w.heap.size 74 2 v6 (np + 1) (flatF (P ++ [(nm, vl)]))) := by
     show World.ownsRow _ _ _ _ _ _ _
     rw [flatF_append, flatF_one]
     exact hown6
    obtain ⟨o6, c6, rfl⟩ := slice_of_owns HO6.out
    clear hown6 hgrow6 HBS HO5 HB5 h63 h47
    go_wp2_with fail
    go_roundw
    case rel => exact ⟨j + 1, _, _, _, _, by omega, by go_num, rfl, HE, HO6, HB6⟩
    case measure => simp [intOf]; omega
   ·
    rw [decide_eq_false hin]
    have HE : Hid (P = namedF xs (gs.take (j + 1)) ∧ P.length = np ∧ np ≤ j + 1) := by
     show _ ∧ _ ∧ _
     rw [HTK.out, namedF_snoc, if_neg (by exact hin), ← HP.out.1]
     exact ⟨rfl, HP.out.2.1, by have := HP.out.2.2; omega⟩
    clear HP HTK hin hq0 hq1
    go_wp2_with fail
    go_roundw
    case rel => exact ⟨j + 1, _, _, _, _, by omega, by go_num, rfl, HE, HO2, HB2⟩
    case measure => simp [intOf]; omega
  ·
   have hjk : j = n := by omega
   have HE : Hid (P = namedF xs gs ∧ P.length = np) := ⟨by rw [HP.out.1, List.take_of_length_le (by rw [HLB.out]; omega)], HP.out.2.1⟩
   clear HP
   go_wp2_with fail
   go_ret
   exact ⟨_, rfl, by rw [← HE.out.1, HE.out.2]; exact HO.out, HB.out⟩
end Go.Proofs.YtmcmeeibogkpaaaGreatDoorR
namespace Go.Proofs.YtmcmeeibogkpaaaGreatDoorR
open Go.RowKit
open Go.Lib hiding intOf
theorem implSame_any (m : Int) (p : ByteArray) (v : Value) (b : ByteArray) (n base : Nat) (fs : List (ByteArray × ByteArray)) (u : Value) (k base2 : Nat) (gs : List (ByteArray × ByteArray)) (w : World) (hv : FieldsV w base v n fs) (hn : n ≤ 1073741824) (hu : FieldsV w base2 u k gs) (hk : k ≤ 1073741824) (hcp : CopyF fs) (hcg : CopyF gs) :
  Calls Tryz.prog 20 #[.agg #[.int .i64 m, .string p, v, .string b], u] w fun e w' => BoolIs (SameP fs gs) w e w' := by
 obtain ⟨oa, cap, rfl, _⟩ := hv.slice
 obtain ⟨W0, hW0⟩ := exq (w.alloc (.cells #[.int .i64 m, .string p, .slice oa n cap, .string b] 26))
 have HW0 : Hid (w.alloc (.cells #[.int .i64 m, .string p, .slice oa n cap, .string b] 26) = W0) := hW0.symm
 have b0 : Below w.heap.size w W0 := by rw [hW0]; exact (Below.refl _ w).alloc (Nat.le_refl _) _
 have hv0 := hv.below b0
 have HU : Hid (∀ W, Below w.heap.size w W → FieldsV W base2 u k gs) := fun W h => hu.below h
 obtain ⟨⟨_, _, c2, _⟩, _⟩ := four_facts (show W0.heap[w.heap.size]? = some (.cells #[.int .i64 m, .string p, .slice oa n cap, .string b] 26) by rw [hW0]; exact heap_alloc_new w _)
 have HB : Hid (Below w.heap.size w W0) := b0
 have HCF : Hid (CopyF fs) := hcp
 have HCG : Hid (CopyF gs) := hcg
 obtain ⟨s, hs⟩ := exq (getV fs inmName)
 obtain ⟨t, ht⟩ := exq (getV gs tagName)
 obtain ⟨f1, hf1⟩ := exq (getB fs inmName)
 obtain ⟨f2, hf2⟩ := exq (getB gs tagName)
 have HQ : Hid (SameP fs gs ↔ f1 = true ∧ f2 = true ∧ s = t) := by show _ ↔ _; rw [hs, ht, hf1, hf2]; rfl
 have HE1 : Hid (getV fs inmName = s) := hs.symm
 have HE2 : Hid (getV gs tagName = t) := ht.symm
 have HE3 : Hid (getB fs inmName = f1) := hf1.symm
 have HE4 : Hid (getB gs tagName = f2) := hf2.symm
 obtain ⟨r, hr⟩ := exq (w.heap.size)
 have HR : Hid (w.heap.size = r) := hr.symm
 rw [← hr] at c2
 clear hW0 b0 hv hu hs ht hf1 hf2 hcp hcg
 go_enter Tryz.func20, Tryz.ntmps20
 go_upto_region 1 with fail
 rw [HW0.out, ← hr]
 clear hr HW0
 go_wp2_with fail
 refine (implGet_any _ n base fs inmName _ hv0 hn HCF.out).mono ?_
 rintro e w1 ⟨rfl, b1⟩
 rw [HE1.out, HE3.out]
 have HB1 : Hid (Below w.heap.size w w1) := HB.out.trans (b1.mono HB.out.size)
 clear hv0 c2 b1 HB
 go_wp2_with fail
 refine (implGet_any u k base2 gs tagName _ (HU.out _ HB1.out) hk HCG.out).mono ?_
 rintro e w2 ⟨rfl, b2⟩
 rw [HE2.out, HE4.out]
 have HB2 : Hid (Below w.heap.size w w2) := HB1.out.trans (b2.mono HB1.out.size)
 clear b2 HB1 HU HE1 HE2 HE3 HE4
 cases f1 with
 | false =>
  have HF : Hid (¬ SameP fs gs) := fun h => nomatch (HQ.out.1 h).1
  go_wp2_with fail
  go_ret
  exact BoolIs.no HF.out HB2.out
 | true =>
  cases f2 with
  | false =>
   have HF : Hid (¬ SameP fs gs) := fun h => nomatch (HQ.out.1 h).2.1
   go_wp2_with fail
   go_ret
   exact BoolIs.no HF.out HB2.out
  | true =>
   have HT : Hid ((s.toList == t.toList) = true ↔ SameP fs gs) := by show _ ↔ _; rw [HQ.out, text_beq]; simp
   go_wp2_with fail
   go_ret
   exact ⟨_, rfl, HT.out, HB2.out⟩
open Classical in
theorem short_named (gs : List (ByteArray × ByteArray)) : namedF [tagName, varyName, ccName] gs = shortF gs := by
 unfold namedF shortF
 congr 1
 funext f
 simp
theorem implShort_any (st : Int) (v : Value) (b : ByteArray) (n base : Nat) (gs : List (ByteArray × ByteArray)) (w : World) (hv : FieldsV w base v n gs) (hn : n ≤ 1999999) (hcp : CopyF gs) :
  Calls Tryz.prog 36 #[.agg #[.int .i64 st, v, .string b]] w fun e w' => RespRow 304 (shortF gs) ⟨#[]⟩ w e w' := by
 obtain ⟨oa, cap, rfl, _⟩ := hv.slice
 obtain ⟨r, hr⟩ := exq (w.heap.size)
 have HR : Hid (w.heap.size = r) := hr.symm
 obtain ⟨W1, hW1⟩ := exq ((w.alloc (.cells #[.int .i64 st, .slice oa n cap, .string b] 29)).alloc (.cells #[.int .i64 0, .slice none 0 0, .string ⟨#[]⟩] 29))
 have HW1 : Hid ((w.alloc (.cells #[.int .i64 st, .slice oa n cap, .string b] 29)).alloc (.cells #[.int .i64 0, .slice none 0 0, .string ⟨#[]⟩] 29) = W1) := hW1.symm
 have b1 : Below r w W1 := by rw [hW1, hr]; exact ((Below.refl _ w).alloc (Nat.le_refl _) _).alloc (by simp) _
 have s1 : (w.alloc (.cells #[.int .i64 st, .slice oa n cap, .string b] 29)).heap.size = r + 1 := by rw [hr]; simp
 have s2 : W1.heap.size = r + 1 + 1 := by rw [hW1, hr]; simp
 have H0 : Hid (W1.heap[r]? = some (.cells #[.int .i64 st, .slice oa n cap, .string b] 29) ∧ W1.heap[r + 1]? = some (.cells #[.int .i64 0, .slice none 0 0, .string ⟨#[]⟩] 29) ∧ Below r w W1) := by
  have e0 := heap_alloc_new w (.cells #[.int .i64 st, .slice oa n cap, .string b] 29)
  have e1 := heap_alloc_new (w.alloc (.cells #[.int .i64 st, .slice oa n cap, .string b] 29)) (.cells #[.int .i64 0, .slice none 0 0, .string ⟨#[]⟩] 29)
  rw [← hr] at e0
  rw [s1, ← hW1] at e1
  have c1 : Below (r + 1) (w.alloc (.cells #[.int .i64 st, .slice oa n cap, .string b] 29)) W1 := by rw [hW1, ← s1]; exact (Below.refl _ _).alloc (Nat.le_refl _) _
  exact ⟨by rw [c1.block r (by omega)]; exact e0, e1, b1⟩
 obtain ⟨⟨_, c1, _⟩, _⟩ := three_facts H0.out.1
 obtain ⟨W2, hW2⟩ := exq (W1.alloc (.cells #[.string tagName, .string varyName, .string ccName] 9))
 have HW2 : Hid (W1.alloc (.cells #[.string ⟨#[101, 116, 97, 103]⟩, .string ⟨#[118, 97, 114, 121]⟩, .string ⟨#[99, 97, 99, 104, 101, 45, 99, 111, 110, 116, 114, 111, 108]⟩] 9) = W2) := hW2.symm
 have HX2 : Hid (TextsA W2 (some ⟨r + 1 + 1, 0, none⟩) 3 [tagName, varyName, ccName]) := by
  refine ⟨rfl, fun i hi => ⟨r + 1 + 1, rfl, by rw [hW2]; simp; omega, ?_⟩⟩
  have h := heap_alloc_new W1 (.cells #[.string tagName, .string varyName, .string ccName] 9)
  rw [← hW2, s2] at h
  rcases (by omega : i = 0 ∨ i = 1 ∨ i = 2) with rfl | rfl | rfl <;> simp [World.cell?, h, textAt]
 have HB2 : Hid (Below (r + 1 + 1) W1 W2) := by show Below _ _ _; rw [hW2]; exact (Below.refl _ _).alloc (by omega) _
 have HL2 : Hid (r + 1 + 1 + 1 = W2.heap.size) := by show _ = _; rw [hW2]; simp; omega
 have HV2 : Hid (FieldsV W2 base (.slice oa n cap) n gs) := hv.below (by rw [← hr]; exact b1.trans (HB2.out.mono (by omega)))
 have HS2 : Hid (W1.heap.size = r + 1 + 1) := s2
 have HCP : Hid (CopyF gs) := hcp
 clear hW1 hW2 hv b1 s1 s2 hcp
 go_enter Tryz.func36, Tryz.ntmps36
 go_upto_region 1 with fail
 rw [HW1.out, ← hr]
 clear hr HW1
 go_wp2_with fail
 rw [HW2.out, HS2.out]
 refine (onlyNamed_any _ n base gs _ 3 3 [tagName, varyName, ccName] _ HV2.out hn HCP.out HX2.out (by omega)).mono ?_
 rintro e w3 ⟨z, rfl, own, b3⟩
 rw [short_named] at own
 obtain ⟨oz, cz, rfl⟩ := slice_of_owns own
 have hl2 := HL2.out
 rw [← hl2] at own b3
 have H3 : Hid (w3.heap[r + 1]? = some (.cells #[.int .i64 0, .slice none 0 0, .string ⟨#[]⟩] 29) ∧ Below r w w3) := by
  have b4 := HB2.out.trans (b3.mono (by omega))
  exact ⟨by rw [b4.block (r + 1) (by omega)]; exact H0.out.2.1, H0.out.2.2.trans (b4.mono (by omega))⟩
 obtain ⟨⟨g0, g1, g2⟩, x0, x1, x2⟩ := three_facts H3.out.1
 obtain ⟨nz, hnz⟩ := exq ((shortF gs).length)
 rw [← hnz] at own ⊢
 have HNZ : Hid ((shortF gs).length = nz) := hnz.symm
 have hset := three_set H3.out.1 (.int .i64 304) (.slice oz nz cz) (.string ⟨#[]⟩)
 obtain ⟨⟨k0, k1, k2⟩, _⟩ := three_facts hset
 have HFB : Hid (Below r w (threeSet w3 (r + 1) (.int .i64 304) (.slice oz nz cz) (.string ⟨#[]⟩))) := below_three H3.out.2 (by omega)
 have HFO : Hid ((threeSet w3 (r + 1) (.int .i64 304) (.slice oz nz cz) (.string ⟨#[]⟩)).ownsRow r 74 2 (.slice oz nz cz) nz (flatF (shortF gs))) := by
  refine owns_same (owns_wide own (by omega)) (fun j hj => ?_)
  have hj2 := owns_ge own hj
  rw [three_other _ _ j _ _ _ (by omega)]
 unfold threeSet at k0 k1 k2 HFB HFO
 clear hset H0 H3 own b3 hl2 hnz c1 HV2 HX2 HB2 HL2 HS2
 go_wp2_with fail
 refine bodyPost_ret (v := .agg #[.int .i64 304, .slice oz nz cz, .string ⟨#[]⟩]) (by simp [results, Tryz.results36, go_sem, k0, k1, k2]) rfl ?_
 exact ⟨_, rfl, by rw [HR.out, HNZ.out]; exact HFO.out, by rw [HR.out]; exact HFB.out⟩
end Go.Proofs.YtmcmeeibogkpaaaGreatDoorR
namespace Go.Proofs.YtmcmeeibogkpaaaGreatDoorR
open Go.RowKit
open Go.Lib hiding intOf
/-- A variable's block may have been made, in this form; and a list of fields of one's own, which lies elsewhere. -/
structure MkSt (W1 : World) (ob : Obj) (a : Option Nat) (z : Option Value) (P : List (ByteArray × ByteArray)) (W : World) : Prop where
 low : Below W1.heap.size W1 W
 blk : ∀ o, a = some o → W.heap[o]? = some ob ∧ W1.heap.size ≤ o
 own : ∀ v, z = some v → W.ownsRow W1.heap.size 74 2 v P.length (flatF P)
 ne : ∀ o v j, a = some o → z = some v → v.ownBlock = some j → j ≠ o
theorem MkSt.below {W1 : World} {ob : Obj} {a : Option Nat} {z : Option Value} {P : List (ByteArray × ByteArray)} {W W' : World} (h : MkSt W1 ob a z P W) (hb : Below W.heap.size W W') : MkSt W1 ob a z P W' :=
 ⟨h.low.trans (hb.mono h.low.size), fun o ho => ⟨by rw [hb.block o (Array.getElem?_eq_some_iff.1 (h.blk o ho).1).1]; exact (h.blk o ho).1, (h.blk o ho).2⟩, fun v hv => owns_below (h.own v hv) hb (fun g hg => owns_lt (h.own v hv) hg), h.ne⟩
theorem MkSt.make {W1 : World} {ob : Obj} {z : Option Value} {P : List (ByteArray × ByteArray)} {W : World} (h : MkSt W1 ob none z P W) : MkSt W1 ob (some W.heap.size) z P (W.alloc ob) := by
 have h' := h.below ((Below.refl _ _).alloc (Nat.le_refl _) ob)
 exact ⟨h'.low, fun o ho => by cases ho; exact ⟨heap_alloc_new W _, h.low.size⟩, h'.own, fun o v j ho hv hj => by cases ho; have := owns_lt (h.own v hv) hj; omega⟩
theorem MkSt.put {W1 : World} {ob : Obj} {a : Option Nat} {P : List (ByteArray × ByteArray)} {W W' : World} {v : Value} (h : MkSt W1 ob a none P W) (hb : Below W.heap.size W W') (hv : W'.ownsRow W.heap.size 74 2 v P.length (flatF P)) : MkSt W1 ob a (some v) P W' := by
 have h' := h.below hb
 exact ⟨h'.low, h'.blk, fun u hu => by cases hu; exact owns_wide hv h.low.size, fun o u j ho hu hj => by
  cases hu
  have h1 := owns_ge hv hj
  have h2 := (Array.getElem?_eq_some_iff.1 (h.blk o ho).1).1
  omega⟩
theorem copy_one {nm vl : ByteArray} (h1 : nm.size ≤ 281474976710656) (h2 : vl.size ≤ 281474976710656) : CopyF [(nm, vl)] := fun i hi => by
 obtain rfl : i = 0 := by simpa using hi
 exact ⟨h1, h2⟩
theorem copy_walk {fs : List (ByteArray × ByteArray)} {n : Nat} (h : CopyF fs) (hl : fs.length = n) : WalkF n fs := fun i hi => by
 have := h i (by omega)
 unfold maxLen
 omega
theorem putAll_walk (fs gs : List (ByteArray × ByteArray)) (h : WalkF fs.length fs) (h2 : WalkF gs.length gs) : WalkF (putAll fs gs).length (putAll fs gs) := by
 have hm : ∀ k, k ≤ gs.length → WalkF (putAll fs (gs.take k)).length (putAll fs (gs.take k)) := by
  intro k
  induction k with
  | zero => intro _; simpa [putAll] using h
  | succ k ih =>
   intro hk
   rw [take_field gs k (by omega), putAll_snoc]
   exact put_walk _ _ _ (ih (by omega)) (h2 k (by omega)).1 (h2 k (by omega)).2
 have := hm gs.length (Nat.le_refl _)
 rw [List.take_length] at this
 exact this
theorem implMerge_any (st : Int) (v : Value) (b : ByteArray) (n base : Nat) (fs : List (ByteArray × ByteArray)) (st2 : Int) (u : Value) (c : ByteArray) (k base2 : Nat) (gs : List (ByteArray × ByteArray)) (w : World) (hv : FieldsV w base v n fs) (hb : b.size ≤ 281474976710656) (hu : FieldsV w base2 u k gs) (hnk : n + k ≤ 1999999) (hcp : CopyF fs) (hcg : CopyF gs) :
  Calls Tryz.prog 38 #[.agg #[.int .i64 st, v, .string b], .agg #[.int .i64 st2, u, .string c]] w fun e w' => RespRow st (mergeF st fs b gs) b w e w' := by
 have hl := hv.len
 have hl2 := hu.len
 obtain ⟨oa, cap, rfl, _⟩ := hv.slice
 obtain ⟨ob, cb, rfl, _⟩ := hu.slice
 obtain ⟨r, hr⟩ := exq (w.heap.size)
 have HR : Hid (w.heap.size = r) := hr.symm
 obtain ⟨W1, hW1⟩ := exq (((w.alloc (.cells #[.int .i64 st, .slice oa n cap, .string b] 29)).alloc (.cells #[.int .i64 st2, .slice ob k cb, .string c] 29)).alloc (.cells #[.int .i64 0, .slice none 0 0, .string ⟨#[]⟩] 29))
 have HW1 : Hid (((w.alloc (.cells #[.int .i64 st, .slice oa n cap, .string b] 29)).alloc (.cells #[.int .i64 st2, .slice ob k cb, .string c] 29)).alloc (.cells #[.int .i64 0, .slice none 0 0, .string ⟨#[]⟩] 29) = W1) := hW1.symm
 have HV : Hid (∀ W, Below r w W → FieldsV W base (.slice oa n cap) n fs) := fun W h => hv.below (by rw [hr] at h; exact h)
 have HU : Hid (∀ W, Below r w W → FieldsV W base2 (.slice ob k cb) k gs) := fun W h => hu.below (by rw [hr] at h; exact h)
 have s3 : W1.heap.size = r + 1 + 1 + 1 := by rw [hW1, hr]; simp
 have HK1 : Hid (∀ W, Below W1.heap.size W1 W → W.heap[r]? = some (.cells #[.int .i64 st, .slice oa n cap, .string b] 29) ∧ W.heap[r + 1]? = some (.cells #[.int .i64 st2, .slice ob k cb, .string c] 29) ∧ W.heap[r + 1 + 1]? = some (.cells #[.int .i64 0, .slice none 0 0, .string ⟨#[]⟩] 29) ∧ Below r w W) := by
  intro W hW
  have b1 : Below r w W1 := by rw [hW1, hr]; exact (((Below.refl _ w).alloc (Nat.le_refl _) _).alloc (by simp) _).alloc (by simp; omega) _
  have s1 : (w.alloc (.cells #[.int .i64 st, .slice oa n cap, .string b] 29)).heap.size = r + 1 := by rw [hr]; simp
  have s2 : ((w.alloc (.cells #[.int .i64 st, .slice oa n cap, .string b] 29)).alloc (.cells #[.int .i64 st2, .slice ob k cb, .string c] 29)).heap.size = r + 1 + 1 := by rw [hr]; simp
  have e0 := heap_alloc_new w (.cells #[.int .i64 st, .slice oa n cap, .string b] 29)
  have e1 := heap_alloc_new (w.alloc (.cells #[.int .i64 st, .slice oa n cap, .string b] 29)) (.cells #[.int .i64 st2, .slice ob k cb, .string c] 29)
  have e2 := heap_alloc_new ((w.alloc (.cells #[.int .i64 st, .slice oa n cap, .string b] 29)).alloc (.cells #[.int .i64 st2, .slice ob k cb, .string c] 29)) (.cells #[.int .i64 0, .slice none 0 0, .string ⟨#[]⟩] 29)
  rw [← hr] at e0
  rw [s1] at e1
  rw [s2, ← hW1] at e2
  have c1 : Below (r + 1) (w.alloc (.cells #[.int .i64 st, .slice oa n cap, .string b] 29)) W1 := by rw [hW1, ← s1]; exact ((Below.refl _ _).alloc (Nat.le_refl _) _).alloc (by simp) _
  have c2 : Below (r + 1 + 1) ((w.alloc (.cells #[.int .i64 st, .slice oa n cap, .string b] 29)).alloc (.cells #[.int .i64 st2, .slice ob k cb, .string c] 29)) W1 := by rw [hW1, ← s2]; exact (Below.refl _ _).alloc (Nat.le_refl _) _
  rw [s3] at hW
  exact ⟨by rw [hW.block r (by omega), c1.block r (by omega)]; exact e0, by rw [hW.block (r + 1) (by omega), c2.block (r + 1) (by omega)]; exact e1, by rw [hW.block (r + 1 + 1) (by omega)]; exact e2, b1.trans (hW.mono (by omega))⟩
 have HS3 : Hid (W1.heap.size = r + 1 + 1 + 1) := s3
 have HSS : Hid (∀ W, Below W1.heap.size W1 W → (W.cell? ⟨r, 0, none⟩ = some (.int .i64 st) ∧ W.cell? ⟨r, 1, none⟩ = some (.slice oa n cap) ∧ W.cell? ⟨r, 2, none⟩ = some (.string b)) ∧ W.cell? ⟨r + 1, 0, none⟩ = some (.int .i64 st2) ∧ W.cell? ⟨r + 1, 1, none⟩ = some (.slice ob k cb) ∧ W.cell? ⟨r + 1, 2, none⟩ = some (.string c)) := fun W h => ⟨(three_facts (HK1.out W h).1).1, (three_facts (HK1.out W h).2.1).1⟩
 have HCF : Hid (CopyF fs) := hcp
 have HCG : Hid (CopyF gs) := hcg
 have HBM : Hid (b.size ≤ 281474976710656) := hb
 obtain ⟨P, hP⟩ := exq (putAll fs gs)
 have HPE : Hid (putAll fs gs = P) := hP.symm
 have HPL : Hid (P.length ≤ 1999999) := by show _ ≤ _; rw [hP]; have := putAll_le fs gs; omega
 have HPW : Hid (WalkF P.length P) := by
  show WalkF _ _
  rw [hP]
  exact putAll_walk fs gs (by rw [hl]; exact copy_walk hcp hl) (by rw [hl2]; exact copy_walk hcg hl2)
 have HYES : Hid (RespP st P b → mergeF st fs b gs = P) := fun h => by
  unfold mergeF
  rw [HPE.out]
  exact if_pos h
 have HNO : Hid (¬ RespP st P b → mergeF st fs b gs = fs) := fun h => by
  unfold mergeF
  rw [HPE.out]
  exact if_neg h
 clear hW1 hv hu hcp hcg hb hP s3 hl hl2
 go_enter Tryz.func38, Tryz.ntmps38
 go_upto_region 1 with fail
 rw [HW1.out, ← hr]
 clear hr HW1
 go_cut [5] (fun s5 wx => ∃ (o : Nat) (oz : Option Addr) (cz : Nat), s5 = .pointer (some ⟨o, 0, none⟩) ∧ Hid (Below W1.heap.size W1 wx ∧ wx.heap[o]? = some (.cells #[.int .i64 st, .slice oz P.length cz, .string b] 29) ∧ W1.heap.size ≤ o ∧ wx.ownsRow W1.heap.size 74 2 (.slice oz P.length cz) P.length (flatF P) ∧ ∀ j, (Value.slice oz P.length cz).ownBlock = some j → j ≠ o))
 case first =>
  refine wp_region_held_drew (S := fun W => (W.cell? ⟨r, 0, none⟩ = some (.int .i64 st) ∧ W.cell? ⟨r, 1, none⟩ = some (.slice oa n cap) ∧ W.cell? ⟨r, 2, none⟩ = some (.string b)) ∧ W.cell? ⟨r + 1, 0, none⟩ = some (.int .i64 st2) ∧ W.cell? ⟨r + 1, 1, none⟩ = some (.slice ob k cb) ∧ W.cell? ⟨r + 1, 2, none⟩ = some (.string c)) (by kernel_rfl) (HSS.out _ (Below.refl _ _).drew) (fun hS0 => ?_)
  have HST : Hid (MkSt W1 (.cells #[.int .i64 0, .slice none 0 0, .string ⟨#[]⟩] 29) none none P W1.drew) := ⟨(Below.refl _ _).drew, (fun o ho => by cases ho), (fun v hv => by cases hv), (fun o v j ho => by cases ho)⟩
  obtain ⟨X0, hX0⟩ := exq W1.drew
  rw [← hX0] at hS0 HST ⊢
  clear hX0
  refine tkP 0 (.pointer (some ⟨r, 0, none⟩)) 6 rfl rfl hS0 ?_
  go_frame
  refine tkL 1 (.int .i64 st) 7 rfl rfl (Or.inl ⟨by rfl, by intro W hW; obtain ⟨⟨s0, s1, s2⟩, t0, t1, t2⟩ := hW; go_simp⟩) hS0 ?_
  go_frame
  refine tkP 2 (.pointer (some ⟨r, 1, none⟩)) 8 rfl rfl hS0 ?_
  go_frame
  refine tkL 3 (.slice oa n cap) 9 rfl rfl (Or.inl ⟨by rfl, by intro W hW; obtain ⟨⟨s0, s1, s2⟩, t0, t1, t2⟩ := hW; go_simp⟩) hS0 ?_
  go_frame
  refine tkP 4 (.pointer (some ⟨r + 1, 1, none⟩)) 10 rfl rfl hS0 ?_
  go_frame
  refine tkL 5 (.slice ob k cb) 11 rfl rfl (Or.inl ⟨by rfl, by intro W hW; obtain ⟨⟨s0, s1, s2⟩, t0, t1, t2⟩ := hW; go_simp⟩) hS0 ?_
  go_frame
  refine tkP 7 (.pointer (some ⟨r, 2, none⟩)) 13 rfl rfl hS0 ?_
  go_frame
  refine tkL 8 (.string b) 14 rfl rfl (Or.inl ⟨by rfl, by intro W hW; obtain ⟨⟨s0, s1, s2⟩, t0, t1, t2⟩ := hW; go_simp⟩) hS0 ?_
  go_frame
  refine wpAnyH_ready (rs := [6, 11]) (by kernel_rfl) (by simp) ?_
  refine AllReadyH.cons rfl (fun K hK => ?_) (AllReadyH.cons rfl (fun K hK => ?_) AllReadyH.nil)
  ·
   go_simp
   refine (putTogether_any _ n base fs _ k base2 gs _ (HV.out _ (HK1.out _ HST.out.low).2.2.2) (HU.out _ (HK1.out _ HST.out.low).2.2.2) hnk HCF.out HCG.out).mono ?_
   rintro e X1 ⟨zv, rfl, ownz, bx⟩
   obtain ⟨oz, cz, rfl⟩ := slice_of_owns ownz
   rw [HPE.out] at ownz
   have HSN : Hid (MkSt W1 (.cells #[.int .i64 0, .slice none 0 0, .string ⟨#[]⟩] 29) none (some (.slice oz _ cz)) P X1) := HST.out.put bx ownz
   rw [HPE.out]
   clear ownz
   refine hK.out _ _ (HSS.out _ HSN.out.low) (fun _ => ?_)
   clear hK K HST bx
   have HST := HSN
   clear HSN
   refine wpAnyH_ready (rs := [9, 11]) (by kernel_rfl) (by simp) ?_
   refine AllReadyH.cons rfl (fun K hK => ?_) (AllReadyH.cons rfl (fun K hK => ?_) AllReadyH.nil)
   ·
    go_simp
    refine (clone_any b _ HBM.out).mono ?_
    rintro e X2 ⟨rfl, bx⟩
    have HSN : Hid (MkSt W1 (.cells #[.int .i64 0, .slice none 0 0, .string ⟨#[]⟩] 29) none (some (.slice oz P.length cz)) P X2) := HST.out.below bx
    refine hK.out _ _ (HSS.out _ HSN.out.low) (fun _ => ?_)
    clear hK K HST bx
    have HST := HSN
    clear HSN
    refine wpAnyH_takeD (i := 10) (v := .agg #[.int .i64 st, .slice oz P.length cz, .string b]) (some 16) rfl rfl (by kernel_rfl) (by kernel_rfl) (by kernel_rfl) (fun _ _ _ h => h) (Or.inl ⟨by rfl, by intro W _; go_simp⟩) (HSS.out _ HST.out.low) ?_
    go_frame
    refine rd1 11 rfl (fun K hK => ?_)
    have HSN : Hid (MkSt W1 (.cells #[.int .i64 0, .slice none 0 0, .string ⟨#[]⟩] 29) (some X2.heap.size) (some (.slice oz P.length cz)) P (X2.alloc (.cells #[.int .i64 0, .slice none 0 0, .string ⟨#[]⟩] 29))) := HST.out.make
    go_simp
    refine hK.out _ _ (HSS.out _ HSN.out.low) (fun _ => ?_)
    clear hK K HST
    obtain ⟨pa, ho⟩ := exq (X2.heap.size)
    obtain ⟨X3, hX⟩ := exq (X2.alloc (.cells #[.int .i64 0, .slice none 0 0, .string ⟨#[]⟩] 29))
    rw [← ho] at HSN ⊢
    rw [← hX] at HSN ⊢
    clear ho hX
    have HST := HSN
    clear HSN
    obtain ⟨Y, hY⟩ := exq (threeSet X3 pa (.int .i64 st) (.slice oz P.length cz) (.string b))
    have HY := hsy hY
    have HF : Hid (Below W1.heap.size W1 Y ∧ Y.heap[pa]? = some (.cells #[.int .i64 st, .slice oz P.length cz, .string b] 29) ∧ W1.heap.size ≤ pa ∧ Y.ownsRow W1.heap.size 74 2 (.slice oz P.length cz) P.length (flatF P) ∧ ∀ j, (Value.slice oz P.length cz).ownBlock = some j → j ≠ pa) := by
     show _ ∧ _ ∧ _ ∧ _ ∧ _
     rw [hY]
     exact ⟨below_three HST.out.low (HST.out.blk pa rfl).2, three_set (HST.out.blk pa rfl).1 _ _ _, (HST.out.blk pa rfl).2, owns_same (HST.out.own _ rfl) (fun j hj => three_other _ _ j _ _ _ (HST.out.ne pa _ j rfl rfl hj)), fun j hj => HST.out.ne pa _ j rfl rfl hj⟩
    obtain ⟨⟨e0, e1, e2⟩, g0, g1, g2⟩ := three_facts (HST.out.blk pa rfl).1
    have hs9 := HSS.out _ HF.out.1
    unfold threeSet at HY
    clear hY HST
    refine rd1 12 rfl (fun K hK => ?_)
    go_simp
    rw [HY.out]
    refine hK.out _ _ hs9 (fun _ => ?_)
    clear hK K HY e0 e1 e2 g0 g1 g2 hs9
    refine wpAnyH_done (by kernel_rfl) ?_ _
    go_wp2_with fail
    go_meet
    exact ⟨pa, oz, cz, rfl, HF⟩
   ·
    have HSN : Hid (MkSt W1 (.cells #[.int .i64 0, .slice none 0 0, .string ⟨#[]⟩] 29) (some X1.heap.size) (some (.slice oz P.length cz)) P (X1.alloc (.cells #[.int .i64 0, .slice none 0 0, .string ⟨#[]⟩] 29))) := HST.out.make
    go_simp
    refine hK.out _ _ (HSS.out _ HSN.out.low) (fun _ => ?_)
    clear hK K HST
    obtain ⟨pa, ho⟩ := exq (X1.heap.size)
    obtain ⟨X2, hX⟩ := exq (X1.alloc (.cells #[.int .i64 0, .slice none 0 0, .string ⟨#[]⟩] 29))
    rw [← ho] at HSN ⊢
    rw [← hX] at HSN ⊢
    clear ho hX
    have HST := HSN
    clear HSN
    refine rd1 9 rfl (fun K hK => ?_)
    go_simp
    refine (clone_any b _ HBM.out).mono ?_
    rintro e X3 ⟨rfl, bx⟩
    have HSN : Hid (MkSt W1 (.cells #[.int .i64 0, .slice none 0 0, .string ⟨#[]⟩] 29) (some pa) (some (.slice oz P.length cz)) P X3) := HST.out.below bx
    refine hK.out _ _ (HSS.out _ HSN.out.low) (fun _ => ?_)
    clear hK K HST bx
    have HST := HSN
    clear HSN
    refine wpAnyH_takeD (i := 10) (v := .agg #[.int .i64 st, .slice oz P.length cz, .string b]) (some 16) rfl rfl (by kernel_rfl) (by kernel_rfl) (by kernel_rfl) (fun _ _ _ h => h) (Or.inl ⟨by rfl, by intro W _; go_simp⟩) (HSS.out _ HST.out.low) ?_
    go_frame
    obtain ⟨Y, hY⟩ := exq (threeSet X3 pa (.int .i64 st) (.slice oz P.length cz) (.string b))
    have HY := hsy hY
    have HF : Hid (Below W1.heap.size W1 Y ∧ Y.heap[pa]? = some (.cells #[.int .i64 st, .slice oz P.length cz, .string b] 29) ∧ W1.heap.size ≤ pa ∧ Y.ownsRow W1.heap.size 74 2 (.slice oz P.length cz) P.length (flatF P) ∧ ∀ j, (Value.slice oz P.length cz).ownBlock = some j → j ≠ pa) := by
     show _ ∧ _ ∧ _ ∧ _ ∧ _
     rw [hY]
     exact ⟨below_three HST.out.low (HST.out.blk pa rfl).2, three_set (HST.out.blk pa rfl).1 _ _ _, (HST.out.blk pa rfl).2, owns_same (HST.out.own _ rfl) (fun j hj => three_other _ _ j _ _ _ (HST.out.ne pa _ j rfl rfl hj)), fun j hj => HST.out.ne pa _ j rfl rfl hj⟩
    obtain ⟨⟨e0, e1, e2⟩, g0, g1, g2⟩ := three_facts (HST.out.blk pa rfl).1
    have hs9 := HSS.out _ HF.out.1
    unfold threeSet at HY
    clear hY HST
    refine rd1 12 rfl (fun K hK => ?_)
    go_simp
    rw [HY.out]
    refine hK.out _ _ hs9 (fun _ => ?_)
    clear hK K HY e0 e1 e2 g0 g1 g2 hs9
    refine wpAnyH_done (by kernel_rfl) ?_ _
    go_wp2_with fail
    go_meet
    exact ⟨pa, oz, cz, rfl, HF⟩
  ·
   have HSN : Hid (MkSt W1 (.cells #[.int .i64 0, .slice none 0 0, .string ⟨#[]⟩] 29) (some X0.heap.size) none P (X0.alloc (.cells #[.int .i64 0, .slice none 0 0, .string ⟨#[]⟩] 29))) := HST.out.make
   go_simp
   refine hK.out _ _ (HSS.out _ HSN.out.low) (fun _ => ?_)
   clear hK K HST
   obtain ⟨pa, ho⟩ := exq (X0.heap.size)
   obtain ⟨X1, hX⟩ := exq (X0.alloc (.cells #[.int .i64 0, .slice none 0 0, .string ⟨#[]⟩] 29))
   rw [← ho] at HSN ⊢
   rw [← hX] at HSN ⊢
   clear ho hX
   have HST := HSN
   clear HSN
   refine rd1 6 rfl (fun K hK => ?_)
   go_simp
   refine (putTogether_any _ n base fs _ k base2 gs _ (HV.out _ (HK1.out _ HST.out.low).2.2.2) (HU.out _ (HK1.out _ HST.out.low).2.2.2) hnk HCF.out HCG.out).mono ?_
   rintro e X2 ⟨zv, rfl, ownz, bx⟩
   obtain ⟨oz, cz, rfl⟩ := slice_of_owns ownz
   rw [HPE.out] at ownz
   have HSN : Hid (MkSt W1 (.cells #[.int .i64 0, .slice none 0 0, .string ⟨#[]⟩] 29) (some pa) (some (.slice oz _ cz)) P X2) := HST.out.put bx ownz
   rw [HPE.out]
   clear ownz
   refine hK.out _ _ (HSS.out _ HSN.out.low) (fun _ => ?_)
   clear hK K HST bx
   have HST := HSN
   clear HSN
   refine rd1 9 rfl (fun K hK => ?_)
   go_simp
   refine (clone_any b _ HBM.out).mono ?_
   rintro e X3 ⟨rfl, bx⟩
   have HSN : Hid (MkSt W1 (.cells #[.int .i64 0, .slice none 0 0, .string ⟨#[]⟩] 29) (some pa) (some (.slice oz P.length cz)) P X3) := HST.out.below bx
   refine hK.out _ _ (HSS.out _ HSN.out.low) (fun _ => ?_)
   clear hK K HST bx
   have HST := HSN
   clear HSN
   refine wpAnyH_takeD (i := 10) (v := .agg #[.int .i64 st, .slice oz P.length cz, .string b]) (some 16) rfl rfl (by kernel_rfl) (by kernel_rfl) (by kernel_rfl) (fun _ _ _ h => h) (Or.inl ⟨by rfl, by intro W _; go_simp⟩) (HSS.out _ HST.out.low) ?_
   go_frame
   obtain ⟨Y, hY⟩ := exq (threeSet X3 pa (.int .i64 st) (.slice oz P.length cz) (.string b))
   have HY := hsy hY
   have HF : Hid (Below W1.heap.size W1 Y ∧ Y.heap[pa]? = some (.cells #[.int .i64 st, .slice oz P.length cz, .string b] 29) ∧ W1.heap.size ≤ pa ∧ Y.ownsRow W1.heap.size 74 2 (.slice oz P.length cz) P.length (flatF P) ∧ ∀ j, (Value.slice oz P.length cz).ownBlock = some j → j ≠ pa) := by
    show _ ∧ _ ∧ _ ∧ _ ∧ _
    rw [hY]
    exact ⟨below_three HST.out.low (HST.out.blk pa rfl).2, three_set (HST.out.blk pa rfl).1 _ _ _, (HST.out.blk pa rfl).2, owns_same (HST.out.own _ rfl) (fun j hj => three_other _ _ j _ _ _ (HST.out.ne pa _ j rfl rfl hj)), fun j hj => HST.out.ne pa _ j rfl rfl hj⟩
   obtain ⟨⟨e0, e1, e2⟩, g0, g1, g2⟩ := three_facts (HST.out.blk pa rfl).1
   have hs9 := HSS.out _ HF.out.1
   unfold threeSet at HY
   clear hY HST
   refine rd1 12 rfl (fun K hK => ?_)
   go_simp
   rw [HY.out]
   refine hK.out _ _ hs9 (fun _ => ?_)
   clear hK K HY e0 e1 e2 g0 g1 g2 hs9
   refine wpAnyH_done (by kernel_rfl) ?_ _
   go_wp2_with fail
   go_meet
   exact ⟨pa, oz, cz, rfl, HF⟩
 case rest =>
 obtain ⟨o, oz, cz, hs5, HF⟩ := hcut
 rw [hs5]
 obtain ⟨w2, hw2⟩ := exq wc
 rw [← hw2] at HF ⊢
 clear hs5 hw2
 have HST : Hid (MgSt w r o st (.slice oa n cap) b st2 (.slice ob k cb) c (.slice oz P.length cz) P w2) := by
  obtain ⟨a0, a1, a2, a3⟩ := HK1.out _ HF.out.1
  obtain ⟨_, f1, f2, f3, f4⟩ := HF.out
  have h3 := HS3.out
  rw [h3] at f2 f3
  exact ⟨a0, a1, a2, f1, f3, f4, f2, a3⟩
 clear HF HSS HK1 HS3
 obtain ⟨ln, hln⟩ := exq P.length
 have HVQ : Hid (FieldsV w2 (r + 1 + 1 + 1) (.slice oz ln cz) ln P) := by
  have h := FieldsV.of_owns HST.out.own
  rw [← hln] at h
  exact h
 rw [← hln] at HPL HPW HST
 clear hln
 obtain ⟨⟨d0, d1, d2⟩, _⟩ := three_facts HST.out.q3
 go_wp2_with fail
 refine (implRespOk_any st _ b ln _ P _ HVQ.out (by have := HPL.out; omega) HPW.out (by have := HBM.out; unfold maxLen; omega)).mono ?_
 rintro e w3 ⟨ok, rfl, hok, b3⟩
 have HST3 : Hid (MgSt w r o st (.slice oa n cap) b st2 (.slice ob k cb) c (.slice oz ln cz) P w3) := HST.out.below b3
 clear d0 d1 d2 HST HVQ b3
 cases ok with
 | true =>
  have HFE : Hid (mergeF st fs b gs = P) := HYES.out (hok.1 rfl)
  clear hok HYES HNO
  obtain ⟨⟨e0, e1, e2⟩, g0, g1, g2⟩ := three_facts HST3.out.q2
  obtain ⟨⟨d0, d1, d2⟩, _⟩ := three_facts HST3.out.q3
  have hset := three_set HST3.out.q2 (.int .i64 st) (.slice oz ln cz) (.string b)
  obtain ⟨⟨k0, k1, k2⟩, _⟩ := three_facts hset
  have HFB : Hid (Below r w (threeSet (w3) (r + 1 + 1) (.int .i64 st) (.slice oz ln cz) (.string b))) := below_three HST3.out.low (by omega)
  have HFO : Hid ((threeSet (w3) (r + 1 + 1) (.int .i64 st) (.slice oz ln cz) (.string b)).ownsRow r 74 2 (.slice oz ln cz) (mergeF st fs b gs).length (flatF (mergeF st fs b gs))) := by
   show World.ownsRow _ _ _ _ _ _ _
   rw [HFE.out]
   refine owns_same (owns_wide HST3.out.own (by omega)) (fun j hj => ?_)
   have hj2 := owns_ge HST3.out.own hj
   exact three_other _ _ j _ _ _ (by omega)
  unfold threeSet at k0 k1 k2 HFB HFO
  clear hset HST3
  go_wp2_with fail
  refine bodyPost_ret (v := .agg #[.int .i64 st, .slice oz ln cz, .string b]) (by simp [results, Tryz.results38, go_sem, k0, k1, k2]) rfl ?_
  exact ⟨_, rfl, by rw [HR.out]; exact HFO.out, by rw [HR.out]; exact HFB.out⟩
 | false =>
  have HFE : Hid (mergeF st fs b gs = fs) := HNO.out (fun h => nomatch hok.2 h)
  clear hok HYES HNO
  have hva := HV.out _ HST3.out.low
  obtain ⟨⟨_, q1, _⟩, _⟩ := three_facts HST3.out.q0
  have HNIL : Hid (FieldsV w3 0 (.slice none 0 0) 0 []) := .inl ⟨none, 0, rfl, fun _ => rfl, rfl, rfl⟩
  have HCN : Hid (CopyF []) := fun i hi => by cases hi
  go_wp2_with fail
  refine (putTogether_any _ n base fs _ 0 0 [] _ hva HNIL.out (by omega) HCF.out HCN.out).mono ?_
  rintro e w4 ⟨zv, rfl, ownz, b4⟩
  have HPN : Hid (putAll fs [] = fs) := rfl
  rw [HPN.out] at ownz
  obtain ⟨o4, c4, rfl⟩ := slice_of_owns ownz
  obtain ⟨⟨_, f1, _⟩, _, y1, _⟩ := three_facts (HST3.out.below b4).q3
  have HST5 : Hid (MgSt w r o st (.slice oa n cap) b st2 (.slice ob k cb) c (.slice o4 fs.length c4) fs (w4.setCell ⟨o, 1, none⟩ (.slice o4 fs.length c4))) := HST3.out.set b4 ownz
  clear HST3 b4 ownz hva q1 HNIL HCN
  go_upto_region 4 with fail
  obtain ⟨w5, hw5⟩ := exq (w4.setCell ⟨o, 1, none⟩ (.slice o4 fs.length c4))
  rw [← hw5] at HST5 ⊢
  clear hw5 f1 y1
  obtain ⟨lf, hlf⟩ := exq fs.length
  rw [← hlf] at HST5 ⊢
  clear hlf
  obtain ⟨⟨e0, e1, e2⟩, g0, g1, g2⟩ := three_facts HST5.out.q2
  obtain ⟨⟨d0, d1, d2⟩, _⟩ := three_facts HST5.out.q3
  have hset := three_set HST5.out.q2 (.int .i64 st) (.slice o4 lf c4) (.string b)
  obtain ⟨⟨k0, k1, k2⟩, _⟩ := three_facts hset
  have HFB : Hid (Below r w (threeSet (w5) (r + 1 + 1) (.int .i64 st) (.slice o4 lf c4) (.string b))) := below_three HST5.out.low (by omega)
  have HFO : Hid ((threeSet (w5) (r + 1 + 1) (.int .i64 st) (.slice o4 lf c4) (.string b)).ownsRow r 74 2 (.slice o4 lf c4) (mergeF st fs b gs).length (flatF (mergeF st fs b gs))) := by
   show World.ownsRow _ _ _ _ _ _ _
   rw [HFE.out]
   refine owns_same (owns_wide HST5.out.own (by omega)) (fun j hj => ?_)
   have hj2 := owns_ge HST5.out.own hj
   exact three_other _ _ j _ _ _ (by omega)
  unfold threeSet at k0 k1 k2 HFB HFO
  clear hset HST5
  go_wp2_with fail
  refine bodyPost_ret (v := .agg #[.int .i64 st, .slice o4 lf c4, .string b]) (by simp [results, Tryz.results38, go_sem, k0, k1, k2]) rfl ?_
  exact ⟨_, rfl, by rw [HR.out]; exact HFO.out, by rw [HR.out]; exact HFB.out⟩
end Go.Proofs.YtmcmeeibogkpaaaGreatDoorR
namespace Go.Proofs.YtmcmeeibogkpaaaGreatDoorR
open Go.RowKit
open Go.Lib hiding intOf
theorem saidByFlag_any (x : ByteArray) (w : World) :
  Calls Tryz.prog 166 #[.string x] w fun e w' => e = .returned (saidF x).v ∧ Below w.heap.size w w' := by
 have hR : CcAt (w.alloc (.cells #[.bool false, .bool false, .bool false, .bool false, .bool false, .int .i64 0] 89)) w.heap.size cc0 := heap_alloc_new w _
 have HB0 : Hid (Below w.heap.size w (w.alloc (.cells #[.bool false, .bool false, .bool false, .bool false, .bool false, .int .i64 0] 89))) := (Below.refl _ _).alloc (Nat.le_refl _) _
 obtain ⟨W1, hW1⟩ := exq (w.alloc (.cells #[.bool false, .bool false, .bool false, .bool false, .bool false, .int .i64 0] 89))
 have HW1 : Hid (w.alloc (.cells #[.bool false, .bool false, .bool false, .bool false, .bool false, .int .i64 0] 89) = W1) := hW1.symm
 rw [← hW1] at hR HB0
 obtain ⟨H, hH⟩ := exq (w.heap.size)
 have HW : Hid (w.heap.size = H) := hH.symm
 rw [← hH] at hR HB0
 clear hW1
 obtain ⟨r0, r1, r2, r3, r4, r5⟩ := hR.cells
 have f0 := hR.frozen 0
 have f1 := hR.frozen 1
 have f2 := hR.frozen 2
 have f3 := hR.frozen 3
 have f4 := hR.frozen 4
 have f5 := hR.frozen 5
 obtain ⟨c, hc⟩ := exq (saidF x)
 have HC : Hid (saidF x = c) := hc.symm
 obtain ⟨m0, m1, m2, m3, m4, m5⟩ := (hR.putAll c).cells
 have HB : Hid (Below H w (putCc W1 H c)) := below_putCc HB0.out (Nat.le_refl _) c
 unfold putCc at m0 m1 m2 m3 m4 m5 HB
 clear hR HB0
 unfold saidF at hc
 by_cases h0 : x = nsW
 ·
  have t0 : (x.toList == nsW.toList) = true := (text_beq _ _).2 h0
  rw [nsW_list] at t0
  rw [if_pos h0] at hc
  subst hc
  clear h0 
  dsimp only at m0 m1 m2 m3 m4 m5 HB
  go_enter Tryz.func166, Tryz.ntmps166
  go_upto_region 1 with fail
  rw [HW1.out, ← hH]
  clear hH HW1
  go_wp2_with fail
  refine bodyPost_ret (v := (saidF x).v) (by rw [HC.out]; simp [results, Tryz.results166, go_sem, m0, m1, m2, m3, m4, m5, CcD.v]) rfl ?_
  exact ⟨rfl, by rw [HW.out]; exact HB.out⟩
 have t0 : (x.toList == nsW.toList) = false := text_beq_no h0
 rw [nsW_list] at t0
 by_cases h1 : x = ncW
 ·
  have t1 : (x.toList == ncW.toList) = true := (text_beq _ _).2 h1
  rw [ncW_list] at t1
  rw [if_neg h0, if_pos h1] at hc
  subst hc
  clear h1 h0
  dsimp only at m0 m1 m2 m3 m4 m5 HB
  go_enter Tryz.func166, Tryz.ntmps166
  go_upto_region 1 with fail
  rw [HW1.out, ← hH]
  clear hH HW1
  go_wp2_with fail
  refine bodyPost_ret (v := (saidF x).v) (by rw [HC.out]; simp [results, Tryz.results166, go_sem, m0, m1, m2, m3, m4, m5, CcD.v]) rfl ?_
  exact ⟨rfl, by rw [HW.out]; exact HB.out⟩
 have t1 : (x.toList == ncW.toList) = false := text_beq_no h1
 rw [ncW_list] at t1
 by_cases h2 : x = prW
 ·
  have t2 : (x.toList == prW.toList) = true := (text_beq _ _).2 h2
  rw [prW_list] at t2
  rw [if_neg h0, if_neg h1, if_pos h2] at hc
  subst hc
  clear h2 h0 h1
  dsimp only at m0 m1 m2 m3 m4 m5 HB
  go_enter Tryz.func166, Tryz.ntmps166
  go_upto_region 1 with fail
  rw [HW1.out, ← hH]
  clear hH HW1
  go_wp2_with fail
  refine bodyPost_ret (v := (saidF x).v) (by rw [HC.out]; simp [results, Tryz.results166, go_sem, m0, m1, m2, m3, m4, m5, CcD.v]) rfl ?_
  exact ⟨rfl, by rw [HW.out]; exact HB.out⟩
 have t2 : (x.toList == prW.toList) = false := text_beq_no h2
 rw [prW_list] at t2
 by_cases h4 : x = muW
 ·
  have t3 : (x.toList == muW.toList) = true := (text_beq _ _).2 h4
  rw [muW_list] at t3
  rw [if_neg h0, if_neg h1, if_neg h2, if_pos h4] at hc
  subst hc
  clear h4 h0 h1 h2
  dsimp only at m0 m1 m2 m3 m4 m5 HB
  go_enter Tryz.func166, Tryz.ntmps166
  go_upto_region 1 with fail
  rw [HW1.out, ← hH]
  clear hH HW1
  go_wp2_with fail
  refine bodyPost_ret (v := (saidF x).v) (by rw [HC.out]; simp [results, Tryz.results166, go_sem, m0, m1, m2, m3, m4, m5, CcD.v]) rfl ?_
  exact ⟨rfl, by rw [HW.out]; exact HB.out⟩
 have t3 : (x.toList == muW.toList) = false := text_beq_no h4
 rw [muW_list] at t3
 rw [if_neg h0, if_neg h1, if_neg h2, if_neg h4] at hc
 subst hc
 clear h0 h1 h2 h4
 dsimp only [cc0] at m0 m1 m2 m3 m4 m5 HB
 go_enter Tryz.func166, Tryz.ntmps166
 go_upto_region 1 with fail
 rw [HW1.out, ← hH]
 clear hH HW1
 go_wp2_with fail
 refine bodyPost_ret (v := (saidF x).v) (by rw [HC.out]; simp [results, Tryz.results166, go_sem, m0, m1, m2, m3, m4, m5, CcD.v, cc0]) rfl ?_
 exact ⟨rfl, by rw [HW.out]; exact HB.out⟩
end Go.Proofs.YtmcmeeibogkpaaaGreatDoorR
namespace Go.Proofs.YtmcmeeibogkpaaaGreatDoorR
open Go.RowKit
open Go.Lib hiding intOf
theorem pre_age {x : ByteArray} (h : Lib.hasPrefix x.data.toList maW.data.toList = true) : ageOf x = some (numV ⟨(Lib.trimPrefix x.data.toList maW.data.toList).toArray⟩) := by
 unfold ageOf
 have e : (bs x).take 8 = bs maW := by
  have := List.isPrefixOf_iff_prefix.1 h
  obtain ⟨t, ht⟩ := this
  show x.data.toList.take 8 = _
  rw [← ht]
  rfl
 rw [if_pos e]
 unfold Lib.trimPrefix
 rw [if_pos h]
 rfl
theorem pre_none {x : ByteArray} (h : Lib.hasPrefix x.data.toList maW.data.toList = false) : ageOf x = none := by
 unfold ageOf
 rw [if_neg]
 intro e
 have : Lib.hasPrefix x.data.toList maW.data.toList = true := by
  refine List.isPrefixOf_iff_prefix.2 ⟨x.data.toList.drop 8, ?_⟩
  have e' : x.data.toList.take 8 = maW.data.toList := e
  rw [← e', List.take_append_drop]
 rw [this] at h
 cases h
theorem saidBy_any (x : ByteArray) (w : World) (hs : x.size ≤ 4000000) :
  Calls Tryz.prog 153 #[.string x] w fun e w' => e = .returned (saidB x).v ∧ Below w.heap.size w w' := by
 have HR0 : Hid (CcAt (w.alloc (.cells cc0.cs 89)) w.heap.size cc0) := heap_alloc_new w _
 have HB0 : Hid (Below w.heap.size w (w.alloc (.cells cc0.cs 89))) := (Below.refl _ _).alloc (Nat.le_refl _) _
 obtain ⟨W1, hW1⟩ := exq (w.alloc (.cells cc0.cs 89))
 have HW1 : Hid (w.alloc (.cells #[.bool false, .bool false, .bool false, .bool false, .bool false, .int .i64 0] 89) = W1) := hW1.symm
 rw [← hW1] at HR0 HB0
 obtain ⟨H, hH⟩ := exq (w.heap.size)
 have HW : Hid (w.heap.size = H) := hH.symm
 rw [← hH] at HR0 HB0
 clear hW1
 cases hp : Lib.hasPrefix x.data.toList maW.data.toList with
 | true =>
  have HA : Hid _ := pre_age hp
  obtain ⟨t, ht⟩ : ∃ t : ByteArray, t = ⟨(Lib.trimPrefix x.data.toList maW.data.toList).toArray⟩ := ⟨_, rfl⟩
  have hts : t.size ≤ maxLen := by
   rw [ht]
   unfold Lib.trimPrefix maxLen
   rw [if_pos hp]
   show (List.toArray _).size ≤ _
   simp
   omega
  rw [← ht] at HA
  have HT : Hid (⟨(Lib.trimPrefix x.data.toList maW.data.toList).toArray⟩ = t) := ht.symm
  clear ht
  go_enter Tryz.func153, Tryz.ntmps153
  go_wp2_with fail
  rw [HW1.out, ← hH]
  refine (Tryz.strings_CutPrefix x maW _).mono ?_
  rintro e w1 ⟨rfl, rfl⟩
  rw [hp, HT.out]
  clear hp hH HW1
  go_wp2_with fail
  refine (implNumRead_any t _ hts).mono ?_
  rintro e w2 ⟨b, n, rfl, hb1, hb2, hb3, b2⟩
  have HV : Hid (numV t = n) := by
   show _ = _
   unfold numV
   cases b with
   | true => rw [if_pos (hb1.1 rfl), hb2 rfl]
   | false => rw [if_neg (fun h => nomatch hb1.2 h), hb3 rfl]
  obtain ⟨c, hc⟩ : ∃ c : CcD, c = ⟨false, false, false, false, true, n⟩ := ⟨_, rfl⟩
  have HC : Hid (saidB x = c) := by show _ = _; unfold saidB; rw [HA.out, HV.out, hc]
  have hR := HR0.out.same (b2.block _ HR0.out.lt)
  have HB : Hid (Below H w (putCc w2 H c)) := below_putCc (HB0.out.trans (b2.mono (Nat.le_of_lt HR0.out.lt))) (Nat.le_refl _) c
  obtain ⟨r0, r1, r2, r3, r4, r5⟩ := hR.cells
  have f0 := hR.frozen 0
  have f1 := hR.frozen 1
  have f2 := hR.frozen 2
  have f3 := hR.frozen 3
  have f4 := hR.frozen 4
  have f5 := hR.frozen 5
  obtain ⟨m0, m1, m2, m3, m4, m5⟩ := (hR.putAll c).cells
  unfold putCc at m0 m1 m2 m3 m4 m5 HB
  subst hc
  dsimp only at m0 m1 m2 m3 m4 m5 HB
  clear hb1 hb2 hb3 hR b2 HR0 HB0 HA
  go_wp2_with fail
  refine bodyPost_ret (v := CcD.v ⟨false, false, false, false, true, n⟩) (by simp [results, Tryz.results153, go_sem, m0, m1, m2, m3, m4, m5, CcD.v]) rfl ?_
  exact ⟨by rw [HC.out], by rw [HW.out]; exact HB.out⟩
 | false =>
  have HA : Hid (saidB x = saidF x) := by show _ = _; unfold saidB; rw [pre_none hp]
  go_enter Tryz.func153, Tryz.ntmps153
  go_wp2_with fail
  rw [HW1.out, ← hH]
  refine (Tryz.strings_CutPrefix x maW _).mono ?_
  rintro e w1 ⟨rfl, rfl⟩
  rw [hp]
  clear hp hH HW1
  go_wp2_with fail
  refine (saidByFlag_any x _).mono ?_
  rintro e w2 ⟨rfl, b2⟩
  obtain ⟨c, hc⟩ := exq (saidF x)
  rw [← hc] at HA ⊢
  have hR := HR0.out.same (b2.block _ HR0.out.lt)
  have HB : Hid (Below H w (putCc w2 H c)) := below_putCc (HB0.out.trans (b2.mono (Nat.le_of_lt HR0.out.lt))) (Nat.le_refl _) c
  obtain ⟨r0, r1, r2, r3, r4, r5⟩ := hR.cells
  have f0 := hR.frozen 0
  have f1 := hR.frozen 1
  have f2 := hR.frozen 2
  have f3 := hR.frozen 3
  have f4 := hR.frozen 4
  have f5 := hR.frozen 5
  obtain ⟨m0, m1, m2, m3, m4, m5⟩ := (hR.putAll c).cells
  unfold putCc at m0 m1 m2 m3 m4 m5 HB
  clear hc hR b2 HR0 HB0
  unfold CcD.v
  go_wp2_with fail
  refine bodyPost_ret (v := c.v) (by simp [results, Tryz.results153, go_sem, m0, m1, m2, m3, m4, m5, CcD.v]) rfl ?_
  exact ⟨by rw [HA.out], by rw [HW.out]; exact HB.out⟩
/-- While words are read, here. -/
structure CiRd (w : World) (H : Nat) (c : CcD) (v : Value) (l : List ByteArray) (wr : World) : Prop where
 res : CcAt wr H cc0
 cur : CcAt wr (H + 1) c
 row : wr.ownsRow (H + 1 + 1) 9 1 v l.length (l.map Value.string)
 low : Below H w wr
theorem CiRd.later {w : World} {H : Nat} {c : CcD} {v : Value} {l : List ByteArray} {wr w' : World} (h : CiRd w H c v l wr) (hb : Below wr.heap.size wr w') : CiRd w H c v l w' :=
 ⟨h.res.same (hb.block _ h.res.lt), h.cur.same (hb.block _ h.cur.lt), owns_below h.row hb (fun _ hg => owns_lt h.row hg), h.low.trans (hb.mono (Nat.le_of_lt h.res.lt))⟩
theorem CiRd.putCc {w : World} {H : Nat} {c : CcD} {v : Value} {l : List ByteArray} {wr : World} (h : CiRd w H c v l wr) (d : CcD) : CiRd w H d v l (putCc wr (H + 1) d) :=
 ⟨h.res.same (putCc_other (by omega)), h.cur.putAll d, owns_same h.row (fun j hj => putCc_other (by have := (own_ltR h.row hj).1; omega)), below_putCc h.low (by omega) d⟩
theorem implCcRead_any (s : ByteArray) (w : World) (hs : s.size ≤ 1048576) :
  Calls Tryz.prog 134 #[.string s] w fun e w' => e = .returned (ccR s).v ∧ Below w.heap.size w w' := by
 obtain ⟨H, hH⟩ := exq (w.heap.size)
 have HW : Hid (w.heap.size = H) := hH.symm
 obtain ⟨W0, hW0⟩ := exq ((w.alloc (.cells cc0.cs 89)).alloc (.cells cc0.cs 89))
 have HA : Hid (CcAt W0 H cc0 ∧ CcAt W0 (H + 1) cc0 ∧ Below H w W0 ∧ W0.heap.size = H + 1 + 1) := by
  have e1 := heap_alloc_new w (.cells cc0.cs 89)
  have e2 := heap_alloc_new (w.alloc (.cells cc0.cs 89)) (.cells cc0.cs 89)
  rw [World.size_alloc] at e2
  refine ⟨?_, ?_, ?_, ?_⟩
  · unfold CcAt; rw [hW0, hH, heap_alloc_old _ _ (by simp)]; exact e1
  · unfold CcAt; rw [hW0, hH]; exact e2
  · rw [hW0, hH]; exact ((Below.refl _ w).alloc (Nat.le_refl _) _).alloc (by simp) _
  · rw [hW0, hH]; simp
 have HW0 : Hid ((w.alloc (.cells #[.bool false, .bool false, .bool false, .bool false, .bool false, .int .i64 0] 89)).alloc (.cells #[.bool false, .bool false, .bool false, .bool false, .bool false, .int .i64 0] 89) = W0) := hW0.symm
 clear hW0
 go_enter Tryz.func134, Tryz.ntmps134
 go_wp2_with fail
 rw [HW0.out, ← hH]
 clear hH
 refine (implSplit_any s _ hs).mono ?_
 rintro e w0 ⟨v, rfl, hown, bb⟩
 rw [HA.out.2.2.2] at hown bb
 obtain ⟨l, hl⟩ := exq (splitL s)
 rw [← hl] at hown
 have HLS : Hid (splitL s = l) := hl.symm
 have HLB : Hid (∀ x ∈ l, x.size ≤ 1048576) := fun x hx => by rw [hl] at hx; have := (splitL_le s).2 x hx; omega
 have hll : l.length ≤ 1048577 := by rw [hl]; have := (splitL_le s).1; omega
 have HS1 : Hid (CiRd w H (ccTo (l.take 0)) v l w0) := ⟨HA.out.1.same (bb.block _ (by omega)), HA.out.2.1.same (bb.block _ (by omega)), hown, HA.out.2.2.1.trans (bb.mono (by omega))⟩
 obtain ⟨oa, cp, rfl⟩ := slice_of_owns hown
 obtain ⟨n, hn⟩ := exq l.length
 have HN : Hid (l.length = n) := hn.symm
 rw [← hn] at hll HS1 ⊢
 clear hown bb hl hn
 go_wp2_with fail
 go_loopw [9] (fun i wr => ∃ k : Nat, k ≤ n ∧ i = .int .i64 (k : Int) ∧ Hid (CiRd w H (ccTo (l.take k)) (.slice oa n cp) l wr)) (fun i _ => n - (intOf i).toNat)
 case atStart => exact ⟨0, Nat.zero_le _, rfl, HS1⟩
 case round =>
  obtain ⟨k, hk, rfl, HS⟩ := hrel
  by_cases hlt : (k : Int) < (n : Int)
  ·
   have hkl : k < l.length := by have := HN.out; omega
   obtain ⟨g, rfl⟩ : ∃ g, oa = some ⟨g, 0, none⟩ := by
    rcases HS.out.row.2 with ⟨e, _⟩ | ⟨g, _, _, e, _⟩
    · injection e with _ e2 _; omega
    · injection e with e1 _ _; exact ⟨g, e1⟩
   obtain ⟨x, hx⟩ := exq (l[k]'hkl)
   have hc0 : wr.cell? ⟨g, k, none⟩ = some (.string x) := by
    have hr := HS.out.row
    rw [HN.out] at hr
    exact (owns_cellC hr k (.string x) (by rw [List.getElem?_map, List.getElem?_eq_getElem hkl, hx]; rfl)).1
   have hxs : x.size ≤ 1048576 := by rw [hx]; exact HLB.out _ (List.getElem_mem hkl)
   obtain ⟨y, hy⟩ := exq (lowerOf x)
   have hys : y.size ≤ 4000000 := by rw [hy, ccLow_size]; omega
   have HY : Hid (lowerOf x = y) := hy.symm
   obtain ⟨d, hd⟩ := exq (ccTo (l.take (k + 1)))
   obtain ⟨c, hc⟩ := exq (ccTo (l.take k))
   obtain ⟨u, hu⟩ := exq (saidB y)
   have HSB : Hid (saidB y = u) := hu.symm
   have HTD : Hid (toge c u = d) := by
    show _ = _
    rw [hd, List.take_succ_eq_append_getElem hkl, ccTo_snoc, ← hx, ← hy, step_toge (ccTo_fit _), hc, hu]
   have HTG : Hid (∀ W, Calls Tryz.prog 152 #[.agg #[.bool c.ns, .bool c.nc, .bool c.pr, .bool c.mu, .bool c.ha, .int .i64 c.age], .agg #[.bool u.ns, .bool u.nc, .bool u.pr, .bool u.mu, .bool u.ha, .int .i64 u.age]] W fun e w' => e = .returned (toge c u).v ∧ Below W.heap.size W w') := fun W => together_any c u W
   have HD : Hid (∀ W, CiRd w H d (.slice (some ⟨g, 0, none⟩) n cp) l W → CiRd w H (ccTo (l.take (k + 1))) (.slice (some ⟨g, 0, none⟩) n cp) l W) := fun W h => by rw [← hd]; exact h
   rw [← hc] at HS
   clear hx hy hkl hc hd hu
   have HT1 : Hid (CiRd w H c (.slice (some ⟨g, 0, none⟩) n cp) l wr.drew) := HS.out.later (Below.refl _ _).drew
   go_upto_region 5 with fail
   clear hc0 HS
   refine wp_region_held_drew (S := fun _ => True) (by kernel_rfl) trivial (fun _ => ?_)
   refine wpAnyH_takeD (i := 1) (v := .string x) (some 14) rfl rfl (by kernel_rfl) (by kernel_rfl) (by kernel_rfl) (fun _ _ _ h => h) (Or.inl ⟨by rfl, by intro W _; go_simp⟩) trivial ?_
   go_frame
   refine wpAnyH_ready (rs := [0, 2]) (by kernel_rfl) (by simp) ?_
   refine AllReadyH.cons rfl (fun K hK => ?_) (AllReadyH.cons rfl (fun K hK => ?_) AllReadyH.nil)
   ·
    obtain ⟨q0, q1, q2, q3, q4, q5⟩ := HT1.out.cur.cells
    go_simp
    refine hK.out _ _ trivial (fun _ => ?_)
    clear hK K q0 q1 q2 q3 q4 q5
    refine rd1 2 rfl (fun K hK => ?_)
    go_simp
    refine (implLower_any x _).mono ?_
    rintro e w2 ⟨rfl, hb2⟩
    rw [HY.out]
    have HT2 : Hid (CiRd w H c (.slice (some ⟨g, 0, none⟩) n cp) l w2) := HT1.out.later hb2
    clear hb2
    refine hK.out _ _ trivial (fun _ => ?_)
    clear hK K HT1
    refine rd1 3 rfl (fun K hK => ?_)
    go_simp
    refine (saidBy_any y _ hys).mono ?_
    rintro e w3 ⟨rfl, hb3⟩
    rw [HSB.out]
    unfold CcD.v
    have HT3 : Hid (CiRd w H c (.slice (some ⟨g, 0, none⟩) n cp) l w3) := HT2.out.later hb3
    clear hb3
    refine hK.out _ _ trivial (fun _ => ?_)
    clear hK K HT2
    refine rd1 4 rfl (fun K hK => ?_)
    go_simp
    refine (HTG.out _).mono ?_
    rintro e w4 ⟨rfl, hb4⟩
    rw [HTD.out]
    unfold CcD.v
    have HT4 : Hid (CiRd w H c (.slice (some ⟨g, 0, none⟩) n cp) l w4) := HT3.out.later hb4
    clear hb4
    refine hK.out _ _ trivial (fun _ => ?_)
    clear hK K HT3
    refine rd1 5 rfl (fun K hK => ?_)
    have HZ : Hid (CiRd w H d (.slice (some ⟨g, 0, none⟩) n cp) l (putCc w4 (H + 1) d)) := HT4.out.putCc d
    obtain ⟨q0, q1, q2, q3, q4, q5⟩ := HT4.out.cur.cells
    have f0 := HT4.out.cur.frozen 0
    have f1 := HT4.out.cur.frozen 1
    have f2 := HT4.out.cur.frozen 2
    have f3 := HT4.out.cur.frozen 3
    have f4 := HT4.out.cur.frozen 4
    have f5 := HT4.out.cur.frozen 5
    unfold putCc at HZ
    clear HT4
    go_simp
    refine hK.out _ _ trivial (fun _ => ?_)
    clear hK K q0 q1 q2 q3 q4 q5 f0 f1 f2 f3 f4 f5
    refine wpAnyH_done (by kernel_rfl) ?_ _
    go_wp2_with fail
    go_roundw
    case rel => exact ⟨k + 1, by omega, by go_num, HD.out _ HZ.out⟩
    case measure => simp [intOf]; omega
   ·
    go_simp
    refine (implLower_any x _).mono ?_
    rintro e w2 ⟨rfl, hb2⟩
    rw [HY.out]
    have HT2 : Hid (CiRd w H c (.slice (some ⟨g, 0, none⟩) n cp) l w2) := HT1.out.later hb2
    clear hb2
    refine hK.out _ _ trivial (fun _ => ?_)
    clear hK K HT1
    refine wpAnyH_ready (rs := [0, 3]) (by kernel_rfl) (by simp) ?_
    refine AllReadyH.cons rfl (fun K hK => ?_) (AllReadyH.cons rfl (fun K hK => ?_) AllReadyH.nil)
    ·
     obtain ⟨q0, q1, q2, q3, q4, q5⟩ := HT2.out.cur.cells
     go_simp
     refine hK.out _ _ trivial (fun _ => ?_)
     clear hK K q0 q1 q2 q3 q4 q5
     refine rd1 3 rfl (fun K hK => ?_)
     go_simp
     refine (saidBy_any y _ hys).mono ?_
     rintro e w3 ⟨rfl, hb3⟩
     rw [HSB.out]
     unfold CcD.v
     have HT3 : Hid (CiRd w H c (.slice (some ⟨g, 0, none⟩) n cp) l w3) := HT2.out.later hb3
     clear hb3
     refine hK.out _ _ trivial (fun _ => ?_)
     clear hK K HT2
     refine rd1 4 rfl (fun K hK => ?_)
     go_simp
     refine (HTG.out _).mono ?_
     rintro e w4 ⟨rfl, hb4⟩
     rw [HTD.out]
     unfold CcD.v
     have HT4 : Hid (CiRd w H c (.slice (some ⟨g, 0, none⟩) n cp) l w4) := HT3.out.later hb4
     clear hb4
     refine hK.out _ _ trivial (fun _ => ?_)
     clear hK K HT3
     refine rd1 5 rfl (fun K hK => ?_)
     have HZ : Hid (CiRd w H d (.slice (some ⟨g, 0, none⟩) n cp) l (putCc w4 (H + 1) d)) := HT4.out.putCc d
     obtain ⟨q0, q1, q2, q3, q4, q5⟩ := HT4.out.cur.cells
     have f0 := HT4.out.cur.frozen 0
     have f1 := HT4.out.cur.frozen 1
     have f2 := HT4.out.cur.frozen 2
     have f3 := HT4.out.cur.frozen 3
     have f4 := HT4.out.cur.frozen 4
     have f5 := HT4.out.cur.frozen 5
     unfold putCc at HZ
     clear HT4
     go_simp
     refine hK.out _ _ trivial (fun _ => ?_)
     clear hK K q0 q1 q2 q3 q4 q5 f0 f1 f2 f3 f4 f5
     refine wpAnyH_done (by kernel_rfl) ?_ _
     go_wp2_with fail
     go_roundw
     case rel => exact ⟨k + 1, by omega, by go_num, HD.out _ HZ.out⟩
     case measure => simp [intOf]; omega
    ·
     go_simp
     refine (saidBy_any y _ hys).mono ?_
     rintro e w3 ⟨rfl, hb3⟩
     rw [HSB.out]
     unfold CcD.v
     have HT3 : Hid (CiRd w H c (.slice (some ⟨g, 0, none⟩) n cp) l w3) := HT2.out.later hb3
     clear hb3
     refine hK.out _ _ trivial (fun _ => ?_)
     clear hK K HT2
     refine rd1 0 rfl (fun K hK => ?_)
     obtain ⟨q0, q1, q2, q3, q4, q5⟩ := HT3.out.cur.cells
     go_simp
     refine hK.out _ _ trivial (fun _ => ?_)
     clear hK K q0 q1 q2 q3 q4 q5
     refine rd1 4 rfl (fun K hK => ?_)
     go_simp
     refine (HTG.out _).mono ?_
     rintro e w4 ⟨rfl, hb4⟩
     rw [HTD.out]
     unfold CcD.v
     have HT4 : Hid (CiRd w H c (.slice (some ⟨g, 0, none⟩) n cp) l w4) := HT3.out.later hb4
     clear hb4
     refine hK.out _ _ trivial (fun _ => ?_)
     clear hK K HT3
     refine rd1 5 rfl (fun K hK => ?_)
     have HZ : Hid (CiRd w H d (.slice (some ⟨g, 0, none⟩) n cp) l (putCc w4 (H + 1) d)) := HT4.out.putCc d
     obtain ⟨q0, q1, q2, q3, q4, q5⟩ := HT4.out.cur.cells
     have f0 := HT4.out.cur.frozen 0
     have f1 := HT4.out.cur.frozen 1
     have f2 := HT4.out.cur.frozen 2
     have f3 := HT4.out.cur.frozen 3
     have f4 := HT4.out.cur.frozen 4
     have f5 := HT4.out.cur.frozen 5
     unfold putCc at HZ
     clear HT4
     go_simp
     refine hK.out _ _ trivial (fun _ => ?_)
     clear hK K q0 q1 q2 q3 q4 q5 f0 f1 f2 f3 f4 f5
     refine wpAnyH_done (by kernel_rfl) ?_ _
     go_wp2_with fail
     go_roundw
     case rel => exact ⟨k + 1, by omega, by go_num, HD.out _ HZ.out⟩
     case measure => simp [intOf]; omega
  ·
   obtain rfl : k = n := by omega
   have HE : Hid (ccTo (l.take k) = ccR s) := by
    show _ = _
    rw [List.take_of_length_le (by rw [HN.out]; exact Nat.le_refl _)]
    unfold ccR
    rw [HLS.out]
   rw [HE.out] at HS
   obtain ⟨c, hc⟩ := exq (ccR s)
   rw [← hc] at HS
   have HC : Hid (c = ccR s) := hc
   obtain ⟨q0, q1, q2, q3, q4, q5⟩ := HS.out.cur.cells
   obtain ⟨r0, r1, r2, r3, r4, r5⟩ := HS.out.res.cells
   have f0 := HS.out.res.frozen 0
   have f1 := HS.out.res.frozen 1
   have f2 := HS.out.res.frozen 2
   have f3 := HS.out.res.frozen 3
   have f4 := HS.out.res.frozen 4
   have f5 := HS.out.res.frozen 5
   obtain ⟨m0, m1, m2, m3, m4, m5⟩ := (HS.out.res.putAll c).cells
   have HB : Hid (Below H w (putCc wr H c)) := below_putCc HS.out.low (Nat.le_refl _) c
   clear hc HE
   unfold putCc at m0 m1 m2 m3 m4 m5 HB
   go_wp2_with fail
   refine bodyPost_ret (v := c.v) (by simp [results, Tryz.results134, go_sem, m0, m1, m2, m3, m4, m5, CcD.v]) rfl ?_
   exact ⟨by rw [HC.out], by rw [HW.out]; exact HB.out⟩
theorem implCcOf_any (v : Value) (n base : Nat) (fs : List (ByteArray × ByteArray)) (w : World) (hv : FieldsV w base v n fs) (hn : n ≤ 1073741824) (hcp : CopyF fs) (hsz : (getV fs ccName).size ≤ 1048576) :
  Calls Tryz.prog 102 #[v] w fun e w' => e = .returned (ccR (getV fs ccName)).v ∧ Below w.heap.size w w' := by
 have hv1 : FieldsV (w.alloc (.cells cc0.cs 89)) base v n fs := hv.below ((Below.refl _ _).alloc (Nat.le_refl _) _)
 have HR0 : Hid (CcAt (w.alloc (.cells cc0.cs 89)) w.heap.size cc0) := heap_alloc_new w _
 have HB0 : Hid (Below w.heap.size w (w.alloc (.cells cc0.cs 89))) := (Below.refl _ _).alloc (Nat.le_refl _) _
 obtain ⟨t, ht⟩ := exq (getV fs ccName)
 have HT : Hid (getV fs ccName = t) := ht.symm
 rw [← ht] at hsz
 obtain ⟨c, hc⟩ := exq (ccR t)
 have HC : Hid (ccR t = c) := hc.symm
 rw [← ht, ← hc]
 clear ht hc hv
 go_enter Tryz.func102, Tryz.ntmps102
 go_wp2_with fail
 refine (implGet_any v n base fs ccName _ hv1 hn hcp).mono ?_
 rintro e w1 ⟨rfl, b1⟩
 rw [HT.out]
 have HR1 : Hid (CcAt w1 w.heap.size cc0) := HR0.out.same (b1.block _ HR0.out.lt)
 have HB1 : Hid (Below w.heap.size w w1) := HB0.out.trans (b1.mono (Nat.le_of_lt HR0.out.lt))
 clear hv1 b1 HR0 HB0
 go_wp2_with fail
 refine (implCcRead_any t _ hsz).mono ?_
 rintro e w2 ⟨rfl, b2⟩
 rw [HC.out]
 have hR := HR1.out.same (b2.block _ HR1.out.lt)
 obtain ⟨r0, r1, r2, r3, r4, r5⟩ := hR.cells
 have f0 := hR.frozen 0
 have f1 := hR.frozen 1
 have f2 := hR.frozen 2
 have f3 := hR.frozen 3
 have f4 := hR.frozen 4
 have f5 := hR.frozen 5
 obtain ⟨m0, m1, m2, m3, m4, m5⟩ := (hR.putAll c).cells
 have HB : Hid (Below w.heap.size w (putCc w2 w.heap.size c)) := below_putCc (HB1.out.trans (b2.mono (Nat.le_of_lt HR1.out.lt))) (Nat.le_refl _) c
 unfold putCc at m0 m1 m2 m3 m4 m5 HB
 clear hR b2 HR1 HB1
 unfold CcD.v
 go_wp2_with fail
 refine bodyPost_ret (v := c.v) (by simp [results, Tryz.results102, go_sem, m0, m1, m2, m3, m4, m5, CcD.v]) rfl ?_
 exact ⟨rfl, HB.out⟩
end Go.Proofs.YtmcmeeibogkpaaaGreatDoorR
namespace Go.Proofs.YtmcmeeibogkpaaaGreatDoorR
open Go.RowKit
open Go.Lib hiding intOf
theorem withinTime_any (n : Int) (w : World) :
  Calls Tryz.prog 113 #[.int .i64 n] w fun e w' => e = .returned (.int .i64 (min (max n 0) 1000000)) ∧ w' = w := by
 go_enter Tryz.func113, Tryz.ntmps113
 go_wp2
 go_ret
 exact ⟨rfl, rfl⟩
theorem implPlus_any (a b : Int) (w : World) :
  Calls Tryz.prog 69 #[.int .i64 a, .int .i64 b] w fun e w' => e = .returned (.int .i64 (plusI a b)) ∧ w' = w := by
 have u1 : 0 ≤ min (max a 0) 1000000 ∧ min (max a 0) 1000000 ≤ 1000000 := by omega
 have u2 : 0 ≤ min (max b 0) 1000000 ∧ min (max b 0) 1000000 ≤ 1000000 := by omega
 have HP : Hid (plusI a b = min (min (max a 0) 1000000 + min (max b 0) 1000000) 1000000) := rfl
 obtain ⟨x, hx⟩ := exq (min (max a 0) 1000000)
 obtain ⟨y, hy⟩ := exq (min (max b 0) 1000000)
 rw [← hx, ← hy] at HP
 rw [← hx] at u1
 rw [← hy] at u2
 have HX : Hid (min (max a 0) 1000000 = x) := hx.symm
 have HY : Hid (min (max b 0) 1000000 = y) := hy.symm
 clear hx hy
 go_enter Tryz.func69, Tryz.ntmps69
 go_wp2_with fail
 refine (withinTime_any _ _).mono ?_
 rintro e w1 ⟨rfl, rfl⟩
 rw [HX.out]
 go_wp2_with fail
 refine (withinTime_any _ _).mono ?_
 rintro e w2 ⟨rfl, rfl⟩
 rw [HY.out]
 go_wp2_with fail
 refine (withinTime_any _ _).mono ?_
 rintro e w3 ⟨rfl, rfl⟩
 go_wp2_with fail
 go_ret
 exact ⟨by rw [HP.out, Int.max_eq_left (by omega : (0 : Int) ≤ x + y)]; rfl, rfl⟩
theorem wrapU (n : Int) : IntKind.u64.wrap n = n % 18446744073709551616 := by simp [IntKind.wrap, IntKind.signed, IntKind.bits]
/-- The clock that clockFrom hands back, at a time. -/
theorem clock_any (b : Nat) (t now : Int) (w : World) (h0 : -9223372036854775808 ≤ t) (h1 : now ≤ 9223372036854775807) (hc : w.cell? ⟨b, 0, none⟩ = some (.int .i64 t)) :
  Calls Tryz.prog 112 #[.int .i64 now, .pointer (some ⟨b, 0, none⟩)] w fun e w' => e = .returned (.int .i64 (sinceI t now)) ∧ w' = w := by
 by_cases hle : now ≤ t
 ·
  have HE : Hid (sinceI t now = 0) := by show _ = _; unfold sinceI; rw [if_pos hle]
  go_enter Tryz.func112, Tryz.ntmps112
  go_wp2
  go_ret
  exact ⟨by rw [HE.out]; rfl, rfl⟩
 ·
  have HE : Hid (sinceI t now = wrap64 (min (IntKind.u64.wrap (IntKind.u64.wrap now - IntKind.u64.wrap t)) 1000000)) := by
   show _ = _
   unfold sinceI
   rw [if_neg hle]
   rw [wrapU, wrapU, wrapU]
   unfold wrap64
   omega
  go_enter Tryz.func112, Tryz.ntmps112
  go_wp2
  go_ret
  exact ⟨by rw [HE.out]; rfl, rfl⟩
theorem clockFrom_any (t : Int) (w : World) :
  Calls Tryz.prog 68 #[.int .i64 t] w fun e w' => e = .returned (.func (.func 112) #[] #[.pointer (some ⟨w.heap.size, 0, none⟩)]) ∧ w' = w.alloc (.cells #[.int .i64 t] 3) := by
 have hmf : ∀ (fn : Fn) (first cap : Array Value) (w : World), (Instr.makeFunc fn first cap).run Tryz.prog w = .ok (.func fn first cap) w := fun _ _ _ _ => rfl
 go_enter Tryz.func68, Tryz.ntmps68
 go_wp2
 go_ret
 exact ⟨rfl, rfl⟩
theorem numV_none (fs : List (ByteArray × ByteArray)) (name : ByteArray) (h : getB fs name = false) : numV (getV fs name) = 0 := by
 unfold getB at h
 unfold getV numV
 rw [if_neg (of_decide_eq_false h)]
 exact if_neg (fun hk => absurd hk.1 (by decide))
theorem statedAge_any (v : Value) (n base : Nat) (fs : List (ByteArray × ByteArray)) (w : World) (hv : FieldsV w base v n fs) (hn : n ≤ 1073741824) (hcp : CopyF fs) (hsz : (getV fs ageName).size ≤ maxLen) :
  Calls Tryz.prog 70 #[v] w fun e w' => e = .returned (.int .i64 (ageN fs)) ∧ Below w.heap.size w w' := by
 have HN : Hid (getB fs ageName = false → numV (getV fs ageName) = 0) := numV_none fs ageName
 obtain ⟨s, hs⟩ := exq (getV fs ageName)
 obtain ⟨th, hth⟩ := exq (getB fs ageName)
 have HS : Hid (getV fs ageName = s) := hs.symm
 have HT : Hid (getB fs ageName = th) := hth.symm
 rw [← hs] at hsz
 clear hs hth
 go_enter Tryz.func70, Tryz.ntmps70
 go_wp2_with fail
 refine (implGet_any v n base fs ageName _ hv hn hcp).mono ?_
 rintro e w1 ⟨rfl, b1⟩
 rw [HS.out, HT.out]
 clear hv
 cases th with
 | false =>
  have HE : Hid (ageN fs = 0) := by
   show _ = _
   unfold ageN
   rw [if_neg (fun h => absurd (HT.out.symm.trans h.1) (by decide))]
   exact HN.out HT.out
  go_wp2_with fail
  go_ret
  exact ⟨by rw [HE.out]; rfl, b1⟩
 | true =>
  go_wp2_with fail
  refine (implNumRead_any s _ hsz).mono ?_
  rintro e w2 ⟨b, x, rfl, hb1, hb2, hb3, b2⟩
  have HB : Hid (Below w.heap.size w w2) := b1.trans (b2.mono b1.size)
  cases b with
  | true =>
   have HE : Hid (ageN fs = x) := by
    show _ = _
    unfold ageN
    rw [HS.out, if_neg (fun h => h.2 (hb1.1 rfl))]
    unfold numV
    rw [if_pos (hb1.1 rfl), hb2 rfl]
   clear hb1 hb2 hb3 b2 b1
   go_wp2_with fail
   go_ret
   exact ⟨by rw [HE.out]; rfl, HB.out⟩
  | false =>
   have HE : Hid (ageN fs = 1000000) := by
    show _ = _
    unfold ageN
    rw [HS.out, if_pos ⟨HT.out, fun h => nomatch hb1.2 h⟩]
   clear hb1 hb2 hb3 b2 b1
   go_wp2_with fail
   go_ret
   exact ⟨by rw [HE.out]; rfl, HB.out⟩
theorem implAgeAt_any (v : Value) (n base : Nat) (fs : List (ByteArray × ByteArray)) (t now : Int) (w : World) (hv : FieldsV w base v n fs) (hn : n ≤ 1073741824) (hcp : CopyF fs) (hsz : (getV fs ageName).size ≤ maxLen) (h0 : -9223372036854775808 ≤ t) (h1 : now ≤ 9223372036854775807) :
  Calls Tryz.prog 18 #[v, .int .i64 t, .int .i64 now] w fun e w' => e = .returned (.int .i64 (ageAt fs t now)) ∧ Below w.heap.size w w' := by
 have HE : Hid (ageAt fs t now = plusI (ageN fs) (sinceI t now)) := rfl
 have b0 : Below w.heap.size w (w.alloc (.cells #[.int .i64 t] 3)) := (Below.refl _ w).alloc (Nat.le_refl _) _
 have hc : (w.alloc (.cells #[.int .i64 t] 3)).cell? ⟨w.heap.size, 0, none⟩ = some (.int .i64 t) := by simp [go_sem]
 have hz : w.heap.size < (w.alloc (.cells #[.int .i64 t] 3)).heap.size := by simp
 have HV : Hid (FieldsV (w.alloc (.cells #[.int .i64 t] 3)) base v n fs) := hv.below b0
 have HC : Hid (∀ w1, Below (w.alloc (.cells #[.int .i64 t] 3)).heap.size (w.alloc (.cells #[.int .i64 t] 3)) w1 → w1.cell? ⟨w.heap.size, 0, none⟩ = some (.int .i64 t) ∧ Below w.heap.size w w1) := fun w1 hb => ⟨(hb.cell hz).trans hc, b0.trans (hb.mono b0.size)⟩
 clear b0 hc hz hv
 go_enter Tryz.func18, Tryz.ntmps18
 go_wp2_with fail
 refine (clockFrom_any t _).mono ?_
 rintro e w1 ⟨rfl, rfl⟩
 go_wp2_with fail
 refine (statedAge_any v n base fs _ HV.out hn hcp hsz).mono ?_
 rintro e w2 ⟨rfl, b2⟩
 obtain ⟨hc, hb⟩ := HC.out w2 b2
 have HB : Hid (Below w.heap.size w w2) := hb
 have HC2 : Hid (w2.cell? ⟨w.heap.size, 0, none⟩ = some (.int .i64 t)) := hc
 obtain ⟨x, hx⟩ := exq (ageN fs)
 rw [← hx] at HE ⊢
 clear hb hc b2 hx HV HC
 go_wp2_with fail
 refine (clock_any _ t now _ h0 h1 HC2.out).mono ?_
 rintro e w3 ⟨rfl, rfl⟩
 go_wp2_with fail
 refine (implPlus_any _ _ _).mono ?_
 rintro e w4 ⟨rfl, rfl⟩
 go_wp2_with fail
 go_ret
 exact ⟨by rw [HE.out]; rfl, HB.out⟩
end Go.Proofs.YtmcmeeibogkpaaaGreatDoorR
