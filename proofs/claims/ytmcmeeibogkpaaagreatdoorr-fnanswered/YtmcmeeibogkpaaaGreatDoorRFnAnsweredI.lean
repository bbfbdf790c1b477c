/- What the proof of FnAnswered leans on: contracts of the program's and the specification's functions, and plain facts (part 9 of 9). -/
import Derived.Test.YtmcmeeibogkpaaaGreatDoorRFnAnsweredH
set_option maxHeartbeats 16000000
set_option maxRecDepth 100000
namespace Go.Proofs.YtmcmeeibogkpaaaGreatDoorR
open Go.RowKit
open Go.Lib hiding intOf
theorem implAnswer_any (ma : Int) (pa : ByteArray) (va : Value) (ba : ByteArray) (na basea : Nat) (fsa : List (ByteArray × ByteArray)) (op : ByteArray) (o1 o2 : Option Addr) (n1 c1 n2 c2 : Nat) (st : Int) (u : Value) (d : ByteArray) (t : Int) (k baseo : Nat) (gs : List (ByteArray × ByteArray)) (now : Int) (w : World) (hva : FieldsV w basea va na fsa) (hna : na ≤ 1048576) (hsa : WalkF na fsa) (hpa : pa.size ≤ maxLen) (hba : ba.size ≤ maxLen) (hga : ∀ x, (getV fsa x).size ≤ 1048576) (hca : CopyF fsa) (hu : FieldsV w baseo u k gs) (hk : k ≤ 1048576) (hso : WalkF k gs) (hd : d.size ≤ maxLen) (hgo : ∀ x, (getV gs x).size ≤ 1048576) (ht : -9223372036854775808 ≤ t) (hnow : now ≤ 9223372036854775807) (hco : CopyF gs) (hdz : d.size ≤ 281474976710656) (htab : TabOk w) :
  Calls Tryz.prog 7 #[.agg #[.int .i64 ma, .string pa, va, .string ba], .agg #[.string op, .slice o1 n1 c1, .slice o2 n2 c2, .int .i64 st, u, .string d, .int .i64 t], .int .i64 now] w fun e w' => RespRow (ansS fsa gs st) (ansF fsa gs st d t now) (ansB fsa gs d) w e w' := by
 obtain ⟨oa, ca, hsl, _⟩ := hva.slice
 subst hsl
 have HVa : Hid (∀ W, Below w.heap.size w W → FieldsV W basea (.slice oa na ca) na fsa) := fun W h => hva.below h
 have HLFa : Hid (fsa.length = na) := hva.len
 have HSa : Hid (WalkF na fsa) := hsa
 have HPMa : Hid (pa.size ≤ maxLen) := hpa
 have HBMa : Hid (ba.size ≤ maxLen) := hba
 have HQVa : Hid (∀ x, (getV fsa x).size ≤ 1048576) := hga
 have HCa : Hid (CopyF fsa) := hca
 clear hva hsa hpa hba hga hca
 obtain ⟨o3, c3, hsl, _⟩ := hu.slice
 subst hsl
 have HVo : Hid (∀ W, Below w.heap.size w W → FieldsV W baseo (.slice o3 k c3) k gs) := fun W h => hu.below h
 have HLo : Hid (gs.length = k) := hu.len
 have HSo : Hid (WalkF k gs) := hso
 have HDM : Hid (d.size ≤ maxLen) := hd
 have HGo : Hid (∀ x, (getV gs x).size ≤ 1048576) := hgo
 have HTN : Hid (-9223372036854775808 ≤ t ∧ now ≤ 9223372036854775807) := ⟨ht, hnow⟩
 have HCo : Hid (CopyF gs) := hco
 have HDZ : Hid (d.size ≤ 281474976710656) := hdz
 have HT : Hid (∀ W, Below w.heap.size w W → TabOk W) := fun W h => htab.below h
 clear hco hdz htab
 clear hu hso hd hgo ht hnow
 obtain ⟨sg, hsg⟩ := exq (shortF gs)
 have HSG : Hid (shortF gs = sg) := hsg.symm
 have HSL : Hid (sg.length ≤ k) := by show _ ≤ _; rw [hsg, ← HLo.out]; exact shortF_le gs
 have bsl : sg.length ≤ 1048576 := by have := HSL.out; omega
 have HSW : Hid (WalkF sg.length sg) := by show WalkF _ _; rw [hsg]; exact walk_short HLo.out HSo.out
 have HSC : Hid (CopyF sg) := by show CopyF _; rw [hsg]; exact copy_short HCo.out
 clear hsg
 obtain ⟨ag, hag⟩ := exq (ageAt gs t now)
 have HAG : Hid (ageAt gs t now = ag) := hag.symm
 have HAB : Hid (0 ≤ ag ∧ ag ≤ 1000000) := by show _ ∧ _; rw [hag]; exact ageAt_in gs t now
 have hab0 : -9223372036854775808 ≤ ag := by have := HAB.out.1; omega
 have hab1 : ag ≤ 9223372036854775807 := by have := HAB.out.2; omega
 clear hag
 obtain ⟨tx, htx⟩ := exq (numTextI ag)
 have HTX : Hid (numTextI ag = tx) := htx.symm
 have HAT : Hid (ageT gs t now = tx) := by show _ = _; rw [htx, ← HAG.out]; rfl
 have HTZ : Hid (tx.size ≤ 8) := by show _ ≤ _; rw [← HAT.out]; exact ageT_size gs t now
 clear htx
 have hb0 : Below w.heap.size w w := Below.refl _ _
 go_enter Tryz.func7, Tryz.ntmps7
 go_upto_region 1 with fail
 obtain ⟨qv1, hqv1⟩ := exq ((w).heap.size)
 obtain ⟨w1, hW1⟩ := exq ((w).alloc (.cells #[.int .i64 ma, .string pa, .slice oa na ca, .string ba] 26))
 have hz1 : (w).heap.size = qv1 := hqv1.symm
 first | rw [← hW1, ← hqv1] | rw [← hW1]
 have hs1 := hsa hW1 hz1
 have bw := bal hW1
 have hb1 := hbt hb0 bw
 have HBv1_1 := hnew hW1 hz1
 clear hb0 bw hW1 hz1
 obtain ⟨qv2, hqv2⟩ := exq (qv1 + 1)
 obtain ⟨w2, hW2⟩ := exq ((w1).alloc (.cells #[.string op, .slice o1 n1 c1, .slice o2 n2 c2, .int .i64 st, .slice o3 k c3, .string d, .int .i64 t] 31))
 have hz2 : (w1).heap.size = qv2 := by rw [hqv2]; exact hs1
 first | rw [← hW2, ← hqv2] | rw [← hW2]
 have hs2 := hsa hW2 hz2
 have bw := bal hW2
 have hb2 := hbt hb1 bw
 have HBv1_2 := hblk HBv1_1 bw
 have HBv2_2 := hnew hW2 hz2
 clear hb1 HBv1_1 bw hW2 hz2
 obtain ⟨qv3, hqv3⟩ := exq (qv2 + 1)
 obtain ⟨w3, hW3⟩ := exq ((w2).alloc (.cells #[.int .i64 0, .slice none 0 0, .string ⟨#[]⟩] 29))
 have hz3 : (w2).heap.size = qv3 := by rw [hqv3]; exact hs2
 first | rw [← hW3, ← hqv3] | rw [← hW3]
 have hs3 := hsa hW3 hz3
 have bw := bal hW3
 have hb3 := hbt hb2 bw
 have HBv1_3 := hblk HBv1_2 bw
 have HBv2_3 := hblk HBv2_2 bw
 have HNv1v3 : Hid (qv1 ≠ qv3) := fun e => by have h1 := (Array.getElem?_eq_some_iff.1 HBv1_2.out).1; omega
 have HNv2v3 : Hid (qv2 ≠ qv3) := fun e => by have h1 := (Array.getElem?_eq_some_iff.1 HBv2_2.out).1; omega
 have HBv3_3 := hnew hW3 hz3
 have HGv3 := hge hz3 hb2
 clear hb2 HBv1_2 HBv2_2 bw hW3 hz3
 clear hs3 hqv3 hs2 hqv2 hs1 hqv1
 have cv2_3 := (k7c HBv2_3).2.2.2.1
 have Acv2_3 : ∀ o, ((w3).alloc o).cell? ⟨qv2, 3, none⟩ = some (.int .i64 st) := fun o => (cell_of (blk_below HBv2_3.out ((Below.refl _ _).alloc (Nat.le_refl _) o)) 3).trans rfl
 have Afcv2_3 : ∀ o, ((w3).alloc o).frozen? ⟨qv2, 3, none⟩ = false := fun o => frozen_of (blk_below HBv2_3.out ((Below.refl _ _).alloc (Nat.le_refl _) o)) 3
 have cv2_4 := (k7c HBv2_3).2.2.2.2.1
 have Acv2_4 : ∀ o, ((w3).alloc o).cell? ⟨qv2, 4, none⟩ = some (.slice o3 k c3) := fun o => (cell_of (blk_below HBv2_3.out ((Below.refl _ _).alloc (Nat.le_refl _) o)) 4).trans rfl
 have Afcv2_4 : ∀ o, ((w3).alloc o).frozen? ⟨qv2, 4, none⟩ = false := fun o => frozen_of (blk_below HBv2_3.out ((Below.refl _ _).alloc (Nat.le_refl _) o)) 4
 have cv2_5 := (k7c HBv2_3).2.2.2.2.2.1
 have Acv2_5 : ∀ o, ((w3).alloc o).cell? ⟨qv2, 5, none⟩ = some (.string d) := fun o => (cell_of (blk_below HBv2_3.out ((Below.refl _ _).alloc (Nat.le_refl _) o)) 5).trans rfl
 have Afcv2_5 : ∀ o, ((w3).alloc o).frozen? ⟨qv2, 5, none⟩ = false := fun o => frozen_of (blk_below HBv2_3.out ((Below.refl _ _).alloc (Nat.le_refl _) o)) 5
 go_upto_region 2 with fail
 obtain ⟨qv4, hqv4⟩ := exq ((w3).heap.size)
 obtain ⟨w4, hW4⟩ := exq ((w3).alloc (.cells #[.int .i64 st, .slice o3 k c3, .string d] 29))
 have hz4 : (w3).heap.size = qv4 := hqv4.symm
 first | rw [← hW4, ← hqv4] | rw [← hW4]
 have hs4 := hsa hW4 hz4
 have bw := bal hW4
 have hb4 := hbt hb3 bw
 have HBv1_4 := hblk HBv1_3 bw
 have HBv2_4 := hblk HBv2_3 bw
 have HBv3_4 := hblk HBv3_3 bw
 have HNv1v4 : Hid (qv1 ≠ qv4) := fun e => by have h1 := (Array.getElem?_eq_some_iff.1 HBv1_3.out).1; omega
 have HNv2v4 : Hid (qv2 ≠ qv4) := fun e => by have h1 := (Array.getElem?_eq_some_iff.1 HBv2_3.out).1; omega
 have HNv3v4 : Hid (qv3 ≠ qv4) := fun e => by have h1 := (Array.getElem?_eq_some_iff.1 HBv3_3.out).1; omega
 have HBv4_4 := hnew hW4 hz4
 have HGv4 := hge hz4 hb3
 clear hb3 HBv1_3 HBv2_3 HBv3_3 bw hW4 hz4
 clear hs4 hqv4
 clear cv2_3 Acv2_3 Afcv2_3 cv2_4 Acv2_4 Afcv2_4 cv2_5 Acv2_5 Afcv2_5
 have cv1_0 := (k4c HBv1_4).1
 have cv1_1 := (k4c HBv1_4).2.1
 have cv1_2 := (k4c HBv1_4).2.2.1
 have cv1_3 := (k4c HBv1_4).2.2.2
 have cv4_1 := (k3c HBv4_4).2.1
 go_wp2_with fail
 refine (implSame_any ma pa _ ba na basea fsa _ k baseo gs _ (HVa.out _ hb4) (by omega) (HVo.out _ hb4) (by omega) HCa.out HCo.out).mono ?_
 rintro e w5 ⟨sm, rfl, hsm, bw⟩
 have hb5 := hbt hb4 bw
 have HBv1_5 := hblk HBv1_4 bw
 have HBv2_5 := hblk HBv2_4 bw
 have HBv3_5 := hblk HBv3_4 bw
 have HBv4_5 := hblk HBv4_4 bw
 clear hb4 HBv1_4 HBv2_4 HBv3_4 HBv4_4 bw
 clear cv1_0 cv1_1 cv1_2 cv1_3 cv4_1
 cases sm with
 | false =>
  have HNsm : Hid (¬ (SameP fsa gs)) := fun h => nomatch hsm.2 h
  clear hsm
  have cv2_4 := (k7c HBv2_5).2.2.2.2.1
  have cv2_6 := (k7c HBv2_5).2.2.2.2.2.2
  go_wp2_with fail
  refine (implAgeAt_any _ k baseo gs t now _ (HVo.out _ hb5) (by omega) HCo.out (by have := HGo.out ageName; unfold maxLen; omega) HTN.out.1 HTN.out.2).mono ?_
  rintro e w6 ⟨rfl, bw⟩
  rw [HAG.out]
  have hb6 := hbt hb5 bw
  have HM6 := hsz bw
  have HBv1_6 := hblk HBv1_5 bw
  have HBv2_6 := hblk HBv2_5 bw
  have HBv3_6 := hblk HBv3_5 bw
  have HBv4_6 := hblk HBv4_5 bw
  clear hb5 HBv1_5 HBv2_5 HBv3_5 HBv4_5 bw
  clear cv2_4 cv2_6
  go_wp2_with fail
  refine (implNumText_any ag _ hab0 hab1 (HT.out _ hb6)).mono ?_
  rintro e w7 ⟨rfl, bw⟩
  rw [HTX.out]
  have hb7 := hbt hb6 bw
  have HM7 := hsz bw
  have HBv1_7 := hblk HBv1_6 bw
  have HBv2_7 := hblk HBv2_6 bw
  have HBv3_7 := hblk HBv3_6 bw
  have HBv4_7 := hblk HBv4_6 bw
  clear hb6 HBv1_6 HBv2_6 HBv3_6 HBv4_6 bw
  have cv4_0 := (k3c HBv4_7).1
  have Acv4_0 : ∀ o, ((w7).alloc o).cell? ⟨qv4, 0, none⟩ = some (.int .i64 st) := fun o => (cell_of (blk_below HBv4_7.out ((Below.refl _ _).alloc (Nat.le_refl _) o)) 0).trans rfl
  have Afcv4_0 : ∀ o, ((w7).alloc o).frozen? ⟨qv4, 0, none⟩ = false := fun o => frozen_of (blk_below HBv4_7.out ((Below.refl _ _).alloc (Nat.le_refl _) o)) 0
  have cv4_1 := (k3c HBv4_7).2.1
  have Acv4_1 : ∀ o, ((w7).alloc o).cell? ⟨qv4, 1, none⟩ = some (.slice o3 k c3) := fun o => (cell_of (blk_below HBv4_7.out ((Below.refl _ _).alloc (Nat.le_refl _) o)) 1).trans rfl
  have Afcv4_1 : ∀ o, ((w7).alloc o).frozen? ⟨qv4, 1, none⟩ = false := fun o => frozen_of (blk_below HBv4_7.out ((Below.refl _ _).alloc (Nat.le_refl _) o)) 1
  have cv4_2 := (k3c HBv4_7).2.2
  have Acv4_2 : ∀ o, ((w7).alloc o).cell? ⟨qv4, 2, none⟩ = some (.string d) := fun o => (cell_of (blk_below HBv4_7.out ((Below.refl _ _).alloc (Nat.le_refl _) o)) 2).trans rfl
  have Afcv4_2 : ∀ o, ((w7).alloc o).frozen? ⟨qv4, 2, none⟩ = false := fun o => frozen_of (blk_below HBv4_7.out ((Below.refl _ _).alloc (Nat.le_refl _) o)) 2
  go_wp2_with fail
  obtain ⟨qv5, hqv5⟩ := exq ((w7).heap.size)
  obtain ⟨w8, hW8⟩ := exq ((w7).alloc (.cells #[.string ⟨#[97, 103, 101]⟩, .string tx] 74))
  have hz8 : (w7).heap.size = qv5 := hqv5.symm
  first | rw [← hW8, ← hqv5] | rw [← hW8]
  have hs8 := hsa hW8 hz8
  have bw := bal hW8
  have hb8 := hbt hb7 bw
  have HM8 := hsz bw
  have HBv1_8 := hblk HBv1_7 bw
  have HBv2_8 := hblk HBv2_7 bw
  have HBv3_8 := hblk HBv3_7 bw
  have HBv4_8 := hblk HBv4_7 bw
  have HNv1v5 : Hid (qv1 ≠ qv5) := fun e => by have h1 := (Array.getElem?_eq_some_iff.1 HBv1_7.out).1; omega
  have HNv2v5 : Hid (qv2 ≠ qv5) := fun e => by have h1 := (Array.getElem?_eq_some_iff.1 HBv2_7.out).1; omega
  have HNv3v5 : Hid (qv3 ≠ qv5) := fun e => by have h1 := (Array.getElem?_eq_some_iff.1 HBv3_7.out).1; omega
  have HNv4v5 : Hid (qv4 ≠ qv5) := fun e => by have h1 := (Array.getElem?_eq_some_iff.1 HBv4_7.out).1; omega
  have HBv5_8 := hnew hW8 hz8
  have HGv5 := hge hz8 hb7
  clear hb7 HBv1_7 HBv2_7 HBv3_7 HBv4_7 bw hW8 hz8
  clear hs8 hqv5
  have HFA : Hid ((w8).ownsRow w.heap.size 74 2 (.slice (some ⟨qv5, 0, none⟩) 1 1) 1 (flatF [(ageName, tx)])) := ⟨rfl, .inr ⟨_, 1, #[.string ageName, .string tx], rfl, HGv5.out, HBv5_8.out, Nat.le_refl _, by decide, rfl, rfl⟩⟩
  refine (implMerge_any st _ d k _ gs 0 _ ⟨#[]⟩ 1 _ [(ageName, tx)] _ (HVo.out _ hb8) HDZ.out (FieldsV.of_owns HFA.out) (by omega) HCo.out (copy_one (by decide) (by have := HTZ.out; omega))).mono ?_
  rintro e w9 ⟨vv, rfl, ownPG, bw⟩
  obtain ⟨pg, hpg⟩ := exq (mergeF st gs d [(ageName, tx)])
  have HPG : Hid (mergeF st gs d [(ageName, tx)] = pg) := hpg.symm
  rw [← hpg] at ownPG
  clear hpg HFA
  obtain ⟨oPG, pPG, rfl⟩ := slice_of_owns ownPG
  have hb9 := hbt hb8 bw
  have HM9 := hsz bw
  have HBv1_9 := hblk HBv1_8 bw
  have HBv2_9 := hblk HBv2_8 bw
  have HBv3_9 := hblk HBv3_8 bw
  have HBv4_9 := hblk HBv4_8 bw
  have HBv5_9 := hblk HBv5_8 bw
  have HOPG_9 := hwd ownPG hb8.size
  have LOPG := hlo ownPG
  have HIPG := hhi ownPG
  clear ownPG
  have HRPGv5 : Hid (∀ g, (Value.ownBlock (.slice oPG pg.length pPG)) = some g → g ≠ qv5) := fun g hg e => by have h1 := LOPG.out g hg; have h2 := (Array.getElem?_eq_some_iff.1 HBv5_8.out).1; omega
  clear hb8 HBv1_8 HBv2_8 HBv3_8 HBv4_8 HBv5_8 bw
  clear cv4_0 Acv4_0 Afcv4_0 cv4_1 Acv4_1 Afcv4_1 cv4_2 Acv4_2 Afcv4_2
  have cv3_0 := (k3c HBv3_9).1
  have fcv3_0 := hfz HBv3_9 0
  have cv3_1 := (k3c HBv3_9).2.1
  have fcv3_1 := hfz HBv3_9 1
  have cv3_2 := (k3c HBv3_9).2.2
  have fcv3_2 := hfz HBv3_9 2
  go_wp2_with fail
  obtain ⟨w10, hW10⟩ := exq ((w9).setCell ⟨qv3, 0, none⟩ (.int .i64 st))
  rw [← hW10]
  have hb10 : Below w.heap.size w (w10) := by rw [hW10]; exact (hb9.setCell (p := ⟨qv3, 0, none⟩) HGv3.out _)
  have HM10 : Hid ((w9).heap.size ≤ w10.heap.size) := by show _ ≤ _; rw [hW10]; simp
  have HOPG_10 := hsetR hW10 (own_ne HOPG_9.out HBv3_9.out (by decide)) HOPG_9
  have HBv1_10 := hset hW10 HNv1v3.out HBv1_9
  have HBv2_10 := hset hW10 HNv2v3.out HBv2_9
  have HBv4_10 := hset hW10 HNv3v4.out.symm HBv4_9
  have HBv5_10 := hset hW10 HNv3v5.out.symm HBv5_9
  have HBv3_10 : Hid ((w10).heap[qv3]? = some (.cells #[.int .i64 st, .slice none 0 0, .string ⟨#[]⟩] 29)) := by show _ = _; rw [hW10]; have h := heap_set _ _ 0 _ _ _ (.int .i64 st) HBv3_9.out; simpa using h
  clear hb9 HOPG_9 HBv1_9 HBv2_9 HBv3_9 HBv4_9 HBv5_9 hW10
  obtain ⟨w11, hW11⟩ := exq ((w10).setCell ⟨qv3, 1, none⟩ (.slice oPG pg.length pPG))
  rw [← hW11]
  have hb11 : Below w.heap.size w (w11) := by rw [hW11]; exact (hb10.setCell (p := ⟨qv3, 1, none⟩) HGv3.out _)
  have HM11 : Hid ((w10).heap.size ≤ w11.heap.size) := by show _ ≤ _; rw [hW11]; simp
  have HOPG_11 := hsetR hW11 (own_ne HOPG_10.out HBv3_10.out (by decide)) HOPG_10
  have HBv1_11 := hset hW11 HNv1v3.out HBv1_10
  have HBv2_11 := hset hW11 HNv2v3.out HBv2_10
  have HBv4_11 := hset hW11 HNv3v4.out.symm HBv4_10
  have HBv5_11 := hset hW11 HNv3v5.out.symm HBv5_10
  have HBv3_11 : Hid ((w11).heap[qv3]? = some (.cells #[.int .i64 st, .slice oPG pg.length pPG, .string ⟨#[]⟩] 29)) := by show _ = _; rw [hW11]; have h := heap_set _ _ 1 _ _ _ (.slice oPG pg.length pPG) HBv3_10.out; simpa using h
  clear hb10 HOPG_10 HBv1_10 HBv2_10 HBv3_10 HBv4_10 HBv5_10 hW11
  obtain ⟨w12, hW12⟩ := exq ((w11).setCell ⟨qv3, 2, none⟩ (.string d))
  rw [← hW12]
  have hb12 : Below w.heap.size w (w12) := by rw [hW12]; exact (hb11.setCell (p := ⟨qv3, 2, none⟩) HGv3.out _)
  have HM12 : Hid ((w11).heap.size ≤ w12.heap.size) := by show _ ≤ _; rw [hW12]; simp
  have HOPG_12 := hsetR hW12 (own_ne HOPG_11.out HBv3_11.out (by decide)) HOPG_11
  have HBv1_12 := hset hW12 HNv1v3.out HBv1_11
  have HBv2_12 := hset hW12 HNv2v3.out HBv2_11
  have HBv4_12 := hset hW12 HNv3v4.out.symm HBv4_11
  have HBv5_12 := hset hW12 HNv3v5.out.symm HBv5_11
  have HBv3_12 : Hid ((w12).heap[qv3]? = some (.cells #[.int .i64 st, .slice oPG pg.length pPG, .string d] 29)) := by show _ = _; rw [hW12]; have h := heap_set _ _ 2 _ _ _ (.string d) HBv3_11.out; simpa using h
  clear hb11 HOPG_11 HBv1_11 HBv2_11 HBv3_11 HBv4_11 HBv5_11 hW12
  have kv3_0 := (k3c HBv3_12).1
  have kv3_1 := (k3c HBv3_12).2.1
  have kv3_2 := (k3c HBv3_12).2.2
  refine bodyPost_ret (v := .agg #[.int .i64 st, .slice oPG pg.length pPG, .string d]) (by simp [results, Tryz.results7, go_sem, kv3_0, kv3_1, kv3_2]) rfl ?_
  unfold ansF
  rw [ansS_no HNsm.out, ansB_no HNsm.out, ansG_no HNsm.out, HAT.out, HPG.out]
  exact ⟨_, rfl, HOPG_12.out, hb12⟩
 | true =>
  have HYsm : Hid (SameP fsa gs) := hsm.1 rfl
  clear hsm
  have cv4_0 := (k3c HBv4_5).1
  have cv4_1 := (k3c HBv4_5).2.1
  have cv4_2 := (k3c HBv4_5).2.2
  go_wp2_with fail
  refine (implShort_any st _ d k baseo gs _ (HVo.out _ hb5) (by omega) HCo.out).mono ?_
  rintro e w6 ⟨vv, rfl, ownSG, bw⟩
  rw [HSG.out] at ownSG
  obtain ⟨oSG, pSG, rfl⟩ := slice_of_owns ownSG
  have hb6 := hbt hb5 bw
  have HM6 := hsz bw
  have HBv1_6 := hblk HBv1_5 bw
  have HBv2_6 := hblk HBv2_5 bw
  have HBv3_6 := hblk HBv3_5 bw
  have HBv4_6 := hblk HBv4_5 bw
  have HOSG_6 := hwd ownSG hb5.size
  clear ownSG
  clear hb5 HBv1_5 HBv2_5 HBv3_5 HBv4_5 bw
  clear cv4_0 cv4_1 cv4_2
  have cv4_0 := (k3c HBv4_6).1
  have fcv4_0 := hfz HBv4_6 0
  have cv4_1 := (k3c HBv4_6).2.1
  have fcv4_1 := hfz HBv4_6 1
  have cv4_2 := (k3c HBv4_6).2.2
  have fcv4_2 := hfz HBv4_6 2
  go_upto_region 4 with fail
  obtain ⟨w7, hW7⟩ := exq ((w6).setCell ⟨qv4, 0, none⟩ (.int .i64 304))
  rw [← hW7]
  have hb7 : Below w.heap.size w (w7) := by rw [hW7]; exact (hb6.setCell (p := ⟨qv4, 0, none⟩) HGv4.out _)
  have HM7 : Hid ((w6).heap.size ≤ w7.heap.size) := by show _ ≤ _; rw [hW7]; simp
  have HOSG_7 := hsetR hW7 (own_ne HOSG_6.out HBv4_6.out (by decide)) HOSG_6
  have HBv1_7 := hset hW7 HNv1v4.out HBv1_6
  have HBv2_7 := hset hW7 HNv2v4.out HBv2_6
  have HBv3_7 := hset hW7 HNv3v4.out HBv3_6
  have HBv4_7 : Hid ((w7).heap[qv4]? = some (.cells #[.int .i64 304, .slice o3 k c3, .string d] 29)) := by show _ = _; rw [hW7]; have h := heap_set _ _ 0 _ _ _ (.int .i64 304) HBv4_6.out; simpa using h
  clear hb6 HOSG_6 HBv1_6 HBv2_6 HBv3_6 HBv4_6 hW7
  obtain ⟨w8, hW8⟩ := exq ((w7).setCell ⟨qv4, 1, none⟩ (.slice oSG sg.length pSG))
  rw [← hW8]
  have hb8 : Below w.heap.size w (w8) := by rw [hW8]; exact (hb7.setCell (p := ⟨qv4, 1, none⟩) HGv4.out _)
  have HM8 : Hid ((w7).heap.size ≤ w8.heap.size) := by show _ ≤ _; rw [hW8]; simp
  have HOSG_8 := hsetR hW8 (own_ne HOSG_7.out HBv4_7.out (by decide)) HOSG_7
  have HBv1_8 := hset hW8 HNv1v4.out HBv1_7
  have HBv2_8 := hset hW8 HNv2v4.out HBv2_7
  have HBv3_8 := hset hW8 HNv3v4.out HBv3_7
  have HBv4_8 : Hid ((w8).heap[qv4]? = some (.cells #[.int .i64 304, .slice oSG sg.length pSG, .string d] 29)) := by show _ = _; rw [hW8]; have h := heap_set _ _ 1 _ _ _ (.slice oSG sg.length pSG) HBv4_7.out; simpa using h
  clear hb7 HOSG_7 HBv1_7 HBv2_7 HBv3_7 HBv4_7 hW8
  obtain ⟨w9, hW9⟩ := exq ((w8).setCell ⟨qv4, 2, none⟩ (.string ⟨#[]⟩))
  rw [← hW9]
  have hb9 : Below w.heap.size w (w9) := by rw [hW9]; exact (hb8.setCell (p := ⟨qv4, 2, none⟩) HGv4.out _)
  have HM9 : Hid ((w8).heap.size ≤ w9.heap.size) := by show _ ≤ _; rw [hW9]; simp
  have HOSG_9 := hsetR hW9 (own_ne HOSG_8.out HBv4_8.out (by decide)) HOSG_8
  have HBv1_9 := hset hW9 HNv1v4.out HBv1_8
  have HBv2_9 := hset hW9 HNv2v4.out HBv2_8
  have HBv3_9 := hset hW9 HNv3v4.out HBv3_8
  have HBv4_9 : Hid ((w9).heap[qv4]? = some (.cells #[.int .i64 304, .slice oSG sg.length pSG, .string ⟨#[]⟩] 29)) := by show _ = _; rw [hW9]; have h := heap_set _ _ 2 _ _ _ (.string ⟨#[]⟩) HBv4_8.out; simpa using h
  clear hb8 HOSG_8 HBv1_8 HBv2_8 HBv3_8 HBv4_8 hW9
  clear cv4_0 fcv4_0 cv4_1 fcv4_1 cv4_2 fcv4_2
  have cv2_4 := (k7c HBv2_9).2.2.2.2.1
  have cv2_6 := (k7c HBv2_9).2.2.2.2.2.2
  go_wp2_with fail
  refine (implAgeAt_any _ k baseo gs t now _ (HVo.out _ hb9) (by omega) HCo.out (by have := HGo.out ageName; unfold maxLen; omega) HTN.out.1 HTN.out.2).mono ?_
  rintro e w10 ⟨rfl, bw⟩
  rw [HAG.out]
  have hb10 := hbt hb9 bw
  have HM10 := hsz bw
  have HOSG_10 := hown HOSG_9 bw
  have HBv1_10 := hblk HBv1_9 bw
  have HBv2_10 := hblk HBv2_9 bw
  have HBv3_10 := hblk HBv3_9 bw
  have HBv4_10 := hblk HBv4_9 bw
  clear hb9 HOSG_9 HBv1_9 HBv2_9 HBv3_9 HBv4_9 bw
  clear cv2_4 cv2_6
  go_wp2_with fail
  refine (implNumText_any ag _ hab0 hab1 (HT.out _ hb10)).mono ?_
  rintro e w11 ⟨rfl, bw⟩
  rw [HTX.out]
  have hb11 := hbt hb10 bw
  have HM11 := hsz bw
  have HOSG_11 := hown HOSG_10 bw
  have HBv1_11 := hblk HBv1_10 bw
  have HBv2_11 := hblk HBv2_10 bw
  have HBv3_11 := hblk HBv3_10 bw
  have HBv4_11 := hblk HBv4_10 bw
  clear hb10 HOSG_10 HBv1_10 HBv2_10 HBv3_10 HBv4_10 bw
  have cv4_0 := (k3c HBv4_11).1
  have Acv4_0 : ∀ o, ((w11).alloc o).cell? ⟨qv4, 0, none⟩ = some (.int .i64 304) := fun o => (cell_of (blk_below HBv4_11.out ((Below.refl _ _).alloc (Nat.le_refl _) o)) 0).trans rfl
  have Afcv4_0 : ∀ o, ((w11).alloc o).frozen? ⟨qv4, 0, none⟩ = false := fun o => frozen_of (blk_below HBv4_11.out ((Below.refl _ _).alloc (Nat.le_refl _) o)) 0
  have cv4_1 := (k3c HBv4_11).2.1
  have Acv4_1 : ∀ o, ((w11).alloc o).cell? ⟨qv4, 1, none⟩ = some (.slice oSG sg.length pSG) := fun o => (cell_of (blk_below HBv4_11.out ((Below.refl _ _).alloc (Nat.le_refl _) o)) 1).trans rfl
  have Afcv4_1 : ∀ o, ((w11).alloc o).frozen? ⟨qv4, 1, none⟩ = false := fun o => frozen_of (blk_below HBv4_11.out ((Below.refl _ _).alloc (Nat.le_refl _) o)) 1
  have cv4_2 := (k3c HBv4_11).2.2
  have Acv4_2 : ∀ o, ((w11).alloc o).cell? ⟨qv4, 2, none⟩ = some (.string ⟨#[]⟩) := fun o => (cell_of (blk_below HBv4_11.out ((Below.refl _ _).alloc (Nat.le_refl _) o)) 2).trans rfl
  have Afcv4_2 : ∀ o, ((w11).alloc o).frozen? ⟨qv4, 2, none⟩ = false := fun o => frozen_of (blk_below HBv4_11.out ((Below.refl _ _).alloc (Nat.le_refl _) o)) 2
  go_wp2_with fail
  obtain ⟨qv5, hqv5⟩ := exq ((w11).heap.size)
  obtain ⟨w12, hW12⟩ := exq ((w11).alloc (.cells #[.string ⟨#[97, 103, 101]⟩, .string tx] 74))
  have hz12 : (w11).heap.size = qv5 := hqv5.symm
  first | rw [← hW12, ← hqv5] | rw [← hW12]
  have hs12 := hsa hW12 hz12
  have bw := bal hW12
  have hb12 := hbt hb11 bw
  have HM12 := hsz bw
  have HOSG_12 := hown HOSG_11 bw
  have HBv1_12 := hblk HBv1_11 bw
  have HBv2_12 := hblk HBv2_11 bw
  have HBv3_12 := hblk HBv3_11 bw
  have HBv4_12 := hblk HBv4_11 bw
  have HNv1v5 : Hid (qv1 ≠ qv5) := fun e => by have h1 := (Array.getElem?_eq_some_iff.1 HBv1_11.out).1; omega
  have HNv2v5 : Hid (qv2 ≠ qv5) := fun e => by have h1 := (Array.getElem?_eq_some_iff.1 HBv2_11.out).1; omega
  have HNv3v5 : Hid (qv3 ≠ qv5) := fun e => by have h1 := (Array.getElem?_eq_some_iff.1 HBv3_11.out).1; omega
  have HNv4v5 : Hid (qv4 ≠ qv5) := fun e => by have h1 := (Array.getElem?_eq_some_iff.1 HBv4_11.out).1; omega
  have HBv5_12 := hnew hW12 hz12
  have HGv5 := hge hz12 hb11
  clear hb11 HOSG_11 HBv1_11 HBv2_11 HBv3_11 HBv4_11 bw hW12 hz12
  clear hs12 hqv5
  have HFA : Hid ((w12).ownsRow w.heap.size 74 2 (.slice (some ⟨qv5, 0, none⟩) 1 1) 1 (flatF [(ageName, tx)])) := ⟨rfl, .inr ⟨_, 1, #[.string ageName, .string tx], rfl, HGv5.out, HBv5_12.out, Nat.le_refl _, by decide, rfl, rfl⟩⟩
  refine (implMerge_any 304 _ ⟨#[]⟩ sg.length _ sg 0 _ ⟨#[]⟩ 1 _ [(ageName, tx)] _ (FieldsV.of_owns HOSG_12.out) (by decide) (FieldsV.of_owns HFA.out) (by omega) HSC.out (copy_one (by decide) (by have := HTZ.out; omega))).mono ?_
  rintro e w13 ⟨vv, rfl, ownPG, bw⟩
  obtain ⟨pg, hpg⟩ := exq (mergeF 304 sg ⟨#[]⟩ [(ageName, tx)])
  have HPG : Hid (mergeF 304 sg ⟨#[]⟩ [(ageName, tx)] = pg) := hpg.symm
  rw [← hpg] at ownPG
  clear hpg HFA
  obtain ⟨oPG, pPG, rfl⟩ := slice_of_owns ownPG
  have hb13 := hbt hb12 bw
  have HOSG_13 := hown HOSG_12 bw
  have HBv1_13 := hblk HBv1_12 bw
  have HBv2_13 := hblk HBv2_12 bw
  have HBv3_13 := hblk HBv3_12 bw
  have HBv4_13 := hblk HBv4_12 bw
  have HBv5_13 := hblk HBv5_12 bw
  have HOPG_13 := hwd ownPG hb12.size
  have LOPG := hlo ownPG
  have HIPG := hhi ownPG
  clear ownPG
  have HRPGv5 : Hid (∀ g, (Value.ownBlock (.slice oPG pg.length pPG)) = some g → g ≠ qv5) := fun g hg e => by have h1 := LOPG.out g hg; have h2 := (Array.getElem?_eq_some_iff.1 HBv5_12.out).1; omega
  clear hb12 HOSG_12 HBv1_12 HBv2_12 HBv3_12 HBv4_12 HBv5_12 bw
  clear cv4_0 Acv4_0 Afcv4_0 cv4_1 Acv4_1 Afcv4_1 cv4_2 Acv4_2 Afcv4_2
  have cv3_0 := (k3c HBv3_13).1
  have fcv3_0 := hfz HBv3_13 0
  have cv3_1 := (k3c HBv3_13).2.1
  have fcv3_1 := hfz HBv3_13 1
  have cv3_2 := (k3c HBv3_13).2.2
  have fcv3_2 := hfz HBv3_13 2
  go_wp2_with fail
  obtain ⟨w14, hW14⟩ := exq ((w13).setCell ⟨qv3, 0, none⟩ (.int .i64 304))
  rw [← hW14]
  have hb14 : Below w.heap.size w (w14) := by rw [hW14]; exact (hb13.setCell (p := ⟨qv3, 0, none⟩) HGv3.out _)
  have HOSG_14 := hsetR hW14 (own_ne HOSG_13.out HBv3_13.out (by decide)) HOSG_13
  have HOPG_14 := hsetR hW14 (own_ne HOPG_13.out HBv3_13.out (by decide)) HOPG_13
  have HBv1_14 := hset hW14 HNv1v3.out HBv1_13
  have HBv2_14 := hset hW14 HNv2v3.out HBv2_13
  have HBv4_14 := hset hW14 HNv3v4.out.symm HBv4_13
  have HBv5_14 := hset hW14 HNv3v5.out.symm HBv5_13
  have HBv3_14 : Hid ((w14).heap[qv3]? = some (.cells #[.int .i64 304, .slice none 0 0, .string ⟨#[]⟩] 29)) := by show _ = _; rw [hW14]; have h := heap_set _ _ 0 _ _ _ (.int .i64 304) HBv3_13.out; simpa using h
  clear hb13 HOSG_13 HOPG_13 HBv1_13 HBv2_13 HBv3_13 HBv4_13 HBv5_13 hW14
  obtain ⟨w15, hW15⟩ := exq ((w14).setCell ⟨qv3, 1, none⟩ (.slice oPG pg.length pPG))
  rw [← hW15]
  have hb15 : Below w.heap.size w (w15) := by rw [hW15]; exact (hb14.setCell (p := ⟨qv3, 1, none⟩) HGv3.out _)
  have HOSG_15 := hsetR hW15 (own_ne HOSG_14.out HBv3_14.out (by decide)) HOSG_14
  have HOPG_15 := hsetR hW15 (own_ne HOPG_14.out HBv3_14.out (by decide)) HOPG_14
  have HBv1_15 := hset hW15 HNv1v3.out HBv1_14
  have HBv2_15 := hset hW15 HNv2v3.out HBv2_14
  have HBv4_15 := hset hW15 HNv3v4.out.symm HBv4_14
  have HBv5_15 := hset hW15 HNv3v5.out.symm HBv5_14
  have HBv3_15 : Hid ((w15).heap[qv3]? = some (.cells #[.int .i64 304, .slice oPG pg.length pPG, .string ⟨#[]⟩] 29)) := by show _ = _; rw [hW15]; have h := heap_set _ _ 1 _ _ _ (.slice oPG pg.length pPG) HBv3_14.out; simpa using h
  clear hb14 HOSG_14 HOPG_14 HBv1_14 HBv2_14 HBv3_14 HBv4_14 HBv5_14 hW15
  obtain ⟨w16, hW16⟩ := exq ((w15).setCell ⟨qv3, 2, none⟩ (.string ⟨#[]⟩))
  rw [← hW16]
  have hb16 : Below w.heap.size w (w16) := by rw [hW16]; exact (hb15.setCell (p := ⟨qv3, 2, none⟩) HGv3.out _)
  have HOSG_16 := hsetR hW16 (own_ne HOSG_15.out HBv3_15.out (by decide)) HOSG_15
  have HOPG_16 := hsetR hW16 (own_ne HOPG_15.out HBv3_15.out (by decide)) HOPG_15
  have HBv1_16 := hset hW16 HNv1v3.out HBv1_15
  have HBv2_16 := hset hW16 HNv2v3.out HBv2_15
  have HBv4_16 := hset hW16 HNv3v4.out.symm HBv4_15
  have HBv5_16 := hset hW16 HNv3v5.out.symm HBv5_15
  have HBv3_16 : Hid ((w16).heap[qv3]? = some (.cells #[.int .i64 304, .slice oPG pg.length pPG, .string ⟨#[]⟩] 29)) := by show _ = _; rw [hW16]; have h := heap_set _ _ 2 _ _ _ (.string ⟨#[]⟩) HBv3_15.out; simpa using h
  clear hb15 HOSG_15 HOPG_15 HBv1_15 HBv2_15 HBv3_15 HBv4_15 HBv5_15 hW16
  have kv3_0 := (k3c HBv3_16).1
  have kv3_1 := (k3c HBv3_16).2.1
  have kv3_2 := (k3c HBv3_16).2.2
  refine bodyPost_ret (v := .agg #[.int .i64 304, .slice oPG pg.length pPG, .string ⟨#[]⟩]) (by simp [results, Tryz.results7, go_sem, kv3_0, kv3_1, kv3_2]) rfl ?_
  unfold ansF
  rw [ansS_yes HYsm.out, ansB_yes HYsm.out, ansG_yes HYsm.out, HAT.out, HSG.out, HPG.out]
  exact ⟨_, rfl, HOPG_16.out, hb16⟩
end Go.Proofs.YtmcmeeibogkpaaaGreatDoorR
namespace Go.Proofs.YtmcmeeibogkpaaaGreatDoorR
open Go.RowKit
open Go.Lib hiding intOf
theorem cc_ns (c0 c1 c2 c3 c4 : Bool) (c5 : Int) (W : World) : (Instr.field 89 (.agg #[.bool c0, .bool c1, .bool c2, .bool c3, .bool c4, .int .i64 c5]) 0).run Tryz.prog W = .ok (.bool c0) W := by
 first | kernel_rfl | rfl | simp [Instr.field, go_sem]
theorem guardFld : Tryz.prog.eqGuardType Tryz.prog.depth 74 = false := by kernel_rfl
open Classical in
theorem eqFldIn (a a' b b' : ByteArray) (w : World) : (Op.equalIn 10000 74 (.agg #[.string a, .string b]) (.agg #[.string a', .string b'])).run Tryz.prog w = .ok (decide (a = a' ∧ b = b')) w := by
 have u9 := Tryz.underlying9
 have a9 := Tryz.isAgg9
 have z9 := Tryz.sizeOf9
 have hS : Tryz.prog.underlying 74 = some (.struct (Tryz.prog.fieldsOf 74)) := by kernel_rfl
 have hp : Tryz.prog.stoodInHeld 74 = false := by kernel_rfl
 rw [show (10000 : Nat) = 9999 + 1 from rfl, run_equalIn_agg w 9999 74 _ _ hS hp]
 simp only [Program.fieldsOf, Tryz.underlying74]
 have ea : ∀ x y : ByteArray, (x.toList == y.toList) = decide (x = y) := fun x y => by
  by_cases h : x = y
  · rw [decide_eq_true h]; exact (text_beq _ _).2 h
  · rw [decide_eq_false h]; exact text_beq_no h
 go_simp
 by_cases h1 : a = a'
 ·
  by_cases h2 : b = b'
  · simp [h1, h2]
  · simp [h1, h2]
 · simp [h1]
open Classical in
theorem neqFld (a a' b b' : ByteArray) (w : World) : (binOp .neq 74 (.agg #[.string a, .string b]) (.agg #[.string a', .string b'])).run Tryz.prog w = .ok (.bool (!(decide (a = a' ∧ b = b')))) w := by
 rw [run_neq_struct, eqFldIn]
 rfl
end Go.Proofs.YtmcmeeibogkpaaaGreatDoorR
namespace Go.Proofs.YtmcmeeibogkpaaaGreatDoorR
open Go.RowKit
open Go.Lib hiding intOf
theorem l15Fields_any (v1 v2 : Value) (n m b1 b2 : Nat) (fs gs : List (ByteArray × ByteArray)) (w : World) (h1 : FieldsV w b1 v1 n fs) (h2 : FieldsV w b2 v2 m gs) (hn : n ≤ 1073741824) (hm : m ≤ 1073741824) :
  Calls Tryz.prog 55 #[v1, v2] w fun e w' => BoolIs (fs = gs) w e w' := by
 classical
 have HL1 : Hid (fs.length = n) := h1.len
 have HL2 : Hid (gs.length = m) := h2.len
 obtain ⟨oa, ca, rfl, ra⟩ := h1.slice
 obtain ⟨ob, cb, rfl, rb⟩ := h2.slice
 have HRA : Hid (∀ k, k < n → ∃ g, oa = some ⟨g, 0, none⟩ ∧ FieldRow b1 w g n ca fs) := ra
 have HRB : Hid (∀ k, k < m → ∃ g, ob = some ⟨g, 0, none⟩ ∧ FieldRow b2 w g m cb gs) := rb
 clear ra rb h1 h2
 have hgd := guardFld
 go_enter Tryz.func55, Tryz.ntmps55
 go_wp2
 go_loopw [5] (fun i wr => ∃ k : Nat, k ≤ n ∧ k ≤ m ∧ i = .int .i64 (k : Int) ∧ Below w.heap.size w wr ∧ Hid (SameTo fs gs k)) (fun i _ => n - (intOf i).toNat)
 case atStart => exact ⟨0, Nat.zero_le _, Nat.zero_le _, rfl, Below.refl _ _, SameTo.zero _ _⟩
 case round =>
  obtain ⟨k, hk, hkm, rfl, hbw, HST⟩ := hrel
  by_cases hlt : k < n
  ·
   by_cases hltm : k < m
   ·
    have hlt2 : (k : Int) < (n : Int) := by omega
    have hlt3 : (k : Int) < (m : Int) := by omega
    obtain ⟨g1, hoa, r1⟩ := HRA.out k hlt
    obtain ⟨g2, hob, r2⟩ := HRB.out k hltm
    subst hoa hob
    obtain ⟨na, hna⟩ := exq (nameAt fs k)
    obtain ⟨va, hva⟩ := exq (valAt fs k)
    obtain ⟨nb, hnb⟩ := exq (nameAt gs k)
    obtain ⟨vb, hvb⟩ := exq (valAt gs k)
    have ha := (r1.below hbw r1.lt).name k hlt
    have hb := (r1.below hbw r1.lt).val k hlt
    have hc := (r2.below hbw r2.lt).name k hltm
    have hd := (r2.below hbw r2.lt).val k hltm
    rw [← hna] at ha
    rw [← hva] at hb
    rw [← hnb] at hc
    rw [← hvb] at hd
    by_cases he : na = nb ∧ va = vb
    ·
     have HS2 : Hid (SameTo fs gs (k + 1)) := HST.out.step (by rw [← hna, ← hnb]; exact he.1) (by rw [← hva, ← hvb]; exact he.2)
     obtain ⟨e1, e2⟩ := he
     subst e1 e2
     have hq : ∀ W : World, (binOp .neq 74 (.agg #[.string na, .string va]) (.agg #[.string na, .string va])).run Tryz.prog W = .ok (.bool false) W := fun W => by rw [neqFld]; simp
     clear hna hva hnb hvb r1 r2 HST
     go_wp2
     go_region
     go_wp2
     go_roundw
     case rel => exact ⟨k + 1, by omega, by omega, by go_num, hbw.drew, HS2⟩
     case measure => simp [intOf]; omega
    ·
     have HNE : Hid (¬ fs = gs) := fun e => he ⟨by rw [hna, hnb, e], by rw [hva, hvb, e]⟩
     have hq : ∀ W : World, (binOp .neq 74 (.agg #[.string na, .string va]) (.agg #[.string nb, .string vb])).run Tryz.prog W = .ok (.bool true) W := fun W => by rw [neqFld, decide_eq_false he]; rfl
     clear hna hva hnb hvb r1 r2 HST he
     go_wp2
     go_region
     go_wp2
     go_ret
     exact BoolIs.no HNE.out hbw.drew
   ·
    have HNE : Hid (¬ fs = gs) := fun e => by
     have h1 := HL1.out
     have h2 := HL2.out
     rw [e] at h1
     omega
    have hnm : ((n : Int) == (m : Int)) = false := by simpa using (show ¬ (n : Int) = (m : Int) by omega)
    go_wp2
    go_ret
    exact BoolIs.no HNE.out hbw
  ·
   by_cases hnm : n = m
   ·
    subst hnm
    have HEQ : Hid (fs = gs) := by
     have h := HST.out
     rw [show k = n by omega] at h
     exact h.all HL1.out HL2.out
    have hnn : ((n : Int) == (n : Int)) = true := by simp
    go_wp2
    go_ret
    exact BoolIs.yes HEQ.out hbw
   ·
    have HNE : Hid (¬ fs = gs) := fun e => by
     have h1 := HL1.out
     have h2 := HL2.out
     rw [e] at h1
     omega
    have hnmb : ((n : Int) == (m : Int)) = false := by simpa using (show ¬ (n : Int) = (m : Int) by omega)
    go_wp2
    go_ret
    exact BoolIs.no HNE.out hbw
end Go.Proofs.YtmcmeeibogkpaaaGreatDoorR
namespace Go.Proofs.YtmcmeeibogkpaaaGreatDoorR
open Go.RowKit
open Go.Lib hiding intOf
theorem specAlike_any (ma : Int) (pa : ByteArray) (va : Value) (ba : ByteArray) (na basea : Nat) (fsa : List (ByteArray × ByteArray)) (mb : Int) (pb : ByteArray) (vb : Value) (bb : ByteArray) (nb baseb : Nat) (fsb : List (ByteArray × ByteArray)) (w : World) (hva : FieldsV w basea va na fsa) (hna : na ≤ 1048576) (hsa : WalkF na fsa) (hpa : pa.size ≤ maxLen) (hba : ba.size ≤ maxLen) (hga : ∀ x, (getV fsa x).size ≤ 1048576) (hvb : FieldsV w baseb vb nb fsb) (hnb : nb ≤ 1048576) (hsb : WalkF nb fsb) (hpb : pb.size ≤ maxLen) (hbb : bb.size ≤ maxLen) (hgb : ∀ x, (getV fsb x).size ≤ 1048576) :
  Calls Tryz.prog 13 #[.agg #[.int .i64 ma, .string pa, va, .string ba], .agg #[.int .i64 mb, .string pb, vb, .string bb]] w fun e w' => BoolIs (AlikeP ma pa fsa ba mb pb fsb bb) w e w' := by
 obtain ⟨oa, ca, hsl, _⟩ := hva.slice
 subst hsl
 have HVa : Hid (∀ W, Below w.heap.size w W → FieldsV W basea (.slice oa na ca) na fsa) := fun W h => hva.below h
 have HLFa : Hid (fsa.length = na) := hva.len
 have HSa : Hid (WalkF na fsa) := hsa
 have HPMa : Hid (pa.size ≤ maxLen) := hpa
 have HBMa : Hid (ba.size ≤ maxLen) := hba
 have HQVa : Hid (∀ x, (getV fsa x).size ≤ 1048576) := hga
 clear hva hsa hpa hba hga
 obtain ⟨ka, hka⟩ := exq (ccR (getV fsa ccName))
 have HCCa : Hid (∀ W, Below w.heap.size w W → Calls Tryz.prog 56 #[.slice oa na ca] W fun e w' => e = .returned (.agg #[.bool ka.ns, .bool ka.nc, .bool ka.pr, .bool ka.mu, .bool ka.ha, .int .i64 ka.age]) ∧ Below W.heap.size W w') := fun W hW => by
  have h := specCcOf_any _ na basea fsa W (HVa.out W hW) (by omega) (HQVa.out _)
  rw [← hka] at h
  exact h
 have HCKa : Hid (ccR (getV fsa ccName) = ka) := hka.symm
 clear hka
 obtain ⟨xa0, xa1, xa2, xa3, xa4, xa5⟩ := ka
 dsimp only at HCCa
 obtain ⟨ob, cb, hsl, _⟩ := hvb.slice
 subst hsl
 have HVb : Hid (∀ W, Below w.heap.size w W → FieldsV W baseb (.slice ob nb cb) nb fsb) := fun W h => hvb.below h
 have HLFb : Hid (fsb.length = nb) := hvb.len
 have HSb : Hid (WalkF nb fsb) := hsb
 have HPMb : Hid (pb.size ≤ maxLen) := hpb
 have HBMb : Hid (bb.size ≤ maxLen) := hbb
 have HQVb : Hid (∀ x, (getV fsb x).size ≤ 1048576) := hgb
 clear hvb hsb hpb hbb hgb
 obtain ⟨kb, hkb⟩ := exq (ccR (getV fsb ccName))
 have HCCb : Hid (∀ W, Below w.heap.size w W → Calls Tryz.prog 56 #[.slice ob nb cb] W fun e w' => e = .returned (.agg #[.bool kb.ns, .bool kb.nc, .bool kb.pr, .bool kb.mu, .bool kb.ha, .int .i64 kb.age]) ∧ Below W.heap.size W w') := fun W hW => by
  have h := specCcOf_any _ nb baseb fsb W (HVb.out W hW) (by omega) (HQVb.out _)
  rw [← hkb] at h
  exact h
 have HCKb : Hid (ccR (getV fsb ccName) = kb) := hkb.symm
 clear hkb
 obtain ⟨xb0, xb1, xb2, xb3, xb4, xb5⟩ := kb
 dsimp only at HCCb
 have hfna := fun W => cc_ns xa0 xa1 xa2 xa3 xa4 xa5 W
 have hfca := fun W => cc_nc xa0 xa1 xa2 xa3 xa4 xa5 W
 have hb0 : Below w.heap.size w w := Below.refl _ _
 go_enter Tryz.func13, Tryz.ntmps13
 go_upto_region 1 with fail
 obtain ⟨qv1, hqv1⟩ := exq ((w).heap.size)
 obtain ⟨w1, hW1⟩ := exq ((w).alloc (.cells #[.int .i64 ma, .string pa, .slice oa na ca, .string ba] 26))
 have hz1 : (w).heap.size = qv1 := hqv1.symm
 first | rw [← hW1, ← hqv1] | rw [← hW1]
 have hs1 := hsa hW1 hz1
 have bw := bal hW1
 have hb1 := hbt hb0 bw
 have HBv1_1 := hnew hW1 hz1
 clear hb0 bw hW1 hz1
 obtain ⟨qv2, hqv2⟩ := exq (qv1 + 1)
 obtain ⟨w2, hW2⟩ := exq ((w1).alloc (.cells #[.int .i64 mb, .string pb, .slice ob nb cb, .string bb] 26))
 have hz2 : (w1).heap.size = qv2 := by rw [hqv2]; exact hs1
 first | rw [← hW2, ← hqv2] | rw [← hW2]
 have hs2 := hsa hW2 hz2
 have bw := bal hW2
 have hb2 := hbt hb1 bw
 have HBv1_2 := hblk HBv1_1 bw
 have HBv2_2 := hnew hW2 hz2
 clear hb1 HBv1_1 bw hW2 hz2
 clear hs2 hqv2 hs1 hqv1
 have cv1_0 := (k4c HBv1_2).1
 have cv1_1 := (k4c HBv1_2).2.1
 have cv1_2 := (k4c HBv1_2).2.2.1
 have cv1_3 := (k4c HBv1_2).2.2.2
 go_wp2_with fail
 refine (specReqOk_any ma pa _ ba na basea fsa _ (HVa.out _ hb2) (by omega) HSa.out HPMa.out HBMa.out).mono ?_
 rintro e w3 ⟨ra, rfl, hra, bw⟩
 have hb3 := hbt hb2 bw
 have HBv1_3 := hblk HBv1_2 bw
 have HBv2_3 := hblk HBv2_2 bw
 clear hb2 HBv1_2 HBv2_2 bw
 clear cv1_0 cv1_1 cv1_2 cv1_3
 cases ra with
 | false =>
  have HNra : Hid (¬ (ReqP ma pa fsa ba)) := fun h => nomatch hra.2 h
  clear hra
  go_wp2_with fail
  go_ret
  exact BoolIs.no (fun h => HNra.out h.1.1.1.1) hb3
 | true =>
  have HYra : Hid (ReqP ma pa fsa ba) := hra.1 rfl
  clear hra
  have cv2_0 := (k4c HBv2_3).1
  have cv2_1 := (k4c HBv2_3).2.1
  have cv2_2 := (k4c HBv2_3).2.2.1
  have cv2_3 := (k4c HBv2_3).2.2.2
  go_wp2_with fail
  refine (specReqOk_any mb pb _ bb nb baseb fsb _ (HVb.out _ hb3) (by omega) HSb.out HPMb.out HBMb.out).mono ?_
  rintro e w4 ⟨rb, rfl, hrb, bw⟩
  have hb4 := hbt hb3 bw
  have HBv1_4 := hblk HBv1_3 bw
  have HBv2_4 := hblk HBv2_3 bw
  clear hb3 HBv1_3 HBv2_3 bw
  clear cv2_0 cv2_1 cv2_2 cv2_3
  cases rb with
  | false =>
   have HNrb : Hid (¬ (ReqP mb pb fsb bb)) := fun h => nomatch hrb.2 h
   clear hrb
   go_wp2_with fail
   go_ret
   exact BoolIs.no (fun h => HNrb.out h.1.2.1.1) hb4
  | true =>
   have HYrb : Hid (ReqP mb pb fsb bb) := hrb.1 rfl
   clear hrb
   by_cases hc1 : ma = 1
   ·
    have hc1b : ((ma : Int) == (1 : Int)) = true := by simpa using hc1
    have hc1n : ((ma : Int) != (1 : Int)) = false := by simpa using hc1
    have HMEa : Hid ((ma = 1)) := hc1
    have hc1H : Hid (ma = 1) := hc1
    clear hc1
    by_cases hc2 : mb = 1
    ·
     have hc2b : ((mb : Int) == (1 : Int)) = true := by simpa using hc2
     have hc2n : ((mb : Int) != (1 : Int)) = false := by simpa using hc2
     have HMEb : Hid ((mb = 1)) := hc2
     have hc2H : Hid (mb = 1) := hc2
     clear hc2
     have cv1_0 := (k4c HBv1_4).1
     have cv1_1 := (k4c HBv1_4).2.1
     have cv2_0 := (k4c HBv2_4).1
     have cv2_1 := (k4c HBv2_4).2.1
     by_cases hc3 : pa = pb
     ·
      have hc3b : ((pa).toList == (pb).toList) = true := (text_beq _ _).2 hc3
      have HPP : Hid ((pa = pb)) := hc3
      clear hc3
      have cv1_2 := (k4c HBv1_4).2.2.1
      have cv2_2 := (k4c HBv2_4).2.2.1
      go_wp2_with fail
      refine (l15Fields_any _ _ na nb _ _ fsa fsb _ (HVa.out _ hb4) (HVb.out _ hb4) (by omega) (by omega)).mono ?_
      rintro e w5 ⟨lf, rfl, hlf, bw⟩
      have hb5 := hbt hb4 bw
      have HBv1_5 := hblk HBv1_4 bw
      have HBv2_5 := hblk HBv2_4 bw
      clear hb4 HBv1_4 HBv2_4 bw
      clear cv1_0 cv1_1 cv2_0 cv2_1 cv1_2 cv2_2
      cases lf with
      | false =>
       have HNlf : Hid (¬ (fsa = fsb)) := fun h => nomatch hlf.2 h
       clear hlf
       go_wp2_with fail
       go_ret
       exact BoolIs.no (fun h => HNlf.out h.2.2) hb5
      | true =>
       have HYlf : Hid (fsa = fsb) := hlf.1 rfl
       clear hlf
       have cv1_2 := (k4c HBv1_5).2.2.1
       go_wp2_with fail
       refine (HCCa.out _ hb5).mono ?_
       rintro e w6 ⟨rfl, bw⟩
       have hb6 := hbt hb5 bw
       have HBv1_6 := hblk HBv1_5 bw
       have HBv2_6 := hblk HBv2_5 bw
       clear hb5 HBv1_5 HBv2_5 bw
       clear cv1_2
       cases xa0 with
       | false =>
        have HXNa : Hid ((ccR (getV fsa ccName)).ns = false) := by show _ = _; rw [HCKa.out]
        go_wp2_with fail
        go_ret
        exact BoolIs.yes ⟨⟨⟨⟨HYra.out, HMEa.out⟩, HXNa.out⟩, ⟨HYrb.out, HMEb.out⟩, by rw [← HYlf.out]; exact HXNa.out⟩, HPP.out, HYlf.out⟩ hb6
       | true =>
        have HXNa : Hid ((ccR (getV fsa ccName)).ns = true) := by show _ = _; rw [HCKa.out]
        go_wp2_with fail
        go_ret
        exact BoolIs.no (fun h => (by have h1 := h.1.1.2; rw [HXNa.out] at h1; exact absurd h1 (by decide))) hb6
     ·
      have hc3b : ((pa).toList == (pb).toList) = false := text_beq_no hc3
      have HPP : Hid (¬ (pa = pb)) := hc3
      clear hc3
      go_wp2_with fail
      go_ret
      exact BoolIs.no (fun h => HPP.out h.2.1) hb4
    ·
     have hc2b : ((mb : Int) == (1 : Int)) = false := by simpa using hc2
     have hc2n : ((mb : Int) != (1 : Int)) = true := by simpa using hc2
     have HMEb : Hid (¬ (mb = 1)) := hc2
     have hc2H : Hid (¬ (mb = 1)) := hc2
     clear hc2
     have cv1_0 := (k4c HBv1_4).1
     have cv2_0 := (k4c HBv2_4).1
     go_wp2_with fail
     go_ret
     exact BoolIs.no (fun h => HMEb.out h.1.2.1.2) hb4
   ·
    have hc1b : ((ma : Int) == (1 : Int)) = false := by simpa using hc1
    have hc1n : ((ma : Int) != (1 : Int)) = true := by simpa using hc1
    have HMEa : Hid (¬ (ma = 1)) := hc1
    have hc1H : Hid (¬ (ma = 1)) := hc1
    clear hc1
    have cv1_0 := (k4c HBv1_4).1
    go_wp2_with fail
    go_ret
    exact BoolIs.no (fun h => HMEa.out h.1.1.1.2) hb4
end Go.Proofs.YtmcmeeibogkpaaaGreatDoorR
namespace Go.Proofs.YtmcmeeibogkpaaaGreatDoorR
open Go.RowKit
open Go.Lib hiding intOf
theorem equalFld_eq (v1 v2 : Value) (n b1 b2 : Nat) (fs gs : List (ByteArray × ByteArray)) (w : World) (h1 : FieldsV w b1 v1 n fs) (h2 : FieldsV w b2 v2 n gs) (hn : n ≤ 1073741824) :
  Calls Tryz.prog 53 #[v1, v2] w fun e w' => BoolIs (fs = gs) w e w' := by
 classical
 have HL1 : Hid (fs.length = n) := h1.len
 have HL2 : Hid (gs.length = n) := h2.len
 obtain ⟨oa, ca, rfl, ra⟩ := h1.slice
 obtain ⟨ob, cb, rfl, rb⟩ := h2.slice
 have HRA : Hid (∀ k, k < n → ∃ g, oa = some ⟨g, 0, none⟩ ∧ FieldRow b1 w g n ca fs) := ra
 have HRB : Hid (∀ k, k < n → ∃ g, ob = some ⟨g, 0, none⟩ ∧ FieldRow b2 w g n cb gs) := rb
 clear ra rb h1 h2
 have hgd := guardFld
 have hnn : ((n : Int) != (n : Int)) = false := by simp
 go_enter Tryz.func53, Tryz.ntmps53
 go_wp2
 go_loopw [13] (fun i wr => ∃ k : Nat, k ≤ n ∧ i = .int .i64 (k : Int) ∧ Below w.heap.size w wr ∧ Hid (SameTo fs gs k)) (fun i _ => n - (intOf i).toNat)
 case atStart => exact ⟨0, Nat.zero_le _, rfl, Below.refl _ _, SameTo.zero _ _⟩
 case round =>
  obtain ⟨k, hk, rfl, hbw, HST⟩ := hrel
  by_cases hlt : k < n
  ·
   ·
    have hlt2 : (k : Int) < (n : Int) := by omega
    obtain ⟨g1, hoa, r1⟩ := HRA.out k hlt
    obtain ⟨g2, hob, r2⟩ := HRB.out k hlt
    subst hoa hob
    obtain ⟨na, hna⟩ := exq (nameAt fs k)
    obtain ⟨va, hva⟩ := exq (valAt fs k)
    obtain ⟨nb, hnb⟩ := exq (nameAt gs k)
    obtain ⟨vb, hvb⟩ := exq (valAt gs k)
    have ha := (r1.below hbw r1.lt).name k hlt
    have hb := (r1.below hbw r1.lt).val k hlt
    have hc := (r2.below hbw r2.lt).name k hlt
    have hd := (r2.below hbw r2.lt).val k hlt
    rw [← hna] at ha
    rw [← hva] at hb
    rw [← hnb] at hc
    rw [← hvb] at hd
    by_cases he : na = nb ∧ va = vb
    ·
     have HS2 : Hid (SameTo fs gs (k + 1)) := HST.out.step (by rw [← hna, ← hnb]; exact he.1) (by rw [← hva, ← hvb]; exact he.2)
     obtain ⟨e1, e2⟩ := he
     subst e1 e2
     have hq : ∀ W : World, (binOp .neq 74 (.agg #[.string na, .string va]) (.agg #[.string na, .string va])).run Tryz.prog W = .ok (.bool false) W := fun W => by rw [neqFld]; simp
     clear hna hva hnb hvb r1 r2 HST
     go_wp2
     go_region
     go_wp2
     go_roundw
     case rel => exact ⟨k + 1, by omega, by go_num, hbw.drew, HS2⟩
     case measure => simp [intOf]; omega
    ·
     have HNE : Hid (¬ fs = gs) := fun e => he ⟨by rw [hna, hnb, e], by rw [hva, hvb, e]⟩
     have hq : ∀ W : World, (binOp .neq 74 (.agg #[.string na, .string va]) (.agg #[.string nb, .string vb])).run Tryz.prog W = .ok (.bool true) W := fun W => by rw [neqFld, decide_eq_false he]; rfl
     clear hna hva hnb hvb r1 r2 HST he
     go_wp2
     go_region
     go_wp2
     go_ret
     exact BoolIs.no HNE.out hbw.drew
  ·
   have HEQ : Hid (fs = gs) := by
    have h := HST.out
    rw [show k = n by omega] at h
    exact h.all HL1.out HL2.out
   go_wp2
   go_ret
   exact BoolIs.yes HEQ.out hbw
theorem equalFld_any (v1 v2 : Value) (n m b1 b2 : Nat) (fs gs : List (ByteArray × ByteArray)) (w : World) (h1 : FieldsV w b1 v1 n fs) (h2 : FieldsV w b2 v2 m gs) (hn : n ≤ 1073741824) (hm : m ≤ 1073741824) :
  Calls Tryz.prog 53 #[v1, v2] w fun e w' => BoolIs (fs = gs) w e w' := by
 by_cases hnm : n = m
 ·
  subst hnm
  exact equalFld_eq v1 v2 n b1 b2 fs gs w h1 h2 hn
 ·
  have HNE : Hid (¬ fs = gs) := fun e => by
   have e1 := h1.len
   have e2 := h2.len
   rw [e] at e1
   omega
  have hne : ((n : Int) != (m : Int)) = true := by simpa using (show ¬ (n : Int) = (m : Int) by omega)
  obtain ⟨oa, ca, rfl, _⟩ := h1.slice
  obtain ⟨ob, cb, rfl, _⟩ := h2.slice
  go_enter Tryz.func53, Tryz.ntmps53
  go_wp2
  go_ret
  exact BoolIs.no HNE.out (Below.refl _ _)
end Go.Proofs.YtmcmeeibogkpaaaGreatDoorR
namespace Go.Proofs.YtmcmeeibogkpaaaGreatDoorR
open Go.RowKit
open Go.Lib hiding intOf
theorem isRightGet_any (m : Int) (p : ByteArray) (v : Value) (b : ByteArray) (n base : Nat) (fs : List (ByteArray × ByteArray)) (w : World) (hv : FieldsV w base v n fs) (hn : n ≤ 1073741824) (hsz : WalkF n fs) (hp : p.size ≤ maxLen) (hb : b.size ≤ maxLen) :
  Calls Tryz.prog 101 #[.agg #[.int .i64 m, .string p, v, .string b]] w fun e w' => BoolIs (ReqP m p fs b ∧ m = 1) w e w' := by
 obtain ⟨oa, cap, rfl, _⟩ := hv.slice
 obtain ⟨r, hr⟩ := exq (w.heap.size)
 obtain ⟨W1, hW1⟩ := exq (w.alloc (.cells #[.int .i64 m, .string p, .slice oa n cap, .string b] 26))
 have HW1 : Hid (w.alloc (.cells #[.int .i64 m, .string p, .slice oa n cap, .string b] 26) = W1) := hW1.symm
 have H1 : Hid (W1.heap[r]? = some (.cells #[.int .i64 m, .string p, .slice oa n cap, .string b] 26)) := by show _ = _; rw [hW1, hr]; exact heap_alloc_new w _
 have HB1 : Hid (Below w.heap.size w W1) := by show Below _ _ _; rw [hW1]; exact (Below.refl _ _).alloc (Nat.le_refl _) _
 have hv1 := hv.below HB1.out
 obtain ⟨⟨c0, c1, c2, c3⟩, _⟩ := four_facts H1.out
 clear hW1 hv
 go_enter Tryz.func101, Tryz.ntmps101
 go_upto_region 1 with fail
 rw [HW1.out, ← hr]
 clear hr HW1
 go_wp2_with fail
 refine (implReqOk_any m p _ b n base fs _ hv1 hn hsz hp hb).mono ?_
 rintro e w2 ⟨t, rfl, ht, b2⟩
 have HB2 : Hid (Below w.heap.size w w2) := HB1.out.trans (b2.mono HB1.out.size)
 have H2 : Hid (w2.heap[r]? = some (.cells #[.int .i64 m, .string p, .slice oa n cap, .string b] 26)) := by show _ = _; rw [b2.block r (Array.getElem?_eq_some_iff.1 H1.out).1]; exact H1.out
 clear c0 c1 c2 c3 hv1 H1 HB1 b2
 cases t with
 | false =>
  have HF : Hid (¬ (ReqP m p fs b ∧ m = 1)) := fun h => nomatch ht.2 h.1
  clear ht
  go_wp2_with fail
  go_ret
  exact BoolIs.no HF.out HB2.out
 | true =>
  have HQ : Hid (ReqP m p fs b) := ht.1 rfl
  obtain ⟨⟨c0, _⟩, _⟩ := four_facts H2.out
  have HT : Hid ((m == 1) = true ↔ (ReqP m p fs b ∧ m = 1)) := by show _ ↔ _; simp [HQ.out]
  clear ht HQ H2
  go_wp2_with fail
  go_ret
  exact ⟨_, rfl, HT.out, HB2.out⟩
end Go.Proofs.YtmcmeeibogkpaaaGreatDoorR
namespace Go.Proofs.YtmcmeeibogkpaaaGreatDoorR
open Go.RowKit
open Go.Lib hiding intOf
theorem mayBeFromHere_any (ma : Int) (pa : ByteArray) (va : Value) (ba : ByteArray) (na basea : Nat) (fsa : List (ByteArray × ByteArray)) (w : World) (hva : FieldsV w basea va na fsa) (hna : na ≤ 1048576) (hsa : WalkF na fsa) (hpa : pa.size ≤ maxLen) (hba : ba.size ≤ maxLen) (hga : ∀ x, (getV fsa x).size ≤ 1048576) (hca : CopyF fsa) :
  Calls Tryz.prog 52 #[.agg #[.int .i64 ma, .string pa, va, .string ba]] w fun e w' => BoolIs (HereP ma pa fsa ba) w e w' := by
 obtain ⟨oa, ca, hsl, _⟩ := hva.slice
 subst hsl
 have HVa : Hid (∀ W, Below w.heap.size w W → FieldsV W basea (.slice oa na ca) na fsa) := fun W h => hva.below h
 have HLFa : Hid (fsa.length = na) := hva.len
 have HSa : Hid (WalkF na fsa) := hsa
 have HPMa : Hid (pa.size ≤ maxLen) := hpa
 have HBMa : Hid (ba.size ≤ maxLen) := hba
 have HQVa : Hid (∀ x, (getV fsa x).size ≤ 1048576) := hga
 have HCa : Hid (CopyF fsa) := hca
 clear hva hsa hpa hba hga hca
 obtain ⟨ka, hka⟩ := exq (ccR (getV fsa ccName))
 have HCCa : Hid (∀ W, Below w.heap.size w W → Calls Tryz.prog 102 #[.slice oa na ca] W fun e w' => e = .returned (.agg #[.bool ka.ns, .bool ka.nc, .bool ka.pr, .bool ka.mu, .bool ka.ha, .int .i64 ka.age]) ∧ Below W.heap.size W w') := fun W hW => by
  have h := implCcOf_any _ na basea fsa W (HVa.out W hW) (by omega) HCa.out (HQVa.out _)
  rw [← hka] at h
  exact h
 have HCKa : Hid (ccR (getV fsa ccName) = ka) := hka.symm
 clear hka
 obtain ⟨xa0, xa1, xa2, xa3, xa4, xa5⟩ := ka
 dsimp only at HCCa
 have hfna := fun W => cc_ns xa0 xa1 xa2 xa3 xa4 xa5 W
 have hfca := fun W => cc_nc xa0 xa1 xa2 xa3 xa4 xa5 W
 have hb0 : Below w.heap.size w w := Below.refl _ _
 go_enter Tryz.func52, Tryz.ntmps52
 go_upto_region 1 with fail
 obtain ⟨qv1, hqv1⟩ := exq ((w).heap.size)
 obtain ⟨w1, hW1⟩ := exq ((w).alloc (.cells #[.int .i64 ma, .string pa, .slice oa na ca, .string ba] 26))
 have hz1 : (w).heap.size = qv1 := hqv1.symm
 first | rw [← hW1, ← hqv1] | rw [← hW1]
 have hs1 := hsa hW1 hz1
 have bw := bal hW1
 have hb1 := hbt hb0 bw
 have HBv1_1 := hnew hW1 hz1
 clear hb0 bw hW1 hz1
 clear hs1 hqv1
 have cv1_0 := (k4c HBv1_1).1
 have cv1_1 := (k4c HBv1_1).2.1
 have cv1_2 := (k4c HBv1_1).2.2.1
 have cv1_3 := (k4c HBv1_1).2.2.2
 go_wp2_with fail
 refine (isRightGet_any ma pa _ ba na basea fsa _ (HVa.out _ hb1) (by omega) HSa.out HPMa.out HBMa.out).mono ?_
 rintro e w2 ⟨rg, rfl, hrg, bw⟩
 have hb2 := hbt hb1 bw
 have HBv1_2 := hblk HBv1_1 bw
 clear hb1 HBv1_1 bw
 clear cv1_0 cv1_1 cv1_2 cv1_3
 cases rg with
 | false =>
  have HNrg : Hid (¬ (ReqP ma pa fsa ba ∧ ma = 1)) := fun h => nomatch hrg.2 h
  clear hrg
  go_wp2_with fail
  go_ret
  exact BoolIs.no (fun h => HNrg.out h.1) hb2
 | true =>
  have HYrg : Hid (ReqP ma pa fsa ba ∧ ma = 1) := hrg.1 rfl
  clear hrg
  have cv1_2 := (k4c HBv1_2).2.2.1
  go_wp2_with fail
  refine (HCCa.out _ hb2).mono ?_
  rintro e w3 ⟨rfl, bw⟩
  have hb3 := hbt hb2 bw
  have HBv1_3 := hblk HBv1_2 bw
  clear hb2 HBv1_2 bw
  clear cv1_2
  cases xa0 with
  | false =>
   have HXNa : Hid ((ccR (getV fsa ccName)).ns = false) := by show _ = _; rw [HCKa.out]
   go_wp2_with fail
   go_ret
   exact BoolIs.yes ⟨HYrg.out, HXNa.out⟩ hb3
  | true =>
   have HXNa : Hid ((ccR (getV fsa ccName)).ns = true) := by show _ = _; rw [HCKa.out]
   go_wp2_with fail
   go_ret
   exact BoolIs.no (fun h => by have h1 := h.2; rw [HXNa.out] at h1; exact absurd h1 (by decide)) hb3
end Go.Proofs.YtmcmeeibogkpaaaGreatDoorR
namespace Go.Proofs.YtmcmeeibogkpaaaGreatDoorR
open Go.RowKit
open Go.Lib hiding intOf
theorem implAlike_any (ma : Int) (pa : ByteArray) (va : Value) (ba : ByteArray) (na basea : Nat) (fsa : List (ByteArray × ByteArray)) (mb : Int) (pb : ByteArray) (vb : Value) (bb : ByteArray) (nb baseb : Nat) (fsb : List (ByteArray × ByteArray)) (w : World) (hva : FieldsV w basea va na fsa) (hna : na ≤ 1048576) (hsa : WalkF na fsa) (hpa : pa.size ≤ maxLen) (hba : ba.size ≤ maxLen) (hga : ∀ x, (getV fsa x).size ≤ 1048576) (hca : CopyF fsa) (hvb : FieldsV w baseb vb nb fsb) (hnb : nb ≤ 1048576) (hsb : WalkF nb fsb) (hpb : pb.size ≤ maxLen) (hbb : bb.size ≤ maxLen) (hgb : ∀ x, (getV fsb x).size ≤ 1048576) (hcb : CopyF fsb) :
  Calls Tryz.prog 12 #[.agg #[.int .i64 ma, .string pa, va, .string ba], .agg #[.int .i64 mb, .string pb, vb, .string bb]] w fun e w' => BoolIs (AlikeP ma pa fsa ba mb pb fsb bb) w e w' := by
 obtain ⟨oa, ca, hsl, _⟩ := hva.slice
 subst hsl
 have HVa : Hid (∀ W, Below w.heap.size w W → FieldsV W basea (.slice oa na ca) na fsa) := fun W h => hva.below h
 have HLFa : Hid (fsa.length = na) := hva.len
 have HSa : Hid (WalkF na fsa) := hsa
 have HPMa : Hid (pa.size ≤ maxLen) := hpa
 have HBMa : Hid (ba.size ≤ maxLen) := hba
 have HQVa : Hid (∀ x, (getV fsa x).size ≤ 1048576) := hga
 have HCa : Hid (CopyF fsa) := hca
 clear hva hsa hpa hba hga hca
 obtain ⟨ob, cb, hsl, _⟩ := hvb.slice
 subst hsl
 have HVb : Hid (∀ W, Below w.heap.size w W → FieldsV W baseb (.slice ob nb cb) nb fsb) := fun W h => hvb.below h
 have HLFb : Hid (fsb.length = nb) := hvb.len
 have HSb : Hid (WalkF nb fsb) := hsb
 have HPMb : Hid (pb.size ≤ maxLen) := hpb
 have HBMb : Hid (bb.size ≤ maxLen) := hbb
 have HQVb : Hid (∀ x, (getV fsb x).size ≤ 1048576) := hgb
 have HCb : Hid (CopyF fsb) := hcb
 clear hvb hsb hpb hbb hgb hcb
 have hb0 : Below w.heap.size w w := Below.refl _ _
 go_enter Tryz.func12, Tryz.ntmps12
 go_upto_region 1 with fail
 obtain ⟨qv1, hqv1⟩ := exq ((w).heap.size)
 obtain ⟨w1, hW1⟩ := exq ((w).alloc (.cells #[.int .i64 ma, .string pa, .slice oa na ca, .string ba] 26))
 have hz1 : (w).heap.size = qv1 := hqv1.symm
 first | rw [← hW1, ← hqv1] | rw [← hW1]
 have hs1 := hsa hW1 hz1
 have bw := bal hW1
 have hb1 := hbt hb0 bw
 have HBv1_1 := hnew hW1 hz1
 clear hb0 bw hW1 hz1
 obtain ⟨qv2, hqv2⟩ := exq (qv1 + 1)
 obtain ⟨w2, hW2⟩ := exq ((w1).alloc (.cells #[.int .i64 mb, .string pb, .slice ob nb cb, .string bb] 26))
 have hz2 : (w1).heap.size = qv2 := by rw [hqv2]; exact hs1
 first | rw [← hW2, ← hqv2] | rw [← hW2]
 have hs2 := hsa hW2 hz2
 have bw := bal hW2
 have hb2 := hbt hb1 bw
 have HBv1_2 := hblk HBv1_1 bw
 have HBv2_2 := hnew hW2 hz2
 clear hb1 HBv1_1 bw hW2 hz2
 clear hs2 hqv2 hs1 hqv1
 have cv1_0 := (k4c HBv1_2).1
 have cv1_1 := (k4c HBv1_2).2.1
 have cv1_2 := (k4c HBv1_2).2.2.1
 have cv1_3 := (k4c HBv1_2).2.2.2
 go_wp2_with fail
 refine (mayBeFromHere_any ma pa _ ba na basea fsa _ (HVa.out _ hb2) (by omega) HSa.out HPMa.out HBMa.out HQVa.out HCa.out).mono ?_
 rintro e w3 ⟨ha, rfl, hha, bw⟩
 have hb3 := hbt hb2 bw
 have HBv1_3 := hblk HBv1_2 bw
 have HBv2_3 := hblk HBv2_2 bw
 clear hb2 HBv1_2 HBv2_2 bw
 clear cv1_0 cv1_1 cv1_2 cv1_3
 cases ha with
 | false =>
  have HNha : Hid (¬ (HereP ma pa fsa ba)) := fun h => nomatch hha.2 h
  clear hha
  go_wp2_with fail
  go_ret
  exact BoolIs.no (fun h => HNha.out h.1.1) hb3
 | true =>
  have HYha : Hid (HereP ma pa fsa ba) := hha.1 rfl
  clear hha
  have cv2_0 := (k4c HBv2_3).1
  have cv2_1 := (k4c HBv2_3).2.1
  have cv2_2 := (k4c HBv2_3).2.2.1
  have cv2_3 := (k4c HBv2_3).2.2.2
  go_wp2_with fail
  refine (mayBeFromHere_any mb pb _ bb nb baseb fsb _ (HVb.out _ hb3) (by omega) HSb.out HPMb.out HBMb.out HQVb.out HCb.out).mono ?_
  rintro e w4 ⟨hb, rfl, hhb, bw⟩
  have hb4 := hbt hb3 bw
  have HBv1_4 := hblk HBv1_3 bw
  have HBv2_4 := hblk HBv2_3 bw
  clear hb3 HBv1_3 HBv2_3 bw
  clear cv2_0 cv2_1 cv2_2 cv2_3
  cases hb with
  | false =>
   have HNhb : Hid (¬ (HereP mb pb fsb bb)) := fun h => nomatch hhb.2 h
   clear hhb
   go_wp2_with fail
   go_ret
   exact BoolIs.no (fun h => HNhb.out h.1.2) hb4
  | true =>
   have HYhb : Hid (HereP mb pb fsb bb) := hhb.1 rfl
   clear hhb
   by_cases hc1 : pa = pb
   ·
    have hc1b : ((pa).toList == (pb).toList) = true := (text_beq _ _).2 hc1
    have HPP : Hid ((pa = pb)) := hc1
    clear hc1
    have cv1_1 := (k4c HBv1_4).2.1
    have cv1_2 := (k4c HBv1_4).2.2.1
    have cv2_1 := (k4c HBv2_4).2.1
    have cv2_2 := (k4c HBv2_4).2.2.1
    go_wp2_with fail
    refine (equalFld_any _ _ na nb _ _ fsa fsb _ (HVa.out _ hb4) (HVb.out _ hb4) (by omega) (by omega)).mono ?_
    rintro e w5 ⟨lf, rfl, hlf, bw⟩
    have hb5 := hbt hb4 bw
    have HBv1_5 := hblk HBv1_4 bw
    have HBv2_5 := hblk HBv2_4 bw
    clear hb4 HBv1_4 HBv2_4 bw
    clear cv1_1 cv1_2 cv2_1 cv2_2
    cases lf with
    | false =>
     have HNlf : Hid (¬ (fsa = fsb)) := fun h => nomatch hlf.2 h
     clear hlf
     go_wp2_with fail
     go_ret
     exact BoolIs.no (fun h => HNlf.out h.2.2) hb5
    | true =>
     have HYlf : Hid (fsa = fsb) := hlf.1 rfl
     clear hlf
     go_wp2_with fail
     go_ret
     exact BoolIs.yes ⟨⟨HYha.out, HYhb.out⟩, HPP.out, HYlf.out⟩ hb5
   ·
    have hc1b : ((pa).toList == (pb).toList) = false := text_beq_no hc1
    have HPP : Hid (¬ (pa = pb)) := hc1
    clear hc1
    have cv1_1 := (k4c HBv1_4).2.1
    have cv2_1 := (k4c HBv2_4).2.1
    go_wp2_with fail
    go_ret
    exact BoolIs.no (fun h => HPP.out h.2.1) hb4
end Go.Proofs.YtmcmeeibogkpaaaGreatDoorR
namespace Go.Proofs.YtmcmeeibogkpaaaGreatDoorR
open Go.RowKit
open Go.Lib hiding intOf
theorem val_num (n : Int) (h0 : 0 ≤ n) (h1 : n ≤ 1000000) : ValOk (numTextI n) := by
 have hn := (ccNum_in n h0 h1).1
 have hsz : (numTextI n).size ≤ 8 := by
  unfold numTextI
  split
  · decide
  · exact numText_size _
 have hb : ∀ j (h : j < (numTextI n).size), 48 ≤ ((numTextI n)[j]'h).toNat ∧ ((numTextI n)[j]'h).toNat ≤ 57 := fun j h => hn.2.1 _ (List.mem_of_getElem? (byte_get _ j h))
 have hp := hn.1
 refine ⟨hn.1, by omega, fun j h => ?_, (trim_self_iff _ hn.1).2 ⟨?_, ?_⟩⟩
 ·
  have := hb j h
  unfold ValB
  omega
 ·
  have := hb 0 (by omega)
  omega
 ·
  have := hb ((numTextI n).size - 1) (by omega)
  omega
theorem nameAt_map (fs : List (ByteArray × ByteArray)) (i : Nat) (hi : i < (fs.map (·.1)).length) : (fs.map (·.1))[i] = nameAt fs i := by
 have hi' : i < fs.length := by rw [List.length_map] at hi; exact hi
 rw [List.getElem_map]
 unfold nameAt
 rw [List.getD_eq_getElem?_getD, List.getElem?_eq_getElem hi']
 rfl
theorem names_nodup {fs : List (ByteArray × ByteArray)} (h : FldsOk fs) : (fs.map (·.1)).Nodup := by
 refine List.pairwise_iff_getElem.2 fun i j hi hj hij e => ?_
 rw [nameAt_map, nameAt_map] at e
 have hi' : i < fs.length := by rw [List.length_map] at hi; exact hi
 have hj' : j < fs.length := by rw [List.length_map] at hj; exact hj
 have h1 := (h.2 i hi').2.2.1
 have h2 := (h.2 j hj').2.2.1
 rw [e] at h1
 omega
theorem flds_of {fs : List (ByteArray × ByteArray)} (hl : fs.length ≤ 8) (hm : ∀ f ∈ fs, TokOk f.1 ∧ ValOk f.2 ∧ f.1 ≠ clen) (hn : (fs.map (·.1)).Nodup) : FldsOk fs := by
 refine ⟨hl, fun i hi => ?_⟩
 have h1 := hm (nameAt fs i, valAt fs i) (by rw [pair_at fs i hi]; exact List.getElem_mem hi)
 refine ⟨h1.1, h1.2.1, atF_uniq hi (fun j hj e => ?_) rfl, h1.2.2⟩
 have := List.pairwise_iff_getElem.1 hn j i (by rw [List.length_map]; omega) (by rw [List.length_map]; omega) hj
 rw [nameAt_map, nameAt_map] at this
 exact this e
theorem short_flds {gs : List (ByteArray × ByteArray)} (h : FldsOk gs) : FldsOk (shortF gs) :=
 flds_of (Nat.le_trans (shortF_le gs) h.1) (fun f hf => flds_mem h f (List.mem_filter.1 hf).1) ((names_nodup h).sublist (List.filter_sublist.map _))
theorem put_flds {fs : List (ByteArray × ByteArray)} {a v : ByteArray} (h : FldsOk fs) (hl : fs.length < 8) (ha : TokOk a) (hv : ValOk v) (hc : a ≠ clen) : FldsOk (putF fs a v) := by
 by_cases hin : atF fs a < fs.length
 ·
  rw [putF_eq fs a v hin]
  refine flds_of (by rw [List.length_set]; exact h.1) (fun f hf => ?_) ?_
  ·
   rcases List.mem_or_eq_of_mem_set hf with hf | rfl
   · exact flds_mem h f hf
   · exact ⟨ha, hv, hc⟩
  ·
   rw [List.map_set]
   have e : (fs.map (·.1)).set (atF fs a) a = fs.map (·.1) := by
    refine List.ext_getElem (by rw [List.length_set]) fun i h1 h2 => ?_
    rw [List.getElem_set]
    split
    ·
     rename_i e1
     subst e1
     rw [nameAt_map]
     exact (atF_here fs a hin).symm
    · rfl
   rw [e]
   exact names_nodup h
 ·
  have e : putF fs a v = fs ++ [(a, v)] := if_neg hin
  have hge : atF fs a = fs.length := by have := atF_le fs a; omega
  rw [e]
  refine flds_of (by rw [List.length_append]; exact hl) (fun f hf => ?_) ?_
  ·
   rcases List.mem_append.1 hf with hf | hf
   · exact flds_mem h f hf
   · rw [List.mem_singleton.1 hf]; exact ⟨ha, hv, hc⟩
  ·
   rw [List.map_append]
   refine List.nodup_append.2 ⟨names_nodup h, by simp, fun x hx y hy e2 => ?_⟩
   have hy2 : y = a := by simpa using hy
   obtain ⟨k, hk, e3⟩ := List.getElem_of_mem hx
   rw [nameAt_map] at e3
   have hk' : k < fs.length := by rw [List.length_map] at hk; exact hk
   exact atF_before fs a k (by omega) (by rw [e3, e2, hy2])
theorem age_tok : TokOk ageName := by
 refine ⟨by decide, by decide, fun j h => ?_⟩
 have h3 : ∀ k : Fin 3, TokB (((ageName[k.1]'(show k.1 < ageName.size from k.2)).toNat : Nat) : Int) := by unfold TokB; decide
 exact h3 ⟨j, h⟩
theorem ans_right {fs gs : List (ByteArray × ByteArray)} {st : Int} {d : ByteArray} (u now : Int) (h : RespP st gs d) : RespP (ansS fs gs st) (ansF fs gs st d u now) (ansB fs gs d) ∧ ((getB (ansF fs gs st d u now) ageName = true ∧ getV (ansF fs gs st d u now) ageName = ageT gs u now) ∨ 8 ≤ gs.length) := by
 have hG : RespP (ansS fs gs st) (ansG fs gs) (ansB fs gs d) := by
  by_cases hs : SameP fs gs
  ·
   rw [ansS_yes hs, ansG_yes hs, ansB_yes hs]
   exact ⟨by decide, short_flds h.2.1, by decide⟩
  ·
   rw [ansS_no hs, ansG_no hs, ansB_no hs]
   exact h
 unfold ansF
 by_cases hp : RespP (ansS fs gs st) (putF (ansG fs gs) ageName (ageT gs u now)) (ansB fs gs d)
 ·
  rw [merge_put hp]
  have hg := put_got (ansG fs gs) ageName (ageT gs u now)
  exact ⟨hp, .inl ⟨hg.2, hg.1⟩⟩
 ·
  rw [merge_not hp]
  refine ⟨hG, .inr ?_⟩
  rcases Nat.lt_or_ge gs.length 8 with hl | hl
  · exact absurd ⟨hG.1, put_flds hG.2.1 (Nat.lt_of_le_of_lt (ansG_le fs gs) hl) age_tok (val_num _ (ageAt_in gs u now).1 (ageAt_in gs u now).2) (by decide), hG.2.2⟩ hp
  · exact hl
theorem ans_short {fs gs : List (ByteArray × ByteArray)} {st : Int} {d : ByteArray} {u now : Int} (h : ShortF gs) : ShortF (ansF fs gs st d u now) := by
 have hG : ShortF (ansG fs gs) := by
  unfold ansG
  split
  · exact fun f hf => h f (List.mem_filter.1 hf).1
  · exact h
 unfold ansF
 by_cases hp : RespP (ansS fs gs st) (putF (ansG fs gs) ageName (ageT gs u now)) (ansB fs gs d)
 ·
  rw [merge_put hp]
  exact hG.put (by decide) (Nat.le_trans (ageT_size gs u now) (by decide))
 ·
  rw [merge_not hp]
  exact hG
theorem alike_comm {m : Int} {p : ByteArray} {fs : List (ByteArray × ByteArray)} {b : ByteArray} {m2 : Int} {p2 : ByteArray} {gs : List (ByteArray × ByteArray)} {c : ByteArray} : AlikeP m p fs b m2 p2 gs c ↔ AlikeP m2 p2 gs c m p fs b :=
 ⟨fun h => ⟨⟨h.1.2, h.1.1⟩, h.2.1.symm, h.2.2.symm⟩, fun h => ⟨⟨h.1.2, h.1.1⟩, h.2.1.symm, h.2.2.symm⟩⟩
theorem get_head (p : ByteArray) (fs : List (ByteArray × ByteArray)) (b : ByteArray) : ∃ r, reqT 1 p fs b = ⟨#[71, 69, 84, 32]⟩ ++ r := by
 unfold reqT reqHead
 split
 all_goals exact ⟨_, by simp only [ByteArray.append_assoc]; rfl⟩
theorem get_four {p : ByteArray} {fs : List (ByteArray × ByteArray)} {b : ByteArray} : 4 ≤ (reqT 1 p fs b).size ∧ (reqT 1 p fs b).extract 0 4 = ⟨#[71, 69, 84, 32]⟩ := by
 obtain ⟨r, hr⟩ := get_head p fs b
 rw [hr]
 refine ⟨by rw [ByteArray.size_append]; exact Nat.le_add_right _ _, ?_⟩
 apply ByteArray.ext
 simp [ByteArray.extract_append]
 exact Or.inl rfl
end Go.Proofs.YtmcmeeibogkpaaaGreatDoorR
namespace Go.Proofs.YtmcmeeibogkpaaaGreatDoorR
open Go.ChangeShapes Go.WideShapes Go.ChangeAt Go.RowKit
theorem gTabType : (Tryz.prog.globals[0]?).map (·.type) = some 174 := by kernel_rfl
theorem cells62 : Tryz.prog.cellsOf 174 = 20 := by kernel_rfl
theorem cells55 : Tryz.prog.cellsOf 165 = 1 := by kernel_rfl
theorem table {W : World} (h : laidMetH Tryz.prog Rows.fnExactAnswerRow.laid W) : TabOk W := by
 have h1 : laidMet Tryz.prog Rows.fnExactAnswerRow.laid W := h
 obtain ⟨ps, hl, _⟩ := h1
 obtain ⟨g1, t1, cs1, f1, p1, q1, _, _, _, _, hr1, _⟩ := hl
 obtain ⟨g2, t2, cs2, f2, p2, q2, _, _, _, _, hr2, _⟩ := hr1
 obtain ⟨g3, t3, cs3, f3, p3, q3, hg, ht, hvar, hd, _, _⟩ := hr2
 obtain rfl := Option.some.inj (gTab.symm.trans hg)
 obtain rfl := Option.some.inj (gTabType.symm.trans ht)
 unfold TabOk Lib.TabIs
 rw [hvar, ← Lib.cells_of_tab (zs := Lib.pow10Tab) Tryz.underlying174 Tryz.underlying165 cells55 cells62 hd]
/-- A world with the three tables as their initialisers lay them. -/
def withTables (w : World) : World :=
 { w with heap := ((w.heap.modify 0 fun
   | .cells _ t frozen => .cells #[.int .u64 1, .int .u64 10, .int .u64 100, .int .u64 1000, .int .u64 10000, .int .u64 100000, .int .u64 1000000, .int .u64 10000000, .int .u64 100000000, .int .u64 1000000000, .int .u64 10000000000, .int .u64 100000000000, .int .u64 1000000000000, .int .u64 10000000000000, .int .u64 100000000000000, .int .u64 1000000000000000, .int .u64 10000000000000000, .int .u64 100000000000000000, .int .u64 1000000000000000000, .int .u64 10000000000000000000] t frozen
   | o => o).modify 1 fun
   | .cells _ t frozen => .cells #[.int .u8 0, .int .u8 1, .int .u8 28, .int .u8 2, .int .u8 29, .int .u8 14, .int .u8 24, .int .u8 3, .int .u8 30, .int .u8 22, .int .u8 20, .int .u8 15, .int .u8 25, .int .u8 17, .int .u8 4, .int .u8 8, .int .u8 31, .int .u8 27, .int .u8 13, .int .u8 23, .int .u8 21, .int .u8 19, .int .u8 16, .int .u8 7, .int .u8 26, .int .u8 12, .int .u8 18, .int .u8 6, .int .u8 11, .int .u8 5, .int .u8 10, .int .u8 9] t frozen
   | o => o).modify 2 fun
   | .cells _ t frozen => .cells #[.int .u8 0, .int .u8 1, .int .u8 56, .int .u8 2, .int .u8 57, .int .u8 49, .int .u8 28, .int .u8 3, .int .u8 61, .int .u8 58, .int .u8 42, .int .u8 50, .int .u8 38, .int .u8 29, .int .u8 17, .int .u8 4, .int .u8 62, .int .u8 47, .int .u8 59, .int .u8 36, .int .u8 45, .int .u8 43, .int .u8 51, .int .u8 22, .int .u8 53, .int .u8 39, .int .u8 33, .int .u8 30, .int .u8 24, .int .u8 18, .int .u8 12, .int .u8 5, .int .u8 63, .int .u8 55, .int .u8 48, .int .u8 27, .int .u8 60, .int .u8 41, .int .u8 37, .int .u8 16, .int .u8 46, .int .u8 35, .int .u8 44, .int .u8 21, .int .u8 52, .int .u8 32, .int .u8 23, .int .u8 11, .int .u8 54, .int .u8 26, .int .u8 40, .int .u8 15, .int .u8 34, .int .u8 20, .int .u8 31, .int .u8 10, .int .u8 25, .int .u8 14, .int .u8 19, .int .u8 9, .int .u8 13, .int .u8 8, .int .u8 7, .int .u8 6] t frozen
   | o => o }
end Go.Proofs.YtmcmeeibogkpaaaGreatDoorR
