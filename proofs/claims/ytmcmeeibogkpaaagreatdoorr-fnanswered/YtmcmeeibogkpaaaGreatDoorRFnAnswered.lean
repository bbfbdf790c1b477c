/- What is answered with a drawn object is it, with its age, or a short answer for who has it already (the law answers true), and the code reads as it did: for every code. The card lists the tables that strconv.Itoa's text names. -/
import Derived.Test.YtmcmeeibogkpaaaGreatDoorRFnAnsweredI
import Derived.Below
import Derived.ChangeOld
import Derived.ShutString
import Derived.Deep.RegionHeld3
import Derived.Deep.DrawnRows
import Derived.Deep.CutRange
import Derived.Deep.DeepCutAuto
namespace Go.Proofs.YtmcmeeibogkpaaaGreatDoorR
namespace fnAnswered
open Go.ChangeShapes Go.WideShapes Go.ChangeAt Go.RowKit
open Go.ChangeMaps (open_string shut_string)
attribute [local go_sem ↓] Go.wp_at_zero Go.wp_at_succ

theorem own : ownKnob Tryz.prog.godebug = none := by kernel_rfl
theorem laidOut : laidOutB Tryz.prog = true := by kernel_rfl
def IsRow (k : IntKind) (w : World) (a : Option Addr) (len cap : Nat) (zs : List Int) : Prop :=
  (a = none ∧ len = 0 ∧ cap = 0 ∧ zs = []) ∨
  ∃ x, a = some x ∧ len ≤ cap ∧ cap ≤ maxLen ∧ zs.length = cap ∧ (∀ i, i < zs.length → w.cell? (x.add i) = some (.int k (zs.getD i 0))) ∧ ∀ n ∈ zs, (Lit.int k n).wf = true
theorem row_cell {k : IntKind} {w : World} {x : Addr} {zs : List Int} (h : ∀ i, i < zs.length → w.cell? (x.add i) = some (.int k (zs.getD i 0))) (j : Nat) (hj : j < zs.length) : ∃ b off, x = ⟨b, off, none⟩ ∧ w.cell? ⟨b, off + j, none⟩ = some (.int k (zs.getD j 0)) := by
  obtain ⟨b, off, spot⟩ := x
  have hc := h j hj
  have hspot : spot = none := by
    have := World.cell?_spot (h 0 (by omega))
    simpa [Addr.add] using this
  subst hspot
  refine ⟨b, off, rfl, ?_⟩
  by_cases e : j = 0
  · subst e; simpa [Addr.add] using hc
  · simpa [Addr.add, e] using hc
theorem row_code {w : World} {a : Option Addr} {len cap : Nat} {zs : List Int} (h : IsRow .u8 w a len cap zs) (hl : len ≤ 1048576) : CodeAt w w.heap.size a len zs := by
  refine ⟨hl, fun j hj => ?_⟩
  rcases h with ⟨rfl, rfl, _, _⟩ | ⟨x, rfl, h1, _, h3, h4, h5⟩
  · omega
  · obtain ⟨b, off, rfl, hc2⟩ := row_cell h4 j (by omega)
    have hm : zs.getD j 0 ∈ zs := by
      rw [List.getD_eq_getElem?_getD, List.getElem?_eq_getElem (by omega)]
      exact List.getElem_mem _
    have hr := bounds_u8 (h5 _ hm)
    exact ⟨b, off, rfl, World.block_lt_of_cell? _ _ hc2, hc2, hr.1, by omega⟩
open Classical in
theorem bool_is {P : Prop} {prog : Program} {f : FuncId} {args : Array Value} {w : World} (h : Calls prog f args w fun e w' => BoolIs P w e w') : Calls prog f args w fun e w' => e = .returned (.bool (decide P)) ∧ Below w.heap.size w w' :=
  h.mono fun e w' ⟨t, h1, h2, h3⟩ => ⟨by rw [h1, (show t = decide P by rw [Bool.eq_iff_iff, h2, decide_eq_true_iff])], h3⟩
theorem text_by {P : Prop} {t u : ByteArray} {prog : Program} {f : FuncId} {args : Array Value} {w : World} (ht : (P → t = u) ∧ (¬ P → t = ⟨#[]⟩)) (h : Calls prog f args w fun e w' => TextOf P u w e w') : Calls prog f args w fun e w' => e = .returned (.string t) ∧ Below w.heap.size w w' :=
  h.mono fun e w' ⟨x, h1, h2, h3, h4⟩ => by
    classical
    by_cases hp : P
    · exact ⟨by rw [h1, h2 hp, ht.1 hp], h4⟩
    · exact ⟨by rw [h1, h3 hp, ht.2 hp], h4⟩
theorem text_pick (P : Prop) (u : ByteArray) : ∃ t : ByteArray, (P → t = u) ∧ (¬ P → t = ⟨#[]⟩) := by
  classical
  by_cases hp : P
  · exact ⟨u, fun _ => rfl, fun h => absurd hp h⟩
  · exact ⟨⟨#[]⟩, fun h => absurd h hp, fun _ => rfl⟩

open Go.Lib hiding intOf
set_option maxHeartbeats 400000 in
theorem big_no (a : Option Addr) (len cap : Nat) (w : World) (h : ¬ (1048576 : Int) < (len : Int)) : Calls Tryz.prog 5 #[.slice a len cap] w fun e w' => e = .returned (.bool false) ∧ w' = w := by
  go_enter Tryz.func5, Tryz.ntmps5
  go_wp2
  go_ret
  exact ⟨rfl, rfl⟩
set_option maxHeartbeats 400000 in
theorem big_yes (a : Option Addr) (len cap : Nat) (w : World) (h : (1048576 : Int) < (len : Int)) : Calls Tryz.prog 5 #[.slice a len cap] w fun e w' => e = .returned (.bool true) ∧ w' = w := by
  go_enter Tryz.func5, Tryz.ntmps5
  go_wp2
  go_ret
  exact ⟨rfl, rfl⟩
set_option maxHeartbeats 16000000 in
set_option maxRecDepth 100000 in
theorem walk1 (w : World) (a0 : Option Addr) (len0 cap0 : Nat) (zc0 : List Int) (w0 : IsRow .u8 w a0 len0 cap0 zc0) (hT : TabOk w) :
  Calls Tryz.prog 3 #[.slice a0 len0 cap0] w fun e w' => e = .returned (.bool true) ∧ Below w.heap.size w w' := by
 classical
 by_cases hbig : (1048576 : Int) < (len0 : Int)
 ·
  clear hT
  go_enter Tryz.func3, Tryz.ntmps3
  go_wp2_with fail
  refine (big_yes a0 len0 cap0 _ hbig).mono ?_
  rintro e w1 ⟨rfl, rfl⟩
  go_wp2
  go_ret
  exact ⟨rfl, Below.refl _ _⟩
 have hcode := row_code w0 (by omega)
 have HCODE : Hid (∀ W, Below w.heap.size w W → CodeAt W W.heap.size a0 len0 zc0) := fun W h => (hcode.below h).upTo h.size
 have HT : Hid (∀ W, Below w.heap.size w W → TabOk W) := fun W h => hT.below h
 clear hT
 have HBIG : Hid (¬ (1048576 : Int) < (len0 : Int)) := hbig
 clear w0 hcode hbig
 have hb0 : Below w.heap.size w w := Below.refl _ _
 go_enter Tryz.func3, Tryz.ntmps3
 go_wp2_with fail
 refine (big_no a0 len0 cap0 _ (by have := HBIG.out; omega)).mono ?_
 rintro e w1 ⟨rfl, hwe⟩
 have bw : Below (w).heap.size (w) w1 := by rw [hwe]; exact Below.refl _ _
 clear hwe
 have hb1 := hbt hb0 bw
 clear hb0 bw
 go_wp2_with fail
 refine (drawAnswer_any a0 len0 cap0 zc0 _ (HCODE.out _ hb1)).mono ?_
 rintro e w2 ⟨ma, pa, vv, fsa, ba, op, vv1, xs, vv2, ys, st, vv3, gs, d, u, now, rfl, ⟨ownQ, hsq⟩, ⟨ownX, ownY, ownG⟩, hsm, ht, bw⟩
 obtain ⟨oQ, pQ, rfl⟩ := slice_of_owns ownQ
 obtain ⟨oX, pX, rfl⟩ := slice_of_owns ownX
 obtain ⟨oY, pY, rfl⟩ := slice_of_owns ownY
 obtain ⟨oG, pG, rfl⟩ := slice_of_owns ownG
 have HSQ : Hid (SmallQ pa fsa ba) := hsq
 have HSM : Hid (SmallO op xs ys gs d u) := hsm
 have HTM : Hid (-9223372036854775808 ≤ now ∧ now ≤ 9223372036854775807) := ht
 clear hsq hsm ht
 obtain ⟨rs, hrs⟩ := exq (ansS fsa gs st)
 obtain ⟨rb, hrb⟩ := exq (ansB fsa gs d)
 obtain ⟨P, hP⟩ := exq (ansF fsa gs st d u now)
 obtain ⟨np, hnp⟩ := exq P.length
 obtain ⟨TT, hTT⟩ := text_pick (RespP rs P rb) (respT rs P rb)
 have HTT : Hid ((RespP rs P rb → TT = respT rs P rb) ∧ (¬ RespP rs P rb → TT = ⟨#[]⟩)) := hTT
 have HRS : Hid (rs = ansS fsa gs st ∧ rb = ansB fsa gs d ∧ P = ansF fsa gs st d u now ∧ np = P.length) := ⟨hrs, hrb, hP, hnp⟩
 have HPL : Hid (P.length = np) := hnp.symm
 have hnp2 : np ≤ 42 := by
  have h1 := ansF_le fsa gs st d u now
  have h2 := HSM.out.2.2.2.1.1
  rw [hnp, hP]
  omega
 have HPS : Hid (ShortF P) := by show ShortF _; rw [hP]; exact ans_short HSM.out.2.2.2.1.2
 have HPW : Hid (WalkF np P) := by have h := shortWalk HPS.out; rw [HPL.out] at h; exact h
 have HRB : Hid (rb.size ≤ 140) := by
  show _ ≤ _
  rw [hrb]
  unfold ansB
  split
  · decide
  · exact HSM.out.2.2.2.2.1
 have htt : (TT.toList != TT.toList) = false := by simp
 clear hrs hrb hP hnp hTT
 have hb2 := hbt hb1 bw
 have HOQ_2 := hwd ownQ hb1.size
 clear ownQ
 have HOX_2 := hwd ownX hb1.size
 clear ownX
 have HOY_2 := hwd ownY hb1.size
 clear ownY
 have HOG_2 := hwd ownG hb1.size
 clear ownG
 clear hb1 bw
 go_upto_region 4 with fail
 obtain ⟨qv1, hqv1⟩ := exq ((w2).heap.size)
 obtain ⟨w3, hW3⟩ := exq ((w2).alloc (.cells #[.int .i64 ma, .string pa, .slice oQ fsa.length pQ, .string ba] 26))
 have hz3 : (w2).heap.size = qv1 := hqv1.symm
 first | rw [← hW3, ← hqv1] | rw [← hW3]
 have hs3 := hsa hW3 hz3
 have bw := bal hW3
 have hb3 := hbt hb2 bw
 have HOQ_3 := hown HOQ_2 bw
 have HOX_3 := hown HOX_2 bw
 have HOY_3 := hown HOY_2 bw
 have HOG_3 := hown HOG_2 bw
 have HBv1_3 := hnew hW3 hz3
 clear hb2 HOQ_2 HOX_2 HOY_2 HOG_2 bw hW3 hz3
 obtain ⟨qv2, hqv2⟩ := exq (qv1 + 1)
 obtain ⟨w4, hW4⟩ := exq ((w3).alloc (.cells #[.string op, .slice oX xs.length pX, .slice oY ys.length pY, .int .i64 st, .slice oG gs.length pG, .string d, .int .i64 u] 31))
 have hz4 : (w3).heap.size = qv2 := by rw [hqv2]; exact hs3
 first | rw [← hW4, ← hqv2] | rw [← hW4]
 have hs4 := hsa hW4 hz4
 have bw := bal hW4
 have hb4 := hbt hb3 bw
 have HOQ_4 := hown HOQ_3 bw
 have HOX_4 := hown HOX_3 bw
 have HOY_4 := hown HOY_3 bw
 have HOG_4 := hown HOG_3 bw
 have HBv1_4 := hblk HBv1_3 bw
 have HBv2_4 := hnew hW4 hz4
 clear hb3 HOQ_3 HOX_3 HOY_3 HOG_3 HBv1_3 bw hW4 hz4
 clear hs4 hqv2 hs3 hqv1
 have cv1_0 := (k4c HBv1_4).1
 have cv1_1 := (k4c HBv1_4).2.1
 have cv1_2 := (k4c HBv1_4).2.2.1
 have cv1_3 := (k4c HBv1_4).2.2.2
 have cv2_0 := (k7c HBv2_4).1
 have cv2_1 := (k7c HBv2_4).2.1
 have cv2_2 := (k7c HBv2_4).2.2.1
 have cv2_3 := (k7c HBv2_4).2.2.2.1
 have cv2_4 := (k7c HBv2_4).2.2.2.2.1
 have cv2_5 := (k7c HBv2_4).2.2.2.2.2.1
 have cv2_6 := (k7c HBv2_4).2.2.2.2.2.2
 go_wp2_with fail
 refine ((implAnswer_any ma pa _ ba fsa.length _ fsa op _ _ _ _ _ _ st _ d u gs.length _ gs now _ (FieldsV.of_owns HOQ_4.out) (by have := HSQ.out.2.1; omega) (shortWalk HSQ.out.2.2.1) (by have := HSQ.out.1; unfold maxLen; omega) (by have := HSQ.out.2.2.2; unfold maxLen; omega) (fun x => by have := short_get2 HSQ.out.2.2.1 x; omega) HSQ.out.2.2.1.copy (FieldsV.of_owns HOG_4.out) (by have := HSM.out.2.2.2.1.1; omega) (shortWalk HSM.out.2.2.2.1.2) (by have := HSM.out.2.2.2.2.1; unfold maxLen; omega) (fun x => by have := short_get2 HSM.out.2.2.2.1.2 x; omega) HSM.out.2.2.2.2.2.1 HTM.out.2 HSM.out.2.2.2.1.2.copy (by have := HSM.out.2.2.2.2.1; omega) (HT.out _ hb4))).mono ?_
 rintro e w5 ⟨vv, rfl, ownR1, bw⟩
 obtain ⟨e1, e2, e3, e4⟩ := HRS.out
 rw [← e3, ← e4] at ownR1
 rw [← e1, ← e2]
 clear e1 e2 e3 e4
 obtain ⟨oR1, pR1, rfl⟩ := slice_of_owns ownR1
 have hb5 := hbt hb4 bw
 have HOQ_5 := hown HOQ_4 bw
 have HOX_5 := hown HOX_4 bw
 have HOY_5 := hown HOY_4 bw
 have HOG_5 := hown HOG_4 bw
 have HBv1_5 := hblk HBv1_4 bw
 have HBv2_5 := hblk HBv2_4 bw
 have HOR1_5 := hwd ownR1 hb4.size
 clear ownR1
 clear hb4 HOQ_4 HOX_4 HOY_4 HOG_4 HBv1_4 HBv2_4 bw
 clear cv1_0 cv1_1 cv1_2 cv1_3 cv2_0 cv2_1 cv2_2 cv2_3 cv2_4 cv2_5 cv2_6
 go_upto_region 5 with fail
 obtain ⟨qv3, hqv3⟩ := exq ((w5).heap.size)
 obtain ⟨w6, hW6⟩ := exq ((w5).alloc (.cells #[.int .i64 rs, .slice oR1 np pR1, .string rb] 29))
 have hz6 : (w5).heap.size = qv3 := hqv3.symm
 first | rw [← hW6, ← hqv3] | rw [← hW6]
 have hs6 := hsa hW6 hz6
 have bw := bal hW6
 have hb6 := hbt hb5 bw
 have HOQ_6 := hown HOQ_5 bw
 have HOX_6 := hown HOX_5 bw
 have HOY_6 := hown HOY_5 bw
 have HOG_6 := hown HOG_5 bw
 have HOR1_6 := hown HOR1_5 bw
 have HBv1_6 := hblk HBv1_5 bw
 have HBv2_6 := hblk HBv2_5 bw
 have HBv3_6 := hnew hW6 hz6
 clear hb5 HOQ_5 HOX_5 HOY_5 HOG_5 HOR1_5 HBv1_5 HBv2_5 bw hW6 hz6
 clear hs6 hqv3
 go_upto_region 5 with fail
 refine wp_region_held_drew (S := fun W => W.heap[qv3]? = some (.cells #[.int .i64 rs, .slice oR1 np pR1, .string rb] 29) ∧ W.heap[qv1]? = some (.cells #[.int .i64 ma, .string pa, .slice oQ fsa.length pQ, .string ba] 26) ∧ W.heap[qv2]? = some (.cells #[.string op, .slice oX xs.length pX, .slice oY ys.length pY, .int .i64 st, .slice oG gs.length pG, .string d, .int .i64 u] 31)) (by kernel_rfl) ⟨HBv3_6.out, HBv1_6.out, HBv2_6.out⟩ (fun _ => ?_)
 obtain ⟨w7, hX⟩ := exq w6.drew
 have bw := bdr hX
 rw [← hX]
 have hb7 := hbt hb6 bw
 have HOQ_7 := hown HOQ_6 bw
 have HOX_7 := hown HOX_6 bw
 have HOY_7 := hown HOY_6 bw
 have HOG_7 := hown HOG_6 bw
 have HOR1_7 := hown HOR1_6 bw
 have HBv1_7 := hblk HBv1_6 bw
 have HBv2_7 := hblk HBv2_6 bw
 have HBv3_7 := hblk HBv3_6 bw
 have hS7 := And.intro HBv3_7.out (And.intro HBv1_7.out HBv2_7.out)
 clear hb6 HOQ_6 HOX_6 HOY_6 HOG_6 HOR1_6 HBv1_6 HBv2_6 HBv3_6 bw hX
 refine tkL 0 (.agg #[.int .i64 rs, .slice oR1 np pR1, .string rb]) 26 rfl rfl (Or.inl ⟨by rfl, by intro W hW; obtain ⟨hhv3, hhv1, hhv2⟩ := hW; have y0 := (cell_of hhv3 0).trans rfl; have y1 := (cell_of hhv3 1).trans rfl; have y2 := (cell_of hhv3 2).trans rfl; go_simp⟩) hS7 ?_
 go_frame
 refine tkL 2 (.agg #[.int .i64 ma, .string pa, .slice oQ fsa.length pQ, .string ba]) 28 rfl rfl (Or.inl ⟨by rfl, by intro W hW; obtain ⟨hhv3, hhv1, hhv2⟩ := hW; have y0 := (cell_of hhv1 0).trans rfl; have y1 := (cell_of hhv1 1).trans rfl; have y2 := (cell_of hhv1 2).trans rfl; have y3 := (cell_of hhv1 3).trans rfl; go_simp⟩) hS7 ?_
 go_frame
 refine tkL 3 (.agg #[.string op, .slice oX xs.length pX, .slice oY ys.length pY, .int .i64 st, .slice oG gs.length pG, .string d, .int .i64 u]) 29 rfl rfl (Or.inl ⟨by rfl, by intro W hW; obtain ⟨hhv3, hhv1, hhv2⟩ := hW; have y0 := (cell_of hhv2 0).trans rfl; have y1 := (cell_of hhv2 1).trans rfl; have y2 := (cell_of hhv2 2).trans rfl; have y3 := (cell_of hhv2 3).trans rfl; have y4 := (cell_of hhv2 4).trans rfl; have y5 := (cell_of hhv2 5).trans rfl; have y6 := (cell_of hhv2 6).trans rfl; go_simp⟩) hS7 ?_
 go_frame
 refine tkP 4 (.int .i64 now) 30 rfl rfl hS7 ?_
 go_frame
 refine rd1 1 rfl (fun K hK => ?_)
 go_simp
 refine (text_by HTT.out (implRespText_any rs _ rb np _ P _ (FieldsV.of_owns HOR1_7.out) (by omega) HPW.out (by have := HRB.out; unfold maxLen; omega) (HT.out _ hb7))).mono ?_
 rintro e w8 ⟨rfl, bw⟩
 have hb8 := hbt hb7 bw
 have HOQ_8 := hown HOQ_7 bw
 have HOX_8 := hown HOX_7 bw
 have HOY_8 := hown HOY_7 bw
 have HOG_8 := hown HOG_7 bw
 have HOR1_8 := hown HOR1_7 bw
 have HBv1_8 := hblk HBv1_7 bw
 have HBv2_8 := hblk HBv2_7 bw
 have HBv3_8 := hblk HBv3_7 bw
 clear hb7 HOQ_7 HOX_7 HOY_7 HOG_7 HOR1_7 HBv1_7 HBv2_7 HBv3_7 bw
 have hS8 := And.intro HBv3_8.out (And.intro HBv1_8.out HBv2_8.out)
 refine hK.out _ _ hS8 (fun _ => ?_)
 clear hK K hS7
 refine rd1 5 rfl (fun K hK => ?_)
 go_simp
 refine ((specAnswer_any ma pa _ ba fsa.length _ fsa op _ _ _ _ _ _ st _ d u gs.length _ gs now _ (FieldsV.of_owns HOQ_8.out) (by have := HSQ.out.2.1; omega) (shortWalk HSQ.out.2.2.1) (by have := HSQ.out.1; unfold maxLen; omega) (by have := HSQ.out.2.2.2; unfold maxLen; omega) (fun x => by have := short_get2 HSQ.out.2.2.1 x; omega) (FieldsV.of_owns HOG_8.out) (by have := HSM.out.2.2.2.1.1; omega) (shortWalk HSM.out.2.2.2.1.2) (by have := HSM.out.2.2.2.2.1; unfold maxLen; omega) (fun x => by have := short_get2 HSM.out.2.2.2.1.2 x; omega) HSM.out.2.2.2.2.2.1 HTM.out.2)).mono ?_
 rintro e w9 ⟨vv, rfl, ownR2, bw⟩
 obtain ⟨e1, e2, e3, e4⟩ := HRS.out
 rw [← e3, ← e4] at ownR2
 rw [← e1, ← e2]
 clear e1 e2 e3 e4
 obtain ⟨oR2, pR2, rfl⟩ := slice_of_owns ownR2
 have hb9 := hbt hb8 bw
 have HOQ_9 := hown HOQ_8 bw
 have HOX_9 := hown HOX_8 bw
 have HOY_9 := hown HOY_8 bw
 have HOG_9 := hown HOG_8 bw
 have HOR1_9 := hown HOR1_8 bw
 have HBv1_9 := hblk HBv1_8 bw
 have HBv2_9 := hblk HBv2_8 bw
 have HBv3_9 := hblk HBv3_8 bw
 have HOR2_9 := hwd ownR2 hb8.size
 clear ownR2
 clear hb8 HOQ_8 HOX_8 HOY_8 HOG_8 HOR1_8 HBv1_8 HBv2_8 HBv3_8 bw
 have hS9 := And.intro HBv3_9.out (And.intro HBv1_9.out HBv2_9.out)
 refine hK.out _ _ hS9 (fun _ => ?_)
 clear hK K hS8
 refine rd1 6 rfl (fun K hK => ?_)
 go_simp
 refine (text_by HTT.out (specRespText_any rs _ rb np _ P _ (FieldsV.of_owns HOR2_9.out) (by omega) HPW.out (by have := HRB.out; unfold maxLen; omega))).mono ?_
 rintro e w10 ⟨rfl, bw⟩
 have hb10 := hbt hb9 bw
 have HOQ_10 := hown HOQ_9 bw
 have HOX_10 := hown HOX_9 bw
 have HOY_10 := hown HOY_9 bw
 have HOG_10 := hown HOG_9 bw
 have HOR1_10 := hown HOR1_9 bw
 have HOR2_10 := hown HOR2_9 bw
 have HBv1_10 := hblk HBv1_9 bw
 have HBv2_10 := hblk HBv2_9 bw
 have HBv3_10 := hblk HBv3_9 bw
 clear hb9 HOQ_9 HOX_9 HOY_9 HOG_9 HOR1_9 HOR2_9 HBv1_9 HBv2_9 HBv3_9 bw
 have hS10 := And.intro HBv3_10.out (And.intro HBv1_10.out HBv2_10.out)
 refine hK.out _ _ hS10 (fun _ => ?_)
 clear hK K hS9
 refine tkP 7 (.bool false) 33 rfl rfl hS10 ?_
 go_frame
 clear hS10
 refine wpAnyH_done (by kernel_rfl) ?_ _
 go_wp2_with fail
 refine (drawAlike_any a0 len0 cap0 zc0 _ (HCODE.out _ hb10)).mono ?_
 rintro e w11 ⟨mA, yA, vv1, fA, bA, mB, yB, vv2, fB, bB, rfl, ⟨ownA, hsa⟩, ⟨ownB, hsb⟩, bw⟩
 obtain ⟨oA, pA, rfl⟩ := slice_of_owns ownA
 obtain ⟨oB, pB, rfl⟩ := slice_of_owns ownB
 have HSA : Hid (SmallQ yA fA bA) := hsa
 have HSB : Hid (SmallQ yB fB bB) := hsb
 clear hsa hsb
 obtain ⟨al, hal⟩ := exq (decide (AlikeP mA yA fA bA mB yB fB bB))
 have HAL : Hid (al = decide (AlikeP mA yA fA bA mB yB fB bB)) := hal
 have HLA : Hid (al = decide (AlikeP mB yB fB bB mA yA fA bA)) := by
  show _ = _
  rw [hal]
  exact decide_eq_decide.2 alike_comm
 have hall : (al != al) = false := by simp
 clear hal
 have hb11 := hbt hb10 bw
 have HOQ_11 := hown HOQ_10 bw
 have HOX_11 := hown HOX_10 bw
 have HOY_11 := hown HOY_10 bw
 have HOG_11 := hown HOG_10 bw
 have HOR1_11 := hown HOR1_10 bw
 have HOR2_11 := hown HOR2_10 bw
 have HBv1_11 := hblk HBv1_10 bw
 have HBv2_11 := hblk HBv2_10 bw
 have HBv3_11 := hblk HBv3_10 bw
 have HOA_11 := hwd ownA hb10.size
 clear ownA
 have HOB_11 := hwd ownB hb10.size
 clear ownB
 clear hb10 HOQ_10 HOX_10 HOY_10 HOG_10 HOR1_10 HOR2_10 HBv1_10 HBv2_10 HBv3_10 bw
 go_upto_region 8 with fail
 obtain ⟨qv4, hqv4⟩ := exq ((w11).heap.size)
 obtain ⟨w12, hW12⟩ := exq ((w11).alloc (.cells #[.int .i64 mA, .string yA, .slice oA fA.length pA, .string bA] 26))
 have hz12 : (w11).heap.size = qv4 := hqv4.symm
 first | rw [← hW12, ← hqv4] | rw [← hW12]
 have hs12 := hsa hW12 hz12
 have bw := bal hW12
 have hb12 := hbt hb11 bw
 have HOQ_12 := hown HOQ_11 bw
 have HOX_12 := hown HOX_11 bw
 have HOY_12 := hown HOY_11 bw
 have HOG_12 := hown HOG_11 bw
 have HOR1_12 := hown HOR1_11 bw
 have HOR2_12 := hown HOR2_11 bw
 have HOA_12 := hown HOA_11 bw
 have HOB_12 := hown HOB_11 bw
 have HBv1_12 := hblk HBv1_11 bw
 have HBv2_12 := hblk HBv2_11 bw
 have HBv3_12 := hblk HBv3_11 bw
 have HBv4_12 := hnew hW12 hz12
 clear hb11 HOQ_11 HOX_11 HOY_11 HOG_11 HOR1_11 HOR2_11 HOA_11 HOB_11 HBv1_11 HBv2_11 HBv3_11 bw hW12 hz12
 obtain ⟨qv5, hqv5⟩ := exq (qv4 + 1)
 obtain ⟨w13, hW13⟩ := exq ((w12).alloc (.cells #[.int .i64 mB, .string yB, .slice oB fB.length pB, .string bB] 26))
 have hz13 : (w12).heap.size = qv5 := by rw [hqv5]; exact hs12
 first | rw [← hW13, ← hqv5] | rw [← hW13]
 have hs13 := hsa hW13 hz13
 have bw := bal hW13
 have hb13 := hbt hb12 bw
 have HOQ_13 := hown HOQ_12 bw
 have HOX_13 := hown HOX_12 bw
 have HOY_13 := hown HOY_12 bw
 have HOG_13 := hown HOG_12 bw
 have HOR1_13 := hown HOR1_12 bw
 have HOR2_13 := hown HOR2_12 bw
 have HOA_13 := hown HOA_12 bw
 have HOB_13 := hown HOB_12 bw
 have HBv1_13 := hblk HBv1_12 bw
 have HBv2_13 := hblk HBv2_12 bw
 have HBv3_13 := hblk HBv3_12 bw
 have HBv4_13 := hblk HBv4_12 bw
 have HBv5_13 := hnew hW13 hz13
 clear hb12 HOQ_12 HOX_12 HOY_12 HOG_12 HOR1_12 HOR2_12 HOA_12 HOB_12 HBv1_12 HBv2_12 HBv3_12 HBv4_12 bw hW13 hz13
 clear hs13 hqv5 hs12 hqv4
 have cv4_0 := (k4c HBv4_13).1
 have cv4_1 := (k4c HBv4_13).2.1
 have cv4_2 := (k4c HBv4_13).2.2.1
 have cv4_3 := (k4c HBv4_13).2.2.2
 have cv5_0 := (k4c HBv5_13).1
 have cv5_1 := (k4c HBv5_13).2.1
 have cv5_2 := (k4c HBv5_13).2.2.1
 have cv5_3 := (k4c HBv5_13).2.2.2
 go_wp2_with fail
 refine (bool_is (implAlike_any mA yA _ bA fA.length _ fA mB yB _ bB fB.length _ fB _ (FieldsV.of_owns HOA_13.out) (by have := HSA.out.2.1; omega) (shortWalk HSA.out.2.2.1) (by have := HSA.out.1; unfold maxLen; omega) (by have := HSA.out.2.2.2; unfold maxLen; omega) (fun x => by have := short_get2 HSA.out.2.2.1 x; omega) HSA.out.2.2.1.copy (FieldsV.of_owns HOB_13.out) (by have := HSB.out.2.1; omega) (shortWalk HSB.out.2.2.1) (by have := HSB.out.1; unfold maxLen; omega) (by have := HSB.out.2.2.2; unfold maxLen; omega) (fun x => by have := short_get2 HSB.out.2.2.1 x; omega) HSB.out.2.2.1.copy)).mono ?_
 rintro e w14 ⟨rfl, bw⟩
 rw [← HAL.out]
 have hb14 := hbt hb13 bw
 have HOQ_14 := hown HOQ_13 bw
 have HOX_14 := hown HOX_13 bw
 have HOY_14 := hown HOY_13 bw
 have HOG_14 := hown HOG_13 bw
 have HOR1_14 := hown HOR1_13 bw
 have HOR2_14 := hown HOR2_13 bw
 have HOA_14 := hown HOA_13 bw
 have HOB_14 := hown HOB_13 bw
 have HBv1_14 := hblk HBv1_13 bw
 have HBv2_14 := hblk HBv2_13 bw
 have HBv3_14 := hblk HBv3_13 bw
 have HBv4_14 := hblk HBv4_13 bw
 have HBv5_14 := hblk HBv5_13 bw
 clear hb13 HOQ_13 HOX_13 HOY_13 HOG_13 HOR1_13 HOR2_13 HOA_13 HOB_13 HBv1_13 HBv2_13 HBv3_13 HBv4_13 HBv5_13 bw
 clear cv4_0 cv4_1 cv4_2 cv4_3 cv5_0 cv5_1 cv5_2 cv5_3
 have cv4_0 := (k4c HBv4_14).1
 have cv4_1 := (k4c HBv4_14).2.1
 have cv4_2 := (k4c HBv4_14).2.2.1
 have cv4_3 := (k4c HBv4_14).2.2.2
 have cv5_0 := (k4c HBv5_14).1
 have cv5_1 := (k4c HBv5_14).2.1
 have cv5_2 := (k4c HBv5_14).2.2.1
 have cv5_3 := (k4c HBv5_14).2.2.2
 go_wp2_with fail
 refine (bool_is (specAlike_any mA yA _ bA fA.length _ fA mB yB _ bB fB.length _ fB _ (FieldsV.of_owns HOA_14.out) (by have := HSA.out.2.1; omega) (shortWalk HSA.out.2.2.1) (by have := HSA.out.1; unfold maxLen; omega) (by have := HSA.out.2.2.2; unfold maxLen; omega) (fun x => by have := short_get2 HSA.out.2.2.1 x; omega) (FieldsV.of_owns HOB_14.out) (by have := HSB.out.2.1; omega) (shortWalk HSB.out.2.2.1) (by have := HSB.out.1; unfold maxLen; omega) (by have := HSB.out.2.2.2; unfold maxLen; omega) (fun x => by have := short_get2 HSB.out.2.2.1 x; omega))).mono ?_
 rintro e w15 ⟨rfl, bw⟩
 rw [← HAL.out]
 have hb15 := hbt hb14 bw
 have HOQ_15 := hown HOQ_14 bw
 have HOX_15 := hown HOX_14 bw
 have HOY_15 := hown HOY_14 bw
 have HOG_15 := hown HOG_14 bw
 have HOR1_15 := hown HOR1_14 bw
 have HOR2_15 := hown HOR2_14 bw
 have HOA_15 := hown HOA_14 bw
 have HOB_15 := hown HOB_14 bw
 have HBv1_15 := hblk HBv1_14 bw
 have HBv2_15 := hblk HBv2_14 bw
 have HBv3_15 := hblk HBv3_14 bw
 have HBv4_15 := hblk HBv4_14 bw
 have HBv5_15 := hblk HBv5_14 bw
 clear hb14 HOQ_14 HOX_14 HOY_14 HOG_14 HOR1_14 HOR2_14 HOA_14 HOB_14 HBv1_14 HBv2_14 HBv3_14 HBv4_14 HBv5_14 bw
 clear cv4_0 cv4_1 cv4_2 cv4_3 cv5_0 cv5_1 cv5_2 cv5_3
 have cv4_0 := (k4c HBv4_15).1
 have cv4_1 := (k4c HBv4_15).2.1
 have cv4_2 := (k4c HBv4_15).2.2.1
 have cv4_3 := (k4c HBv4_15).2.2.2
 have cv5_0 := (k4c HBv5_15).1
 have cv5_1 := (k4c HBv5_15).2.1
 have cv5_2 := (k4c HBv5_15).2.2.1
 have cv5_3 := (k4c HBv5_15).2.2.2
 go_wp2_with fail
 refine (bool_is (implAlike_any mB yB _ bB fB.length _ fB mA yA _ bA fA.length _ fA _ (FieldsV.of_owns HOB_15.out) (by have := HSB.out.2.1; omega) (shortWalk HSB.out.2.2.1) (by have := HSB.out.1; unfold maxLen; omega) (by have := HSB.out.2.2.2; unfold maxLen; omega) (fun x => by have := short_get2 HSB.out.2.2.1 x; omega) HSB.out.2.2.1.copy (FieldsV.of_owns HOA_15.out) (by have := HSA.out.2.1; omega) (shortWalk HSA.out.2.2.1) (by have := HSA.out.1; unfold maxLen; omega) (by have := HSA.out.2.2.2; unfold maxLen; omega) (fun x => by have := short_get2 HSA.out.2.2.1 x; omega) HSA.out.2.2.1.copy)).mono ?_
 rintro e w16 ⟨rfl, bw⟩
 rw [← HLA.out]
 have hb16 := hbt hb15 bw
 have HOQ_16 := hown HOQ_15 bw
 have HOX_16 := hown HOX_15 bw
 have HOY_16 := hown HOY_15 bw
 have HOG_16 := hown HOG_15 bw
 have HOR1_16 := hown HOR1_15 bw
 have HOR2_16 := hown HOR2_15 bw
 have HOA_16 := hown HOA_15 bw
 have HOB_16 := hown HOB_15 bw
 have HBv1_16 := hblk HBv1_15 bw
 have HBv2_16 := hblk HBv2_15 bw
 have HBv3_16 := hblk HBv3_15 bw
 have HBv4_16 := hblk HBv4_15 bw
 have HBv5_16 := hblk HBv5_15 bw
 clear hb15 HOQ_15 HOX_15 HOY_15 HOG_15 HOR1_15 HOR2_15 HOA_15 HOB_15 HBv1_15 HBv2_15 HBv3_15 HBv4_15 HBv5_15 bw
 clear cv4_0 cv4_1 cv4_2 cv4_3 cv5_0 cv5_1 cv5_2 cv5_3
 cases al with
 | false =>
  have cv2_0 := (k7c HBv2_16).1
  have cv2_1 := (k7c HBv2_16).2.1
  have cv2_2 := (k7c HBv2_16).2.2.1
  have cv2_3 := (k7c HBv2_16).2.2.2.1
  have cv2_4 := (k7c HBv2_16).2.2.2.2.1
  have cv2_5 := (k7c HBv2_16).2.2.2.2.2.1
  have cv2_6 := (k7c HBv2_16).2.2.2.2.2.2
  go_wp2_with fail
  refine (specObjOk_any op _ xs.length _ xs _ ys.length _ ys st _ gs.length _ gs d u _ (texts_view HOX_16.out) (texts_view HOY_16.out) (FieldsV.of_owns HOG_16.out) (by have := HSM.out.2.1.1; omega) (by have := HSM.out.2.2.1.1; omega) (by have := HSM.out.2.2.2.1.1; omega) (fun i hi => by have := HSM.out.2.1.2 _ (textAt_mem xs i hi); unfold maxLen; omega) (fun i hi => by have := HSM.out.2.2.1.2 _ (textAt_mem ys i hi); unfold maxLen; omega) (shortWalk HSM.out.2.2.2.1.2) (by have := HSM.out.1; unfold maxLen; omega) (by have := HSM.out.2.2.2.2.1; unfold maxLen; omega) (by have := short_get2 HSM.out.2.2.2.1.2 varyName; omega)).mono ?_
  rintro e w17 ⟨ob, rfl, hob, bw⟩
  have hb17 := hbt hb16 bw
  have HM17 := hsz bw
  have HOQ_17 := hown HOQ_16 bw
  have HOX_17 := hown HOX_16 bw
  have HOY_17 := hown HOY_16 bw
  have HOG_17 := hown HOG_16 bw
  have HOR1_17 := hown HOR1_16 bw
  have HOR2_17 := hown HOR2_16 bw
  have HOA_17 := hown HOA_16 bw
  have HOB_17 := hown HOB_16 bw
  have HBv1_17 := hblk HBv1_16 bw
  have HBv2_17 := hblk HBv2_16 bw
  have HBv3_17 := hblk HBv3_16 bw
  have HBv4_17 := hblk HBv4_16 bw
  have HBv5_17 := hblk HBv5_16 bw
  clear hb16 HOQ_16 HOX_16 HOY_16 HOG_16 HOR1_16 HOR2_16 HOA_16 HOB_16 HBv1_16 HBv2_16 HBv3_16 HBv4_16 HBv5_16 bw
  clear cv2_0 cv2_1 cv2_2 cv2_3 cv2_4 cv2_5 cv2_6
  cases ob with
  | false =>
   clear hob
   go_wp2_with fail
   go_ret
   exact ⟨rfl, hb17⟩
  | true =>
   have HOB : Hid (ObjP op xs ys st gs d u) := hob.1 rfl
   clear hob
   go_upto_region 13 with fail
   have HAR : Hid (RespP rs P rb ∧ ((getB P ageName = true ∧ getV P ageName = ageT gs u now) ∨ 8 ≤ gs.length)) := by
    obtain ⟨e1, e2, e3, _⟩ := HRS.out
    show _ ∧ _
    rw [e1, e2, e3]
    exact ans_right u now HOB.out.1
   have he0 : ((⟨#[]⟩ : ByteArray).toList == ([] : List UInt8)) = true := by rw [ByteArray.toList_eq]; rfl
   have he1 : (⟨#[]⟩ : ByteArray).toList.isEmpty = true := by rw [ByteArray.toList_eq]; rfl
   have hdd : (d.toList == d.toList) = true := by simp
   have hst : (st == st) = true := by simp
   by_cases hsame : SameP fsa gs
   ·
    have HSAME : Hid (SameP fsa gs) := hsame
    have e1 : rs = 304 := by rw [HRS.out.1]; exact ansS_yes hsame st
    have e2 : rb = ⟨#[]⟩ := by rw [HRS.out.2.1]; exact ansB_yes hsame d
    clear hsame HRS HTT
    subst e1 e2
    have cv3_1 := (k3c HBv3_17).2.1
    go_wp2_with fail
    refine (implGet_any _ np _ P ageName _ (FieldsV.of_owns HOR1_17.out) (by omega) HPS.out.copy).mono ?_
    rintro e w18 ⟨rfl, bw⟩
    obtain ⟨tv, htv⟩ := exq (getV P ageName)
    obtain ⟨gk, hgk⟩ := exq (getB P ageName)
    rw [← htv, ← hgk]
    have HTV : Hid (tv.size ≤ 64) := by show _ ≤ _; rw [htv]; exact short_get2 HPS.out ageName
    obtain ⟨ag, hag⟩ := exq (ageAt gs u now)
    have HAG : Hid (ageAt gs u now = ag) := hag.symm
    have HAC : Hid ((NumOk tv ∧ (valL tv.data.toList : Int) = ag) ∨ 8 ≤ gs.length) := by
     rcases HAR.out.2 with h | h
     ·
      refine .inl ?_
      rw [htv, h.2, hag]
      exact ccNum_in _ (ageAt_in gs u now).1 (ageAt_in gs u now).2
     · exact .inr h
    clear htv hgk hag
    have hb18 := hbt hb17 bw
    have HM18 := hsz bw
    have HOQ_18 := hown HOQ_17 bw
    have HOX_18 := hown HOX_17 bw
    have HOY_18 := hown HOY_17 bw
    have HOG_18 := hown HOG_17 bw
    have HOR1_18 := hown HOR1_17 bw
    have HOR2_18 := hown HOR2_17 bw
    have HOA_18 := hown HOA_17 bw
    have HOB_18 := hown HOB_17 bw
    have HBv1_18 := hblk HBv1_17 bw
    have HBv2_18 := hblk HBv2_17 bw
    have HBv3_18 := hblk HBv3_17 bw
    have HBv4_18 := hblk HBv4_17 bw
    have HBv5_18 := hblk HBv5_17 bw
    clear hb17 HOQ_17 HOX_17 HOY_17 HOG_17 HOR1_17 HOR2_17 HOA_17 HOB_17 HBv1_17 HBv2_17 HBv3_17 HBv4_17 HBv5_17 bw
    clear cv3_1
    go_wp2_with fail
    refine (implNumRead_any tv _ (by have := HTV.out; unfold maxLen; omega)).mono ?_
    rintro e w19 ⟨nr, nn, rfl, hn1, hn2, hn3, bw⟩
    have HNR : Hid ((nr = true ∧ nn = ag) ∨ 8 ≤ gs.length) := by
     rcases HAC.out with h | h
     ·
      have e1 : nr = true := hn1.2 h.1
      exact .inl ⟨e1, by rw [hn2 e1]; exact h.2⟩
     · exact .inr h
    clear hn1 hn2 hn3 HAC HTV
    have hb19 := hbt hb18 bw
    have HM19 := hsz bw
    have HOQ_19 := hown HOQ_18 bw
    have HOX_19 := hown HOX_18 bw
    have HOY_19 := hown HOY_18 bw
    have HOG_19 := hown HOG_18 bw
    have HOR1_19 := hown HOR1_18 bw
    have HOR2_19 := hown HOR2_18 bw
    have HOA_19 := hown HOA_18 bw
    have HOB_19 := hown HOB_18 bw
    have HBv1_19 := hblk HBv1_18 bw
    have HBv2_19 := hblk HBv2_18 bw
    have HBv3_19 := hblk HBv3_18 bw
    have HBv4_19 := hblk HBv4_18 bw
    have HBv5_19 := hblk HBv5_18 bw
    clear hb18 HOQ_18 HOX_18 HOY_18 HOG_18 HOR1_18 HOR2_18 HOA_18 HOB_18 HBv1_18 HBv2_18 HBv3_18 HBv4_18 HBv5_18 bw
    cases gk with
    | false =>
     have cv3_0 := (k3c HBv3_19).1
     have cv3_1 := (k3c HBv3_19).2.1
     have cv3_2 := (k3c HBv3_19).2.2
     go_wp2_with fail
     refine (implRespOk_any 304 _ ⟨#[]⟩ np _ P _ (FieldsV.of_owns HOR1_19.out) (by omega) HPW.out (by have := HRB.out; unfold maxLen; omega)).mono ?_
     rintro e w20 ⟨bb, rfl, hbb, bw⟩
     obtain rfl : true = bb := (hbb.2 HAR.out.1).symm
     clear hbb
     have hb20 := hbt hb19 bw
     have HM20 := hsz bw
     have HOQ_20 := hown HOQ_19 bw
     have HOX_20 := hown HOX_19 bw
     have HOY_20 := hown HOY_19 bw
     have HOG_20 := hown HOG_19 bw
     have HOR1_20 := hown HOR1_19 bw
     have HOR2_20 := hown HOR2_19 bw
     have HOA_20 := hown HOA_19 bw
     have HOB_20 := hown HOB_19 bw
     have HBv1_20 := hblk HBv1_19 bw
     have HBv2_20 := hblk HBv2_19 bw
     have HBv3_20 := hblk HBv3_19 bw
     have HBv4_20 := hblk HBv4_19 bw
     have HBv5_20 := hblk HBv5_19 bw
     clear hb19 HOQ_19 HOX_19 HOY_19 HOG_19 HOR1_19 HOR2_19 HOA_19 HOB_19 HBv1_19 HBv2_19 HBv3_19 HBv4_19 HBv5_19 bw
     clear cv3_0 cv3_1 cv3_2
     have cv1_0 := (k4c HBv1_20).1
     have cv1_1 := (k4c HBv1_20).2.1
     have cv1_2 := (k4c HBv1_20).2.2.1
     have cv1_3 := (k4c HBv1_20).2.2.2
     have cv2_4 := (k7c HBv2_20).2.2.2.2.1
     have cv3_0 := (k3c HBv3_20).1
     have cv3_2 := (k3c HBv3_20).2.2
     go_wp2_with fail
     refine (implSame_any ma pa _ ba fsa.length _ fsa _ gs.length _ gs _ (FieldsV.of_owns HOQ_20.out) (by have := HSQ.out.2.1; omega) (FieldsV.of_owns HOG_20.out) (by have := HSM.out.2.2.2.1.1; omega) HSQ.out.2.2.1.copy HSM.out.2.2.2.1.2.copy).mono ?_
     rintro e w21 ⟨bb, rfl, hbb, bw⟩
     obtain rfl : true = bb := (hbb.2 HSAME.out).symm
     clear hbb
     have hb21 := hbt hb20 bw
     have HM21 := hsz bw
     have HOQ_21 := hown HOQ_20 bw
     have HOX_21 := hown HOX_20 bw
     have HOY_21 := hown HOY_20 bw
     have HOG_21 := hown HOG_20 bw
     have HOR1_21 := hown HOR1_20 bw
     have HOR2_21 := hown HOR2_20 bw
     have HOA_21 := hown HOA_20 bw
     have HOB_21 := hown HOB_20 bw
     have HBv1_21 := hblk HBv1_20 bw
     have HBv2_21 := hblk HBv2_20 bw
     have HBv3_21 := hblk HBv3_20 bw
     have HBv4_21 := hblk HBv4_20 bw
     have HBv5_21 := hblk HBv5_20 bw
     clear hb20 HOQ_20 HOX_20 HOY_20 HOG_20 HOR1_20 HOR2_20 HOA_20 HOB_20 HBv1_20 HBv2_20 HBv3_20 HBv4_20 HBv5_20 bw
     clear cv1_0 cv1_1 cv1_2 cv1_3 cv2_4 cv3_0 cv3_2
     go_wp2_with fail
     go_ret
     exact ⟨rfl, hb21⟩
    | true =>
     cases nr with
     | false =>
      have h8 : (8 : Int) ≤ (gs.length : Int) := by rcases HNR.out with hh | hh; exact absurd hh.1 (by decide); omega
      have cv2_4 := (k7c HBv2_19).2.2.2.2.1
      go_wp2_with fail
      go_ret
      exact ⟨rfl, hb19⟩
     | true =>
      have cv2_4 := (k7c HBv2_19).2.2.2.2.1
      have cv2_6 := (k7c HBv2_19).2.2.2.2.2.2
      go_wp2_with fail
      refine (implAgeAt_any _ gs.length _ gs u now _ (FieldsV.of_owns HOG_19.out) (by have := HSM.out.2.2.2.1.1; omega) HSM.out.2.2.2.1.2.copy (by have := short_get2 HSM.out.2.2.2.1.2 ageName; unfold maxLen; omega) HSM.out.2.2.2.2.2.1 HTM.out.2).mono ?_
      rintro e w20 ⟨rfl, bw⟩
      rw [HAG.out]
      have hb20 := hbt hb19 bw
      have HM20 := hsz bw
      have HOQ_20 := hown HOQ_19 bw
      have HOX_20 := hown HOX_19 bw
      have HOY_20 := hown HOY_19 bw
      have HOG_20 := hown HOG_19 bw
      have HOR1_20 := hown HOR1_19 bw
      have HOR2_20 := hown HOR2_19 bw
      have HOA_20 := hown HOA_19 bw
      have HOB_20 := hown HOB_19 bw
      have HBv1_20 := hblk HBv1_19 bw
      have HBv2_20 := hblk HBv2_19 bw
      have HBv3_20 := hblk HBv3_19 bw
      have HBv4_20 := hblk HBv4_19 bw
      have HBv5_20 := hblk HBv5_19 bw
      clear hb19 HOQ_19 HOX_19 HOY_19 HOG_19 HOR1_19 HOR2_19 HOA_19 HOB_19 HBv1_19 HBv2_19 HBv3_19 HBv4_19 HBv5_19 bw
      clear cv2_4 cv2_6
      by_cases hc1 : nn = ag
      ·
       have hc1b : ((nn : Int) == (ag : Int)) = true := by simpa using hc1
       have hc1n : ((nn : Int) != (ag : Int)) = false := by simpa using hc1
       have hc1H : Hid (nn = ag) := hc1
       clear hc1
       have cv3_0 := (k3c HBv3_20).1
       have cv3_1 := (k3c HBv3_20).2.1
       have cv3_2 := (k3c HBv3_20).2.2
       go_wp2_with fail
       refine (implRespOk_any 304 _ ⟨#[]⟩ np _ P _ (FieldsV.of_owns HOR1_20.out) (by omega) HPW.out (by have := HRB.out; unfold maxLen; omega)).mono ?_
       rintro e w21 ⟨bb, rfl, hbb, bw⟩
       obtain rfl : true = bb := (hbb.2 HAR.out.1).symm
       clear hbb
       have hb21 := hbt hb20 bw
       have HM21 := hsz bw
       have HOQ_21 := hown HOQ_20 bw
       have HOX_21 := hown HOX_20 bw
       have HOY_21 := hown HOY_20 bw
       have HOG_21 := hown HOG_20 bw
       have HOR1_21 := hown HOR1_20 bw
       have HOR2_21 := hown HOR2_20 bw
       have HOA_21 := hown HOA_20 bw
       have HOB_21 := hown HOB_20 bw
       have HBv1_21 := hblk HBv1_20 bw
       have HBv2_21 := hblk HBv2_20 bw
       have HBv3_21 := hblk HBv3_20 bw
       have HBv4_21 := hblk HBv4_20 bw
       have HBv5_21 := hblk HBv5_20 bw
       clear hb20 HOQ_20 HOX_20 HOY_20 HOG_20 HOR1_20 HOR2_20 HOA_20 HOB_20 HBv1_20 HBv2_20 HBv3_20 HBv4_20 HBv5_20 bw
       clear cv3_0 cv3_1 cv3_2
       have cv1_0 := (k4c HBv1_21).1
       have cv1_1 := (k4c HBv1_21).2.1
       have cv1_2 := (k4c HBv1_21).2.2.1
       have cv1_3 := (k4c HBv1_21).2.2.2
       have cv2_4 := (k7c HBv2_21).2.2.2.2.1
       have cv3_0 := (k3c HBv3_21).1
       have cv3_2 := (k3c HBv3_21).2.2
       go_wp2_with fail
       refine (implSame_any ma pa _ ba fsa.length _ fsa _ gs.length _ gs _ (FieldsV.of_owns HOQ_21.out) (by have := HSQ.out.2.1; omega) (FieldsV.of_owns HOG_21.out) (by have := HSM.out.2.2.2.1.1; omega) HSQ.out.2.2.1.copy HSM.out.2.2.2.1.2.copy).mono ?_
       rintro e w22 ⟨bb, rfl, hbb, bw⟩
       obtain rfl : true = bb := (hbb.2 HSAME.out).symm
       clear hbb
       have hb22 := hbt hb21 bw
       have HM22 := hsz bw
       have HOQ_22 := hown HOQ_21 bw
       have HOX_22 := hown HOX_21 bw
       have HOY_22 := hown HOY_21 bw
       have HOG_22 := hown HOG_21 bw
       have HOR1_22 := hown HOR1_21 bw
       have HOR2_22 := hown HOR2_21 bw
       have HOA_22 := hown HOA_21 bw
       have HOB_22 := hown HOB_21 bw
       have HBv1_22 := hblk HBv1_21 bw
       have HBv2_22 := hblk HBv2_21 bw
       have HBv3_22 := hblk HBv3_21 bw
       have HBv4_22 := hblk HBv4_21 bw
       have HBv5_22 := hblk HBv5_21 bw
       clear hb21 HOQ_21 HOX_21 HOY_21 HOG_21 HOR1_21 HOR2_21 HOA_21 HOB_21 HBv1_21 HBv2_21 HBv3_21 HBv4_21 HBv5_21 bw
       clear cv1_0 cv1_1 cv1_2 cv1_3 cv2_4 cv3_0 cv3_2
       go_wp2_with fail
       go_ret
       exact ⟨rfl, hb22⟩
      ·
       have hc1b : ((nn : Int) == (ag : Int)) = false := by simpa using hc1
       have hc1n : ((nn : Int) != (ag : Int)) = true := by simpa using hc1
       have h8 : (8 : Int) ≤ (gs.length : Int) := by rcases HNR.out with hh | hh; exact absurd hh.2 hc1; omega
       have hc1H : Hid (¬ (nn = ag)) := hc1
       clear hc1
       have cv2_4 := (k7c HBv2_20).2.2.2.2.1
       go_wp2_with fail
       go_ret
       exact ⟨rfl, hb20⟩
   ·
    have HSAME : Hid (¬ SameP fsa gs) := hsame
    have e1 : st = rs := by rw [HRS.out.1]; exact (ansS_no hsame st).symm
    have e2 : d = rb := by rw [HRS.out.2.1]; exact (ansB_no hsame d).symm
    clear hsame HRS HTT
    subst e1 e2
    have cv3_1 := (k3c HBv3_17).2.1
    go_wp2_with fail
    refine (implGet_any _ np _ P ageName _ (FieldsV.of_owns HOR1_17.out) (by omega) HPS.out.copy).mono ?_
    rintro e w18 ⟨rfl, bw⟩
    obtain ⟨tv, htv⟩ := exq (getV P ageName)
    obtain ⟨gk, hgk⟩ := exq (getB P ageName)
    rw [← htv, ← hgk]
    have HTV : Hid (tv.size ≤ 64) := by show _ ≤ _; rw [htv]; exact short_get2 HPS.out ageName
    obtain ⟨ag, hag⟩ := exq (ageAt gs u now)
    have HAG : Hid (ageAt gs u now = ag) := hag.symm
    have HAC : Hid ((NumOk tv ∧ (valL tv.data.toList : Int) = ag) ∨ 8 ≤ gs.length) := by
     rcases HAR.out.2 with h | h
     ·
      refine .inl ?_
      rw [htv, h.2, hag]
      exact ccNum_in _ (ageAt_in gs u now).1 (ageAt_in gs u now).2
     · exact .inr h
    clear htv hgk hag
    have hb18 := hbt hb17 bw
    have HM18 := hsz bw
    have HOQ_18 := hown HOQ_17 bw
    have HOX_18 := hown HOX_17 bw
    have HOY_18 := hown HOY_17 bw
    have HOG_18 := hown HOG_17 bw
    have HOR1_18 := hown HOR1_17 bw
    have HOR2_18 := hown HOR2_17 bw
    have HOA_18 := hown HOA_17 bw
    have HOB_18 := hown HOB_17 bw
    have HBv1_18 := hblk HBv1_17 bw
    have HBv2_18 := hblk HBv2_17 bw
    have HBv3_18 := hblk HBv3_17 bw
    have HBv4_18 := hblk HBv4_17 bw
    have HBv5_18 := hblk HBv5_17 bw
    clear hb17 HOQ_17 HOX_17 HOY_17 HOG_17 HOR1_17 HOR2_17 HOA_17 HOB_17 HBv1_17 HBv2_17 HBv3_17 HBv4_17 HBv5_17 bw
    clear cv3_1
    go_wp2_with fail
    refine (implNumRead_any tv _ (by have := HTV.out; unfold maxLen; omega)).mono ?_
    rintro e w19 ⟨nr, nn, rfl, hn1, hn2, hn3, bw⟩
    have HNR : Hid ((nr = true ∧ nn = ag) ∨ 8 ≤ gs.length) := by
     rcases HAC.out with h | h
     ·
      have e1 : nr = true := hn1.2 h.1
      exact .inl ⟨e1, by rw [hn2 e1]; exact h.2⟩
     · exact .inr h
    clear hn1 hn2 hn3 HAC HTV
    have hb19 := hbt hb18 bw
    have HM19 := hsz bw
    have HOQ_19 := hown HOQ_18 bw
    have HOX_19 := hown HOX_18 bw
    have HOY_19 := hown HOY_18 bw
    have HOG_19 := hown HOG_18 bw
    have HOR1_19 := hown HOR1_18 bw
    have HOR2_19 := hown HOR2_18 bw
    have HOA_19 := hown HOA_18 bw
    have HOB_19 := hown HOB_18 bw
    have HBv1_19 := hblk HBv1_18 bw
    have HBv2_19 := hblk HBv2_18 bw
    have HBv3_19 := hblk HBv3_18 bw
    have HBv4_19 := hblk HBv4_18 bw
    have HBv5_19 := hblk HBv5_18 bw
    clear hb18 HOQ_18 HOX_18 HOY_18 HOG_18 HOR1_18 HOR2_18 HOA_18 HOB_18 HBv1_18 HBv2_18 HBv3_18 HBv4_18 HBv5_18 bw
    cases gk with
    | false =>
     have cv3_0 := (k3c HBv3_19).1
     have cv3_1 := (k3c HBv3_19).2.1
     have cv3_2 := (k3c HBv3_19).2.2
     go_wp2_with fail
     refine (implRespOk_any st _ d np _ P _ (FieldsV.of_owns HOR1_19.out) (by omega) HPW.out (by have := HRB.out; unfold maxLen; omega)).mono ?_
     rintro e w20 ⟨bb, rfl, hbb, bw⟩
     obtain rfl : true = bb := (hbb.2 HAR.out.1).symm
     clear hbb
     have hb20 := hbt hb19 bw
     have HM20 := hsz bw
     have HOQ_20 := hown HOQ_19 bw
     have HOX_20 := hown HOX_19 bw
     have HOY_20 := hown HOY_19 bw
     have HOG_20 := hown HOG_19 bw
     have HOR1_20 := hown HOR1_19 bw
     have HOR2_20 := hown HOR2_19 bw
     have HOA_20 := hown HOA_19 bw
     have HOB_20 := hown HOB_19 bw
     have HBv1_20 := hblk HBv1_19 bw
     have HBv2_20 := hblk HBv2_19 bw
     have HBv3_20 := hblk HBv3_19 bw
     have HBv4_20 := hblk HBv4_19 bw
     have HBv5_20 := hblk HBv5_19 bw
     clear hb19 HOQ_19 HOX_19 HOY_19 HOG_19 HOR1_19 HOR2_19 HOA_19 HOB_19 HBv1_19 HBv2_19 HBv3_19 HBv4_19 HBv5_19 bw
     clear cv3_0 cv3_1 cv3_2
     by_cases hc1 : st = 304
     ·
      have hc1b : ((st : Int) == (304 : Int)) = true := by simpa using hc1
      have hc1n : ((st : Int) != (304 : Int)) = false := by simpa using hc1
      have hc1H : Hid (st = 304) := hc1
      clear hc1
      by_cases hc2 : d = ⟨#[]⟩
      ·
       have hc2b : (d).toList.isEmpty = true := isEmpty_yes (by rw [hc2]; rfl)
       have cv1_0 := (k4c HBv1_20).1
       have cv1_1 := (k4c HBv1_20).2.1
       have cv1_2 := (k4c HBv1_20).2.2.1
       have cv1_3 := (k4c HBv1_20).2.2.2
       have cv2_4 := (k7c HBv2_20).2.2.2.2.1
       have cv3_0 := (k3c HBv3_20).1
       have cv3_2 := (k3c HBv3_20).2.2
       go_wp2_with fail
       refine (implSame_any ma pa _ ba fsa.length _ fsa _ gs.length _ gs _ (FieldsV.of_owns HOQ_20.out) (by have := HSQ.out.2.1; omega) (FieldsV.of_owns HOG_20.out) (by have := HSM.out.2.2.2.1.1; omega) HSQ.out.2.2.1.copy HSM.out.2.2.2.1.2.copy).mono ?_
       rintro e w21 ⟨bb, rfl, hbb, bw⟩
       obtain rfl : false = bb := by cases bb; rfl; exact absurd (hbb.1 rfl) HSAME.out
       clear hbb
       have hb21 := hbt hb20 bw
       have HM21 := hsz bw
       have HOQ_21 := hown HOQ_20 bw
       have HOX_21 := hown HOX_20 bw
       have HOY_21 := hown HOY_20 bw
       have HOG_21 := hown HOG_20 bw
       have HOR1_21 := hown HOR1_20 bw
       have HOR2_21 := hown HOR2_20 bw
       have HOA_21 := hown HOA_20 bw
       have HOB_21 := hown HOB_20 bw
       have HBv1_21 := hblk HBv1_20 bw
       have HBv2_21 := hblk HBv2_20 bw
       have HBv3_21 := hblk HBv3_20 bw
       have HBv4_21 := hblk HBv4_20 bw
       have HBv5_21 := hblk HBv5_20 bw
       clear hb20 HOQ_20 HOX_20 HOY_20 HOG_20 HOR1_20 HOR2_20 HOA_20 HOB_20 HBv1_20 HBv2_20 HBv3_20 HBv4_20 HBv5_20 bw
       clear cv1_0 cv1_1 cv1_2 cv1_3 cv2_4 cv3_0 cv3_2
       have cv2_3 := (k7c HBv2_21).2.2.2.1
       have cv2_5 := (k7c HBv2_21).2.2.2.2.2.1
       have cv3_0 := (k3c HBv3_21).1
       have cv3_2 := (k3c HBv3_21).2.2
       go_wp2_with fail
       go_ret
       exact ⟨rfl, hb21⟩
      ·
       have hc2b : (d).toList.isEmpty = false := isEmpty_no (Nat.pos_of_ne_zero (fun e => hc2 (empty_text e)))
       have cv2_3 := (k7c HBv2_20).2.2.2.1
       have cv2_5 := (k7c HBv2_20).2.2.2.2.2.1
       have cv3_0 := (k3c HBv3_20).1
       have cv3_2 := (k3c HBv3_20).2.2
       go_wp2_with fail
       go_ret
       exact ⟨rfl, hb20⟩
     ·
      have hc1b : ((st : Int) == (304 : Int)) = false := by simpa using hc1
      have hc1n : ((st : Int) != (304 : Int)) = true := by simpa using hc1
      have hc1H : Hid (¬ (st = 304)) := hc1
      clear hc1
      have cv2_3 := (k7c HBv2_20).2.2.2.1
      have cv2_5 := (k7c HBv2_20).2.2.2.2.2.1
      have cv3_0 := (k3c HBv3_20).1
      have cv3_2 := (k3c HBv3_20).2.2
      go_wp2_with fail
      go_ret
      exact ⟨rfl, hb20⟩
    | true =>
     cases nr with
     | false =>
      have h8 : (8 : Int) ≤ (gs.length : Int) := by rcases HNR.out with hh | hh; exact absurd hh.1 (by decide); omega
      have cv2_4 := (k7c HBv2_19).2.2.2.2.1
      go_wp2_with fail
      go_ret
      exact ⟨rfl, hb19⟩
     | true =>
      have cv2_4 := (k7c HBv2_19).2.2.2.2.1
      have cv2_6 := (k7c HBv2_19).2.2.2.2.2.2
      go_wp2_with fail
      refine (implAgeAt_any _ gs.length _ gs u now _ (FieldsV.of_owns HOG_19.out) (by have := HSM.out.2.2.2.1.1; omega) HSM.out.2.2.2.1.2.copy (by have := short_get2 HSM.out.2.2.2.1.2 ageName; unfold maxLen; omega) HSM.out.2.2.2.2.2.1 HTM.out.2).mono ?_
      rintro e w20 ⟨rfl, bw⟩
      rw [HAG.out]
      have hb20 := hbt hb19 bw
      have HM20 := hsz bw
      have HOQ_20 := hown HOQ_19 bw
      have HOX_20 := hown HOX_19 bw
      have HOY_20 := hown HOY_19 bw
      have HOG_20 := hown HOG_19 bw
      have HOR1_20 := hown HOR1_19 bw
      have HOR2_20 := hown HOR2_19 bw
      have HOA_20 := hown HOA_19 bw
      have HOB_20 := hown HOB_19 bw
      have HBv1_20 := hblk HBv1_19 bw
      have HBv2_20 := hblk HBv2_19 bw
      have HBv3_20 := hblk HBv3_19 bw
      have HBv4_20 := hblk HBv4_19 bw
      have HBv5_20 := hblk HBv5_19 bw
      clear hb19 HOQ_19 HOX_19 HOY_19 HOG_19 HOR1_19 HOR2_19 HOA_19 HOB_19 HBv1_19 HBv2_19 HBv3_19 HBv4_19 HBv5_19 bw
      clear cv2_4 cv2_6
      by_cases hc1 : nn = ag
      ·
       have hc1b : ((nn : Int) == (ag : Int)) = true := by simpa using hc1
       have hc1n : ((nn : Int) != (ag : Int)) = false := by simpa using hc1
       have hc1H : Hid (nn = ag) := hc1
       clear hc1
       have cv3_0 := (k3c HBv3_20).1
       have cv3_1 := (k3c HBv3_20).2.1
       have cv3_2 := (k3c HBv3_20).2.2
       go_wp2_with fail
       refine (implRespOk_any st _ d np _ P _ (FieldsV.of_owns HOR1_20.out) (by omega) HPW.out (by have := HRB.out; unfold maxLen; omega)).mono ?_
       rintro e w21 ⟨bb, rfl, hbb, bw⟩
       obtain rfl : true = bb := (hbb.2 HAR.out.1).symm
       clear hbb
       have hb21 := hbt hb20 bw
       have HM21 := hsz bw
       have HOQ_21 := hown HOQ_20 bw
       have HOX_21 := hown HOX_20 bw
       have HOY_21 := hown HOY_20 bw
       have HOG_21 := hown HOG_20 bw
       have HOR1_21 := hown HOR1_20 bw
       have HOR2_21 := hown HOR2_20 bw
       have HOA_21 := hown HOA_20 bw
       have HOB_21 := hown HOB_20 bw
       have HBv1_21 := hblk HBv1_20 bw
       have HBv2_21 := hblk HBv2_20 bw
       have HBv3_21 := hblk HBv3_20 bw
       have HBv4_21 := hblk HBv4_20 bw
       have HBv5_21 := hblk HBv5_20 bw
       clear hb20 HOQ_20 HOX_20 HOY_20 HOG_20 HOR1_20 HOR2_20 HOA_20 HOB_20 HBv1_20 HBv2_20 HBv3_20 HBv4_20 HBv5_20 bw
       clear cv3_0 cv3_1 cv3_2
       by_cases hc2 : st = 304
       ·
        have hc2b : ((st : Int) == (304 : Int)) = true := by simpa using hc2
        have hc2n : ((st : Int) != (304 : Int)) = false := by simpa using hc2
        have hc2H : Hid (st = 304) := hc2
        clear hc2
        by_cases hc3 : d = ⟨#[]⟩
        ·
         have hc3b : (d).toList.isEmpty = true := isEmpty_yes (by rw [hc3]; rfl)
         have cv1_0 := (k4c HBv1_21).1
         have cv1_1 := (k4c HBv1_21).2.1
         have cv1_2 := (k4c HBv1_21).2.2.1
         have cv1_3 := (k4c HBv1_21).2.2.2
         have cv2_4 := (k7c HBv2_21).2.2.2.2.1
         have cv3_0 := (k3c HBv3_21).1
         have cv3_2 := (k3c HBv3_21).2.2
         go_wp2_with fail
         refine (implSame_any ma pa _ ba fsa.length _ fsa _ gs.length _ gs _ (FieldsV.of_owns HOQ_21.out) (by have := HSQ.out.2.1; omega) (FieldsV.of_owns HOG_21.out) (by have := HSM.out.2.2.2.1.1; omega) HSQ.out.2.2.1.copy HSM.out.2.2.2.1.2.copy).mono ?_
         rintro e w22 ⟨bb, rfl, hbb, bw⟩
         obtain rfl : false = bb := by cases bb; rfl; exact absurd (hbb.1 rfl) HSAME.out
         clear hbb
         have hb22 := hbt hb21 bw
         have HM22 := hsz bw
         have HOQ_22 := hown HOQ_21 bw
         have HOX_22 := hown HOX_21 bw
         have HOY_22 := hown HOY_21 bw
         have HOG_22 := hown HOG_21 bw
         have HOR1_22 := hown HOR1_21 bw
         have HOR2_22 := hown HOR2_21 bw
         have HOA_22 := hown HOA_21 bw
         have HOB_22 := hown HOB_21 bw
         have HBv1_22 := hblk HBv1_21 bw
         have HBv2_22 := hblk HBv2_21 bw
         have HBv3_22 := hblk HBv3_21 bw
         have HBv4_22 := hblk HBv4_21 bw
         have HBv5_22 := hblk HBv5_21 bw
         clear hb21 HOQ_21 HOX_21 HOY_21 HOG_21 HOR1_21 HOR2_21 HOA_21 HOB_21 HBv1_21 HBv2_21 HBv3_21 HBv4_21 HBv5_21 bw
         clear cv1_0 cv1_1 cv1_2 cv1_3 cv2_4 cv3_0 cv3_2
         have cv2_3 := (k7c HBv2_22).2.2.2.1
         have cv2_5 := (k7c HBv2_22).2.2.2.2.2.1
         have cv3_0 := (k3c HBv3_22).1
         have cv3_2 := (k3c HBv3_22).2.2
         go_wp2_with fail
         go_ret
         exact ⟨rfl, hb22⟩
        ·
         have hc3b : (d).toList.isEmpty = false := isEmpty_no (Nat.pos_of_ne_zero (fun e => hc3 (empty_text e)))
         have cv2_3 := (k7c HBv2_21).2.2.2.1
         have cv2_5 := (k7c HBv2_21).2.2.2.2.2.1
         have cv3_0 := (k3c HBv3_21).1
         have cv3_2 := (k3c HBv3_21).2.2
         go_wp2_with fail
         go_ret
         exact ⟨rfl, hb21⟩
       ·
        have hc2b : ((st : Int) == (304 : Int)) = false := by simpa using hc2
        have hc2n : ((st : Int) != (304 : Int)) = true := by simpa using hc2
        have hc2H : Hid (¬ (st = 304)) := hc2
        clear hc2
        have cv2_3 := (k7c HBv2_21).2.2.2.1
        have cv2_5 := (k7c HBv2_21).2.2.2.2.2.1
        have cv3_0 := (k3c HBv3_21).1
        have cv3_2 := (k3c HBv3_21).2.2
        go_wp2_with fail
        go_ret
        exact ⟨rfl, hb21⟩
      ·
       have hc1b : ((nn : Int) == (ag : Int)) = false := by simpa using hc1
       have hc1n : ((nn : Int) != (ag : Int)) = true := by simpa using hc1
       have h8 : (8 : Int) ≤ (gs.length : Int) := by rcases HNR.out with hh | hh; exact absurd hh.2 hc1; omega
       have hc1H : Hid (¬ (nn = ag)) := hc1
       clear hc1
       have cv2_4 := (k7c HBv2_20).2.2.2.2.1
       go_wp2_with fail
       go_ret
       exact ⟨rfl, hb20⟩
 | true =>
  have HKA : Hid (AlikeP mA yA fA bA mB yB fB bB) := (show AlikeP mA yA fA bA mB yB fB bB from of_decide_eq_true HAL.out.symm)
  have cv4_0 := (k4c HBv4_16).1
  have cv4_1 := (k4c HBv4_16).2.1
  have cv4_2 := (k4c HBv4_16).2.2.1
  have cv4_3 := (k4c HBv4_16).2.2.2
  go_wp2_with fail
  refine (implReqText_any mA yA _ bA fA.length _ fA _ (FieldsV.of_owns HOA_16.out) (by have := HSA.out.2.1; omega) (shortWalk HSA.out.2.2.1) (by have := HSA.out.1; unfold maxLen; omega) (by have := HSA.out.2.2.2; unfold maxLen; omega) (HT.out _ hb16)).mono ?_
  rintro e w17 ⟨GT, rfl, hgu, _, bw⟩
  have hgq : GT = reqT 1 yA fA bA := by rw [hgu HKA.out.1.1.1.1, HKA.out.1.1.1.2]
  have hg4 : (4 : Int) ≤ (GT.size : Int) := by have := (get_four (p := yA) (fs := fA) (b := bA)).1; rw [← hgq] at this; omega
  have hgn : 4 ≤ GT.size := by omega
  have hgl : (GT.extract 0 4).toList = [71, 69, 84, 32] := by rw [hgq, get_four.2, ByteArray.toList_eq]
  have hgm : ((GT.extract 0 4).toList != [71, 69, 84, 32]) = false := by rw [hgl]; rfl
  clear hgu hgq
  have hb17 := hbt hb16 bw
  have HM17 := hsz bw
  have HOQ_17 := hown HOQ_16 bw
  have HOX_17 := hown HOX_16 bw
  have HOY_17 := hown HOY_16 bw
  have HOG_17 := hown HOG_16 bw
  have HOR1_17 := hown HOR1_16 bw
  have HOR2_17 := hown HOR2_16 bw
  have HOA_17 := hown HOA_16 bw
  have HOB_17 := hown HOB_16 bw
  have HBv1_17 := hblk HBv1_16 bw
  have HBv2_17 := hblk HBv2_16 bw
  have HBv3_17 := hblk HBv3_16 bw
  have HBv4_17 := hblk HBv4_16 bw
  have HBv5_17 := hblk HBv5_16 bw
  clear hb16 HOQ_16 HOX_16 HOY_16 HOG_16 HOR1_16 HOR2_16 HOA_16 HOB_16 HBv1_16 HBv2_16 HBv3_16 HBv4_16 HBv5_16 bw
  skip
  clear cv4_0 cv4_1 cv4_2 cv4_3
  have cv2_0 := (k7c HBv2_17).1
  have cv2_1 := (k7c HBv2_17).2.1
  have cv2_2 := (k7c HBv2_17).2.2.1
  have cv2_3 := (k7c HBv2_17).2.2.2.1
  have cv2_4 := (k7c HBv2_17).2.2.2.2.1
  have cv2_5 := (k7c HBv2_17).2.2.2.2.2.1
  have cv2_6 := (k7c HBv2_17).2.2.2.2.2.2
  go_wp2_with fail
  refine (specObjOk_any op _ xs.length _ xs _ ys.length _ ys st _ gs.length _ gs d u _ (texts_view HOX_17.out) (texts_view HOY_17.out) (FieldsV.of_owns HOG_17.out) (by have := HSM.out.2.1.1; omega) (by have := HSM.out.2.2.1.1; omega) (by have := HSM.out.2.2.2.1.1; omega) (fun i hi => by have := HSM.out.2.1.2 _ (textAt_mem xs i hi); unfold maxLen; omega) (fun i hi => by have := HSM.out.2.2.1.2 _ (textAt_mem ys i hi); unfold maxLen; omega) (shortWalk HSM.out.2.2.2.1.2) (by have := HSM.out.1; unfold maxLen; omega) (by have := HSM.out.2.2.2.2.1; unfold maxLen; omega) (by have := short_get2 HSM.out.2.2.2.1.2 varyName; omega)).mono ?_
  rintro e w18 ⟨ob, rfl, hob, bw⟩
  have hb18 := hbt hb17 bw
  have HM18 := hsz bw
  have HOQ_18 := hown HOQ_17 bw
  have HOX_18 := hown HOX_17 bw
  have HOY_18 := hown HOY_17 bw
  have HOG_18 := hown HOG_17 bw
  have HOR1_18 := hown HOR1_17 bw
  have HOR2_18 := hown HOR2_17 bw
  have HOA_18 := hown HOA_17 bw
  have HOB_18 := hown HOB_17 bw
  have HBv1_18 := hblk HBv1_17 bw
  have HBv2_18 := hblk HBv2_17 bw
  have HBv3_18 := hblk HBv3_17 bw
  have HBv4_18 := hblk HBv4_17 bw
  have HBv5_18 := hblk HBv5_17 bw
  clear hb17 HOQ_17 HOX_17 HOY_17 HOG_17 HOR1_17 HOR2_17 HOA_17 HOB_17 HBv1_17 HBv2_17 HBv3_17 HBv4_17 HBv5_17 bw
  clear cv2_0 cv2_1 cv2_2 cv2_3 cv2_4 cv2_5 cv2_6
  cases ob with
  | false =>
   clear hob
   go_wp2_with fail
   go_ret
   exact ⟨rfl, hb18⟩
  | true =>
   have HOB : Hid (ObjP op xs ys st gs d u) := hob.1 rfl
   clear hob
   go_upto_region 13 with fail
   have HAR : Hid (RespP rs P rb ∧ ((getB P ageName = true ∧ getV P ageName = ageT gs u now) ∨ 8 ≤ gs.length)) := by
    obtain ⟨e1, e2, e3, _⟩ := HRS.out
    show _ ∧ _
    rw [e1, e2, e3]
    exact ans_right u now HOB.out.1
   have he0 : ((⟨#[]⟩ : ByteArray).toList == ([] : List UInt8)) = true := by rw [ByteArray.toList_eq]; rfl
   have he1 : (⟨#[]⟩ : ByteArray).toList.isEmpty = true := by rw [ByteArray.toList_eq]; rfl
   have hdd : (d.toList == d.toList) = true := by simp
   have hst : (st == st) = true := by simp
   by_cases hsame : SameP fsa gs
   ·
    have HSAME : Hid (SameP fsa gs) := hsame
    have e1 : rs = 304 := by rw [HRS.out.1]; exact ansS_yes hsame st
    have e2 : rb = ⟨#[]⟩ := by rw [HRS.out.2.1]; exact ansB_yes hsame d
    clear hsame HRS HTT
    subst e1 e2
    have cv3_1 := (k3c HBv3_18).2.1
    go_wp2_with fail
    refine (implGet_any _ np _ P ageName _ (FieldsV.of_owns HOR1_18.out) (by omega) HPS.out.copy).mono ?_
    rintro e w19 ⟨rfl, bw⟩
    obtain ⟨tv, htv⟩ := exq (getV P ageName)
    obtain ⟨gk, hgk⟩ := exq (getB P ageName)
    rw [← htv, ← hgk]
    have HTV : Hid (tv.size ≤ 64) := by show _ ≤ _; rw [htv]; exact short_get2 HPS.out ageName
    obtain ⟨ag, hag⟩ := exq (ageAt gs u now)
    have HAG : Hid (ageAt gs u now = ag) := hag.symm
    have HAC : Hid ((NumOk tv ∧ (valL tv.data.toList : Int) = ag) ∨ 8 ≤ gs.length) := by
     rcases HAR.out.2 with h | h
     ·
      refine .inl ?_
      rw [htv, h.2, hag]
      exact ccNum_in _ (ageAt_in gs u now).1 (ageAt_in gs u now).2
     · exact .inr h
    clear htv hgk hag
    have hb19 := hbt hb18 bw
    have HM19 := hsz bw
    have HOQ_19 := hown HOQ_18 bw
    have HOX_19 := hown HOX_18 bw
    have HOY_19 := hown HOY_18 bw
    have HOG_19 := hown HOG_18 bw
    have HOR1_19 := hown HOR1_18 bw
    have HOR2_19 := hown HOR2_18 bw
    have HOA_19 := hown HOA_18 bw
    have HOB_19 := hown HOB_18 bw
    have HBv1_19 := hblk HBv1_18 bw
    have HBv2_19 := hblk HBv2_18 bw
    have HBv3_19 := hblk HBv3_18 bw
    have HBv4_19 := hblk HBv4_18 bw
    have HBv5_19 := hblk HBv5_18 bw
    clear hb18 HOQ_18 HOX_18 HOY_18 HOG_18 HOR1_18 HOR2_18 HOA_18 HOB_18 HBv1_18 HBv2_18 HBv3_18 HBv4_18 HBv5_18 bw
    clear cv3_1
    go_wp2_with fail
    refine (implNumRead_any tv _ (by have := HTV.out; unfold maxLen; omega)).mono ?_
    rintro e w20 ⟨nr, nn, rfl, hn1, hn2, hn3, bw⟩
    have HNR : Hid ((nr = true ∧ nn = ag) ∨ 8 ≤ gs.length) := by
     rcases HAC.out with h | h
     ·
      have e1 : nr = true := hn1.2 h.1
      exact .inl ⟨e1, by rw [hn2 e1]; exact h.2⟩
     · exact .inr h
    clear hn1 hn2 hn3 HAC HTV
    have hb20 := hbt hb19 bw
    have HM20 := hsz bw
    have HOQ_20 := hown HOQ_19 bw
    have HOX_20 := hown HOX_19 bw
    have HOY_20 := hown HOY_19 bw
    have HOG_20 := hown HOG_19 bw
    have HOR1_20 := hown HOR1_19 bw
    have HOR2_20 := hown HOR2_19 bw
    have HOA_20 := hown HOA_19 bw
    have HOB_20 := hown HOB_19 bw
    have HBv1_20 := hblk HBv1_19 bw
    have HBv2_20 := hblk HBv2_19 bw
    have HBv3_20 := hblk HBv3_19 bw
    have HBv4_20 := hblk HBv4_19 bw
    have HBv5_20 := hblk HBv5_19 bw
    clear hb19 HOQ_19 HOX_19 HOY_19 HOG_19 HOR1_19 HOR2_19 HOA_19 HOB_19 HBv1_19 HBv2_19 HBv3_19 HBv4_19 HBv5_19 bw
    cases gk with
    | false =>
     have cv3_0 := (k3c HBv3_20).1
     have cv3_1 := (k3c HBv3_20).2.1
     have cv3_2 := (k3c HBv3_20).2.2
     go_wp2_with fail
     refine (implRespOk_any 304 _ ⟨#[]⟩ np _ P _ (FieldsV.of_owns HOR1_20.out) (by omega) HPW.out (by have := HRB.out; unfold maxLen; omega)).mono ?_
     rintro e w21 ⟨bb, rfl, hbb, bw⟩
     obtain rfl : true = bb := (hbb.2 HAR.out.1).symm
     clear hbb
     have hb21 := hbt hb20 bw
     have HM21 := hsz bw
     have HOQ_21 := hown HOQ_20 bw
     have HOX_21 := hown HOX_20 bw
     have HOY_21 := hown HOY_20 bw
     have HOG_21 := hown HOG_20 bw
     have HOR1_21 := hown HOR1_20 bw
     have HOR2_21 := hown HOR2_20 bw
     have HOA_21 := hown HOA_20 bw
     have HOB_21 := hown HOB_20 bw
     have HBv1_21 := hblk HBv1_20 bw
     have HBv2_21 := hblk HBv2_20 bw
     have HBv3_21 := hblk HBv3_20 bw
     have HBv4_21 := hblk HBv4_20 bw
     have HBv5_21 := hblk HBv5_20 bw
     clear hb20 HOQ_20 HOX_20 HOY_20 HOG_20 HOR1_20 HOR2_20 HOA_20 HOB_20 HBv1_20 HBv2_20 HBv3_20 HBv4_20 HBv5_20 bw
     clear cv3_0 cv3_1 cv3_2
     have cv1_0 := (k4c HBv1_21).1
     have cv1_1 := (k4c HBv1_21).2.1
     have cv1_2 := (k4c HBv1_21).2.2.1
     have cv1_3 := (k4c HBv1_21).2.2.2
     have cv2_4 := (k7c HBv2_21).2.2.2.2.1
     have cv3_0 := (k3c HBv3_21).1
     have cv3_2 := (k3c HBv3_21).2.2
     go_wp2_with fail
     refine (implSame_any ma pa _ ba fsa.length _ fsa _ gs.length _ gs _ (FieldsV.of_owns HOQ_21.out) (by have := HSQ.out.2.1; omega) (FieldsV.of_owns HOG_21.out) (by have := HSM.out.2.2.2.1.1; omega) HSQ.out.2.2.1.copy HSM.out.2.2.2.1.2.copy).mono ?_
     rintro e w22 ⟨bb, rfl, hbb, bw⟩
     obtain rfl : true = bb := (hbb.2 HSAME.out).symm
     clear hbb
     have hb22 := hbt hb21 bw
     have HM22 := hsz bw
     have HOQ_22 := hown HOQ_21 bw
     have HOX_22 := hown HOX_21 bw
     have HOY_22 := hown HOY_21 bw
     have HOG_22 := hown HOG_21 bw
     have HOR1_22 := hown HOR1_21 bw
     have HOR2_22 := hown HOR2_21 bw
     have HOA_22 := hown HOA_21 bw
     have HOB_22 := hown HOB_21 bw
     have HBv1_22 := hblk HBv1_21 bw
     have HBv2_22 := hblk HBv2_21 bw
     have HBv3_22 := hblk HBv3_21 bw
     have HBv4_22 := hblk HBv4_21 bw
     have HBv5_22 := hblk HBv5_21 bw
     clear hb21 HOQ_21 HOX_21 HOY_21 HOG_21 HOR1_21 HOR2_21 HOA_21 HOB_21 HBv1_21 HBv2_21 HBv3_21 HBv4_21 HBv5_21 bw
     clear cv1_0 cv1_1 cv1_2 cv1_3 cv2_4 cv3_0 cv3_2
     go_wp2_with fail
     go_ret
     exact ⟨rfl, hb22⟩
    | true =>
     cases nr with
     | false =>
      have h8 : (8 : Int) ≤ (gs.length : Int) := by rcases HNR.out with hh | hh; exact absurd hh.1 (by decide); omega
      have cv2_4 := (k7c HBv2_20).2.2.2.2.1
      go_wp2_with fail
      go_ret
      exact ⟨rfl, hb20⟩
     | true =>
      have cv2_4 := (k7c HBv2_20).2.2.2.2.1
      have cv2_6 := (k7c HBv2_20).2.2.2.2.2.2
      go_wp2_with fail
      refine (implAgeAt_any _ gs.length _ gs u now _ (FieldsV.of_owns HOG_20.out) (by have := HSM.out.2.2.2.1.1; omega) HSM.out.2.2.2.1.2.copy (by have := short_get2 HSM.out.2.2.2.1.2 ageName; unfold maxLen; omega) HSM.out.2.2.2.2.2.1 HTM.out.2).mono ?_
      rintro e w21 ⟨rfl, bw⟩
      rw [HAG.out]
      have hb21 := hbt hb20 bw
      have HM21 := hsz bw
      have HOQ_21 := hown HOQ_20 bw
      have HOX_21 := hown HOX_20 bw
      have HOY_21 := hown HOY_20 bw
      have HOG_21 := hown HOG_20 bw
      have HOR1_21 := hown HOR1_20 bw
      have HOR2_21 := hown HOR2_20 bw
      have HOA_21 := hown HOA_20 bw
      have HOB_21 := hown HOB_20 bw
      have HBv1_21 := hblk HBv1_20 bw
      have HBv2_21 := hblk HBv2_20 bw
      have HBv3_21 := hblk HBv3_20 bw
      have HBv4_21 := hblk HBv4_20 bw
      have HBv5_21 := hblk HBv5_20 bw
      clear hb20 HOQ_20 HOX_20 HOY_20 HOG_20 HOR1_20 HOR2_20 HOA_20 HOB_20 HBv1_20 HBv2_20 HBv3_20 HBv4_20 HBv5_20 bw
      clear cv2_4 cv2_6
      by_cases hc1 : nn = ag
      ·
       have hc1b : ((nn : Int) == (ag : Int)) = true := by simpa using hc1
       have hc1n : ((nn : Int) != (ag : Int)) = false := by simpa using hc1
       have hc1H : Hid (nn = ag) := hc1
       clear hc1
       have cv3_0 := (k3c HBv3_21).1
       have cv3_1 := (k3c HBv3_21).2.1
       have cv3_2 := (k3c HBv3_21).2.2
       go_wp2_with fail
       refine (implRespOk_any 304 _ ⟨#[]⟩ np _ P _ (FieldsV.of_owns HOR1_21.out) (by omega) HPW.out (by have := HRB.out; unfold maxLen; omega)).mono ?_
       rintro e w22 ⟨bb, rfl, hbb, bw⟩
       obtain rfl : true = bb := (hbb.2 HAR.out.1).symm
       clear hbb
       have hb22 := hbt hb21 bw
       have HM22 := hsz bw
       have HOQ_22 := hown HOQ_21 bw
       have HOX_22 := hown HOX_21 bw
       have HOY_22 := hown HOY_21 bw
       have HOG_22 := hown HOG_21 bw
       have HOR1_22 := hown HOR1_21 bw
       have HOR2_22 := hown HOR2_21 bw
       have HOA_22 := hown HOA_21 bw
       have HOB_22 := hown HOB_21 bw
       have HBv1_22 := hblk HBv1_21 bw
       have HBv2_22 := hblk HBv2_21 bw
       have HBv3_22 := hblk HBv3_21 bw
       have HBv4_22 := hblk HBv4_21 bw
       have HBv5_22 := hblk HBv5_21 bw
       clear hb21 HOQ_21 HOX_21 HOY_21 HOG_21 HOR1_21 HOR2_21 HOA_21 HOB_21 HBv1_21 HBv2_21 HBv3_21 HBv4_21 HBv5_21 bw
       clear cv3_0 cv3_1 cv3_2
       have cv1_0 := (k4c HBv1_22).1
       have cv1_1 := (k4c HBv1_22).2.1
       have cv1_2 := (k4c HBv1_22).2.2.1
       have cv1_3 := (k4c HBv1_22).2.2.2
       have cv2_4 := (k7c HBv2_22).2.2.2.2.1
       have cv3_0 := (k3c HBv3_22).1
       have cv3_2 := (k3c HBv3_22).2.2
       go_wp2_with fail
       refine (implSame_any ma pa _ ba fsa.length _ fsa _ gs.length _ gs _ (FieldsV.of_owns HOQ_22.out) (by have := HSQ.out.2.1; omega) (FieldsV.of_owns HOG_22.out) (by have := HSM.out.2.2.2.1.1; omega) HSQ.out.2.2.1.copy HSM.out.2.2.2.1.2.copy).mono ?_
       rintro e w23 ⟨bb, rfl, hbb, bw⟩
       obtain rfl : true = bb := (hbb.2 HSAME.out).symm
       clear hbb
       have hb23 := hbt hb22 bw
       have HM23 := hsz bw
       have HOQ_23 := hown HOQ_22 bw
       have HOX_23 := hown HOX_22 bw
       have HOY_23 := hown HOY_22 bw
       have HOG_23 := hown HOG_22 bw
       have HOR1_23 := hown HOR1_22 bw
       have HOR2_23 := hown HOR2_22 bw
       have HOA_23 := hown HOA_22 bw
       have HOB_23 := hown HOB_22 bw
       have HBv1_23 := hblk HBv1_22 bw
       have HBv2_23 := hblk HBv2_22 bw
       have HBv3_23 := hblk HBv3_22 bw
       have HBv4_23 := hblk HBv4_22 bw
       have HBv5_23 := hblk HBv5_22 bw
       clear hb22 HOQ_22 HOX_22 HOY_22 HOG_22 HOR1_22 HOR2_22 HOA_22 HOB_22 HBv1_22 HBv2_22 HBv3_22 HBv4_22 HBv5_22 bw
       clear cv1_0 cv1_1 cv1_2 cv1_3 cv2_4 cv3_0 cv3_2
       go_wp2_with fail
       go_ret
       exact ⟨rfl, hb23⟩
      ·
       have hc1b : ((nn : Int) == (ag : Int)) = false := by simpa using hc1
       have hc1n : ((nn : Int) != (ag : Int)) = true := by simpa using hc1
       have h8 : (8 : Int) ≤ (gs.length : Int) := by rcases HNR.out with hh | hh; exact absurd hh.2 hc1; omega
       have hc1H : Hid (¬ (nn = ag)) := hc1
       clear hc1
       have cv2_4 := (k7c HBv2_21).2.2.2.2.1
       go_wp2_with fail
       go_ret
       exact ⟨rfl, hb21⟩
   ·
    have HSAME : Hid (¬ SameP fsa gs) := hsame
    have e1 : st = rs := by rw [HRS.out.1]; exact (ansS_no hsame st).symm
    have e2 : d = rb := by rw [HRS.out.2.1]; exact (ansB_no hsame d).symm
    clear hsame HRS HTT
    subst e1 e2
    have cv3_1 := (k3c HBv3_18).2.1
    go_wp2_with fail
    refine (implGet_any _ np _ P ageName _ (FieldsV.of_owns HOR1_18.out) (by omega) HPS.out.copy).mono ?_
    rintro e w19 ⟨rfl, bw⟩
    obtain ⟨tv, htv⟩ := exq (getV P ageName)
    obtain ⟨gk, hgk⟩ := exq (getB P ageName)
    rw [← htv, ← hgk]
    have HTV : Hid (tv.size ≤ 64) := by show _ ≤ _; rw [htv]; exact short_get2 HPS.out ageName
    obtain ⟨ag, hag⟩ := exq (ageAt gs u now)
    have HAG : Hid (ageAt gs u now = ag) := hag.symm
    have HAC : Hid ((NumOk tv ∧ (valL tv.data.toList : Int) = ag) ∨ 8 ≤ gs.length) := by
     rcases HAR.out.2 with h | h
     ·
      refine .inl ?_
      rw [htv, h.2, hag]
      exact ccNum_in _ (ageAt_in gs u now).1 (ageAt_in gs u now).2
     · exact .inr h
    clear htv hgk hag
    have hb19 := hbt hb18 bw
    have HM19 := hsz bw
    have HOQ_19 := hown HOQ_18 bw
    have HOX_19 := hown HOX_18 bw
    have HOY_19 := hown HOY_18 bw
    have HOG_19 := hown HOG_18 bw
    have HOR1_19 := hown HOR1_18 bw
    have HOR2_19 := hown HOR2_18 bw
    have HOA_19 := hown HOA_18 bw
    have HOB_19 := hown HOB_18 bw
    have HBv1_19 := hblk HBv1_18 bw
    have HBv2_19 := hblk HBv2_18 bw
    have HBv3_19 := hblk HBv3_18 bw
    have HBv4_19 := hblk HBv4_18 bw
    have HBv5_19 := hblk HBv5_18 bw
    clear hb18 HOQ_18 HOX_18 HOY_18 HOG_18 HOR1_18 HOR2_18 HOA_18 HOB_18 HBv1_18 HBv2_18 HBv3_18 HBv4_18 HBv5_18 bw
    clear cv3_1
    go_wp2_with fail
    refine (implNumRead_any tv _ (by have := HTV.out; unfold maxLen; omega)).mono ?_
    rintro e w20 ⟨nr, nn, rfl, hn1, hn2, hn3, bw⟩
    have HNR : Hid ((nr = true ∧ nn = ag) ∨ 8 ≤ gs.length) := by
     rcases HAC.out with h | h
     ·
      have e1 : nr = true := hn1.2 h.1
      exact .inl ⟨e1, by rw [hn2 e1]; exact h.2⟩
     · exact .inr h
    clear hn1 hn2 hn3 HAC HTV
    have hb20 := hbt hb19 bw
    have HM20 := hsz bw
    have HOQ_20 := hown HOQ_19 bw
    have HOX_20 := hown HOX_19 bw
    have HOY_20 := hown HOY_19 bw
    have HOG_20 := hown HOG_19 bw
    have HOR1_20 := hown HOR1_19 bw
    have HOR2_20 := hown HOR2_19 bw
    have HOA_20 := hown HOA_19 bw
    have HOB_20 := hown HOB_19 bw
    have HBv1_20 := hblk HBv1_19 bw
    have HBv2_20 := hblk HBv2_19 bw
    have HBv3_20 := hblk HBv3_19 bw
    have HBv4_20 := hblk HBv4_19 bw
    have HBv5_20 := hblk HBv5_19 bw
    clear hb19 HOQ_19 HOX_19 HOY_19 HOG_19 HOR1_19 HOR2_19 HOA_19 HOB_19 HBv1_19 HBv2_19 HBv3_19 HBv4_19 HBv5_19 bw
    cases gk with
    | false =>
     have cv3_0 := (k3c HBv3_20).1
     have cv3_1 := (k3c HBv3_20).2.1
     have cv3_2 := (k3c HBv3_20).2.2
     go_wp2_with fail
     refine (implRespOk_any st _ d np _ P _ (FieldsV.of_owns HOR1_20.out) (by omega) HPW.out (by have := HRB.out; unfold maxLen; omega)).mono ?_
     rintro e w21 ⟨bb, rfl, hbb, bw⟩
     obtain rfl : true = bb := (hbb.2 HAR.out.1).symm
     clear hbb
     have hb21 := hbt hb20 bw
     have HM21 := hsz bw
     have HOQ_21 := hown HOQ_20 bw
     have HOX_21 := hown HOX_20 bw
     have HOY_21 := hown HOY_20 bw
     have HOG_21 := hown HOG_20 bw
     have HOR1_21 := hown HOR1_20 bw
     have HOR2_21 := hown HOR2_20 bw
     have HOA_21 := hown HOA_20 bw
     have HOB_21 := hown HOB_20 bw
     have HBv1_21 := hblk HBv1_20 bw
     have HBv2_21 := hblk HBv2_20 bw
     have HBv3_21 := hblk HBv3_20 bw
     have HBv4_21 := hblk HBv4_20 bw
     have HBv5_21 := hblk HBv5_20 bw
     clear hb20 HOQ_20 HOX_20 HOY_20 HOG_20 HOR1_20 HOR2_20 HOA_20 HOB_20 HBv1_20 HBv2_20 HBv3_20 HBv4_20 HBv5_20 bw
     clear cv3_0 cv3_1 cv3_2
     by_cases hc1 : st = 304
     ·
      have hc1b : ((st : Int) == (304 : Int)) = true := by simpa using hc1
      have hc1n : ((st : Int) != (304 : Int)) = false := by simpa using hc1
      have hc1H : Hid (st = 304) := hc1
      clear hc1
      by_cases hc2 : d = ⟨#[]⟩
      ·
       have hc2b : (d).toList.isEmpty = true := isEmpty_yes (by rw [hc2]; rfl)
       have cv1_0 := (k4c HBv1_21).1
       have cv1_1 := (k4c HBv1_21).2.1
       have cv1_2 := (k4c HBv1_21).2.2.1
       have cv1_3 := (k4c HBv1_21).2.2.2
       have cv2_4 := (k7c HBv2_21).2.2.2.2.1
       have cv3_0 := (k3c HBv3_21).1
       have cv3_2 := (k3c HBv3_21).2.2
       go_wp2_with fail
       refine (implSame_any ma pa _ ba fsa.length _ fsa _ gs.length _ gs _ (FieldsV.of_owns HOQ_21.out) (by have := HSQ.out.2.1; omega) (FieldsV.of_owns HOG_21.out) (by have := HSM.out.2.2.2.1.1; omega) HSQ.out.2.2.1.copy HSM.out.2.2.2.1.2.copy).mono ?_
       rintro e w22 ⟨bb, rfl, hbb, bw⟩
       obtain rfl : false = bb := by cases bb; rfl; exact absurd (hbb.1 rfl) HSAME.out
       clear hbb
       have hb22 := hbt hb21 bw
       have HM22 := hsz bw
       have HOQ_22 := hown HOQ_21 bw
       have HOX_22 := hown HOX_21 bw
       have HOY_22 := hown HOY_21 bw
       have HOG_22 := hown HOG_21 bw
       have HOR1_22 := hown HOR1_21 bw
       have HOR2_22 := hown HOR2_21 bw
       have HOA_22 := hown HOA_21 bw
       have HOB_22 := hown HOB_21 bw
       have HBv1_22 := hblk HBv1_21 bw
       have HBv2_22 := hblk HBv2_21 bw
       have HBv3_22 := hblk HBv3_21 bw
       have HBv4_22 := hblk HBv4_21 bw
       have HBv5_22 := hblk HBv5_21 bw
       clear hb21 HOQ_21 HOX_21 HOY_21 HOG_21 HOR1_21 HOR2_21 HOA_21 HOB_21 HBv1_21 HBv2_21 HBv3_21 HBv4_21 HBv5_21 bw
       clear cv1_0 cv1_1 cv1_2 cv1_3 cv2_4 cv3_0 cv3_2
       have cv2_3 := (k7c HBv2_22).2.2.2.1
       have cv2_5 := (k7c HBv2_22).2.2.2.2.2.1
       have cv3_0 := (k3c HBv3_22).1
       have cv3_2 := (k3c HBv3_22).2.2
       go_wp2_with fail
       go_ret
       exact ⟨rfl, hb22⟩
      ·
       have hc2b : (d).toList.isEmpty = false := isEmpty_no (Nat.pos_of_ne_zero (fun e => hc2 (empty_text e)))
       have cv2_3 := (k7c HBv2_21).2.2.2.1
       have cv2_5 := (k7c HBv2_21).2.2.2.2.2.1
       have cv3_0 := (k3c HBv3_21).1
       have cv3_2 := (k3c HBv3_21).2.2
       go_wp2_with fail
       go_ret
       exact ⟨rfl, hb21⟩
     ·
      have hc1b : ((st : Int) == (304 : Int)) = false := by simpa using hc1
      have hc1n : ((st : Int) != (304 : Int)) = true := by simpa using hc1
      have hc1H : Hid (¬ (st = 304)) := hc1
      clear hc1
      have cv2_3 := (k7c HBv2_21).2.2.2.1
      have cv2_5 := (k7c HBv2_21).2.2.2.2.2.1
      have cv3_0 := (k3c HBv3_21).1
      have cv3_2 := (k3c HBv3_21).2.2
      go_wp2_with fail
      go_ret
      exact ⟨rfl, hb21⟩
    | true =>
     cases nr with
     | false =>
      have h8 : (8 : Int) ≤ (gs.length : Int) := by rcases HNR.out with hh | hh; exact absurd hh.1 (by decide); omega
      have cv2_4 := (k7c HBv2_20).2.2.2.2.1
      go_wp2_with fail
      go_ret
      exact ⟨rfl, hb20⟩
     | true =>
      have cv2_4 := (k7c HBv2_20).2.2.2.2.1
      have cv2_6 := (k7c HBv2_20).2.2.2.2.2.2
      go_wp2_with fail
      refine (implAgeAt_any _ gs.length _ gs u now _ (FieldsV.of_owns HOG_20.out) (by have := HSM.out.2.2.2.1.1; omega) HSM.out.2.2.2.1.2.copy (by have := short_get2 HSM.out.2.2.2.1.2 ageName; unfold maxLen; omega) HSM.out.2.2.2.2.2.1 HTM.out.2).mono ?_
      rintro e w21 ⟨rfl, bw⟩
      rw [HAG.out]
      have hb21 := hbt hb20 bw
      have HM21 := hsz bw
      have HOQ_21 := hown HOQ_20 bw
      have HOX_21 := hown HOX_20 bw
      have HOY_21 := hown HOY_20 bw
      have HOG_21 := hown HOG_20 bw
      have HOR1_21 := hown HOR1_20 bw
      have HOR2_21 := hown HOR2_20 bw
      have HOA_21 := hown HOA_20 bw
      have HOB_21 := hown HOB_20 bw
      have HBv1_21 := hblk HBv1_20 bw
      have HBv2_21 := hblk HBv2_20 bw
      have HBv3_21 := hblk HBv3_20 bw
      have HBv4_21 := hblk HBv4_20 bw
      have HBv5_21 := hblk HBv5_20 bw
      clear hb20 HOQ_20 HOX_20 HOY_20 HOG_20 HOR1_20 HOR2_20 HOA_20 HOB_20 HBv1_20 HBv2_20 HBv3_20 HBv4_20 HBv5_20 bw
      clear cv2_4 cv2_6
      by_cases hc1 : nn = ag
      ·
       have hc1b : ((nn : Int) == (ag : Int)) = true := by simpa using hc1
       have hc1n : ((nn : Int) != (ag : Int)) = false := by simpa using hc1
       have hc1H : Hid (nn = ag) := hc1
       clear hc1
       have cv3_0 := (k3c HBv3_21).1
       have cv3_1 := (k3c HBv3_21).2.1
       have cv3_2 := (k3c HBv3_21).2.2
       go_wp2_with fail
       refine (implRespOk_any st _ d np _ P _ (FieldsV.of_owns HOR1_21.out) (by omega) HPW.out (by have := HRB.out; unfold maxLen; omega)).mono ?_
       rintro e w22 ⟨bb, rfl, hbb, bw⟩
       obtain rfl : true = bb := (hbb.2 HAR.out.1).symm
       clear hbb
       have hb22 := hbt hb21 bw
       have HM22 := hsz bw
       have HOQ_22 := hown HOQ_21 bw
       have HOX_22 := hown HOX_21 bw
       have HOY_22 := hown HOY_21 bw
       have HOG_22 := hown HOG_21 bw
       have HOR1_22 := hown HOR1_21 bw
       have HOR2_22 := hown HOR2_21 bw
       have HOA_22 := hown HOA_21 bw
       have HOB_22 := hown HOB_21 bw
       have HBv1_22 := hblk HBv1_21 bw
       have HBv2_22 := hblk HBv2_21 bw
       have HBv3_22 := hblk HBv3_21 bw
       have HBv4_22 := hblk HBv4_21 bw
       have HBv5_22 := hblk HBv5_21 bw
       clear hb21 HOQ_21 HOX_21 HOY_21 HOG_21 HOR1_21 HOR2_21 HOA_21 HOB_21 HBv1_21 HBv2_21 HBv3_21 HBv4_21 HBv5_21 bw
       clear cv3_0 cv3_1 cv3_2
       by_cases hc2 : st = 304
       ·
        have hc2b : ((st : Int) == (304 : Int)) = true := by simpa using hc2
        have hc2n : ((st : Int) != (304 : Int)) = false := by simpa using hc2
        have hc2H : Hid (st = 304) := hc2
        clear hc2
        by_cases hc3 : d = ⟨#[]⟩
        ·
         have hc3b : (d).toList.isEmpty = true := isEmpty_yes (by rw [hc3]; rfl)
         have cv1_0 := (k4c HBv1_22).1
         have cv1_1 := (k4c HBv1_22).2.1
         have cv1_2 := (k4c HBv1_22).2.2.1
         have cv1_3 := (k4c HBv1_22).2.2.2
         have cv2_4 := (k7c HBv2_22).2.2.2.2.1
         have cv3_0 := (k3c HBv3_22).1
         have cv3_2 := (k3c HBv3_22).2.2
         go_wp2_with fail
         refine (implSame_any ma pa _ ba fsa.length _ fsa _ gs.length _ gs _ (FieldsV.of_owns HOQ_22.out) (by have := HSQ.out.2.1; omega) (FieldsV.of_owns HOG_22.out) (by have := HSM.out.2.2.2.1.1; omega) HSQ.out.2.2.1.copy HSM.out.2.2.2.1.2.copy).mono ?_
         rintro e w23 ⟨bb, rfl, hbb, bw⟩
         obtain rfl : false = bb := by cases bb; rfl; exact absurd (hbb.1 rfl) HSAME.out
         clear hbb
         have hb23 := hbt hb22 bw
         have HM23 := hsz bw
         have HOQ_23 := hown HOQ_22 bw
         have HOX_23 := hown HOX_22 bw
         have HOY_23 := hown HOY_22 bw
         have HOG_23 := hown HOG_22 bw
         have HOR1_23 := hown HOR1_22 bw
         have HOR2_23 := hown HOR2_22 bw
         have HOA_23 := hown HOA_22 bw
         have HOB_23 := hown HOB_22 bw
         have HBv1_23 := hblk HBv1_22 bw
         have HBv2_23 := hblk HBv2_22 bw
         have HBv3_23 := hblk HBv3_22 bw
         have HBv4_23 := hblk HBv4_22 bw
         have HBv5_23 := hblk HBv5_22 bw
         clear hb22 HOQ_22 HOX_22 HOY_22 HOG_22 HOR1_22 HOR2_22 HOA_22 HOB_22 HBv1_22 HBv2_22 HBv3_22 HBv4_22 HBv5_22 bw
         clear cv1_0 cv1_1 cv1_2 cv1_3 cv2_4 cv3_0 cv3_2
         have cv2_3 := (k7c HBv2_23).2.2.2.1
         have cv2_5 := (k7c HBv2_23).2.2.2.2.2.1
         have cv3_0 := (k3c HBv3_23).1
         have cv3_2 := (k3c HBv3_23).2.2
         go_wp2_with fail
         go_ret
         exact ⟨rfl, hb23⟩
        ·
         have hc3b : (d).toList.isEmpty = false := isEmpty_no (Nat.pos_of_ne_zero (fun e => hc3 (empty_text e)))
         have cv2_3 := (k7c HBv2_22).2.2.2.1
         have cv2_5 := (k7c HBv2_22).2.2.2.2.2.1
         have cv3_0 := (k3c HBv3_22).1
         have cv3_2 := (k3c HBv3_22).2.2
         go_wp2_with fail
         go_ret
         exact ⟨rfl, hb22⟩
       ·
        have hc2b : ((st : Int) == (304 : Int)) = false := by simpa using hc2
        have hc2n : ((st : Int) != (304 : Int)) = true := by simpa using hc2
        have hc2H : Hid (¬ (st = 304)) := hc2
        clear hc2
        have cv2_3 := (k7c HBv2_22).2.2.2.1
        have cv2_5 := (k7c HBv2_22).2.2.2.2.2.1
        have cv3_0 := (k3c HBv3_22).1
        have cv3_2 := (k3c HBv3_22).2.2
        go_wp2_with fail
        go_ret
        exact ⟨rfl, hb22⟩
      ·
       have hc1b : ((nn : Int) == (ag : Int)) = false := by simpa using hc1
       have hc1n : ((nn : Int) != (ag : Int)) = true := by simpa using hc1
       have h8 : (8 : Int) ≤ (gs.length : Int) := by rcases HNR.out with hh | hh; exact absurd hh.2 hc1; omega
       have hc1H : Hid (¬ (nn = ag)) := hc1
       clear hc1
       have cv2_4 := (k7c HBv2_21).2.2.2.2.1
       go_wp2_with fail
       go_ret
       exact ⟨rfl, hb21⟩
set_option maxRecDepth 100000 in
theorem contract (H : Type) (enc : TypeId × Value → H) (W : World) (base : Nat) (args : Array Value) (ds gs : List (DataW H)) (before : List MemPlace)
    (hval : ∀ (j : Nat) t v, Tryz.f3.params[j]? = some t → args[j]? = some v → Value.okWide Tryz.prog W .any base t v)
    (hW : DataW.Whole enc Tryz.prog Tryz.f3.params.toList Rows.fnAnsweredSpec.vars false W args.toList ds gs before) (hL : laidMetH Tryz.prog Rows.fnAnsweredRow.laid W) (_ : W.ShapedOpen Tryz.prog) :
    Calls Tryz.prog 3 args W fun e W' => ∃ v, e = .returned v ∧ Rows.fnAnsweredSpec.post enc Tryz.prog Tryz.f3 false true false false W args v W' := by
  have hT : TabOk W := table hL
  have hW' := hW
  obtain ⟨p, q, hA0, hV, rfl, hfz, hnd⟩ := hW
  have hA : DataW.TrodAll enc Tryz.prog W 0 (fun _ => true) true Tryz.f3.params.toList args.toList ds p := hA0
  rw [Tryz.params3] at hA hval
  obtain ⟨v0, vs0, d0, ds0, p0, q0, hargs, rfl, rfl, h0, r0⟩ := trodAll_cons hA
  obtain ⟨rfl, rfl, rfl⟩ := trodAll_nil r0
  obtain rfl : args = #[v0] := by cases args; simp_all
  obtain ⟨rfl, rfl⟩ := trodVars_none hV
  obtain ⟨a0, len0, cap0, rfl⟩ := okWide_slice Tryz.underlying22 (hval 0 22 v0 rfl rfl)
  have k0 := h0
  have lt0 : ∀ x ∈ p0, x.block < W.heap.size := by obtain ⟨m, hm⟩ := k0; exact DataW.trod_lt m _ _ _ hm
  obtain ⟨z0, w0⟩ : ∃ zs, IsRow .u8 W a0 len0 cap0 zs := by
    obtain ⟨fuel, hf⟩ := h0
    rcases open_ints Tryz.underlying22 Tryz.underlying5 (by kernel_rfl) hf with ⟨hcs, _⟩ | ⟨x, l, c, zs, hcs, _, hl, hm, hz, _, hcell, hwz⟩
    · simp [Value.cells] at hcs
      obtain ⟨rfl, rfl, rfl⟩ := hcs
      exact ⟨[], .inl ⟨rfl, rfl, rfl, rfl⟩⟩
    · simp [Value.cells] at hcs
      obtain ⟨rfl, rfl, rfl⟩ := hcs
      exact ⟨zs, .inr ⟨_, rfl, hl, hm, by simpa using hz, hcell, hwz⟩⟩
  clear hA0
  refine (walk1 W a0 len0 cap0 z0 w0 hT).mono fun e W' ⟨he, bel⟩ => ?_
  subst he
  exact ⟨_, rfl, _, _, _, [], _, [], hW', trodAll_mk1 (shut_bool Tryz.underlying4 _), (trodAll_cons_mk (Below.trod laidOut (by kernel_rfl) (of_decide_eq_true (by kernel_rfl)) k0 bel lt0) trodAll_mk0), rfl, bel.frame _, fun h => by cases h⟩

theorem laid_met (os : Os) : laidMet Tryz.prog Rows.fnAnsweredRow.laid ((withTables (World.holding Tryz.prog os ⟨#[], #[], []⟩)).forCall (fun _ _ => 0) ⟨#[], #[.slice none 0 0], []⟩).memory :=
  laidMet_of_run' 80 (by kernel_rfl) (by kernel_rfl)
theorem reads (os : Os) {H : Type} (enc : TypeId × Value → H) : ∃ places, DataW.whole enc Tryz.prog ((withTables (World.holding Tryz.prog os ⟨#[], #[], []⟩)).forCall (fun _ _ => 0) ⟨#[], #[.slice none 0 0], []⟩).memory Tryz.f3.params.toList Rows.fnAnsweredSpec.vars false #[(.slice none 0 0 : Value)].toList 8 = some ([.nil], [], places) :=
  ⟨[], by kernel_rfl⟩

set_option maxRecDepth 100000 in
theorem lifted (os : Os) (started : os.Started) (H : Type) (enc : TypeId × Value → H) (F : Stop.Interp) :
    ReturnsInHanded {} Tryz.checked os 3 .any ((OpenSpec.ofChange Rows.fnAnsweredSpec).preRow enc Tryz.prog Tryz.f3 Rows.fnAnsweredRow.domain false Rows.fnAnsweredRow.laid) (((OpenSpec.ofChange Rows.fnAnsweredSpec).at F).post enc Tryz.prog Tryz.f3 false true false false) := by
  obtain ⟨places, hx⟩ := reads os enc
  refine returnsInHanded_of_row (C := Tryz.checked) (s := OpenSpec.ofChange Rows.fnAnsweredSpec) own started (by kernel_rfl) Tryz.func3
    (witness_row_at (enc := enc) (C := Tryz.checked) false (withTables (World.holding Tryz.prog os ⟨#[], #[], []⟩)) #[.slice none 0 0] rfl (by kernel_rfl) (by kernel_rfl) (by kernel_rfl)
      (OpenSpec.preRow_of_cond 8 hx (by kernel_rfl) (fun k hk => by cases hk) (by kernel_rfl) (laid_met os))) ?_
  intro W base args ds gs before hval hW _ _ _ hL hSh _
  exact contract H enc W base args ds gs before hval hW hL hSh

theorem said : Rows.FnAnsweredSaid :=
  OpenClaim.holds_of_cond 3 Tryz.f3 rfl rfl rfl rfl rfl rfl rfl ⟨rfl, rfl, rfl, rfl, rfl⟩ rfl rfl rfl rfl rfl (by kernel_rfl) Tryz.func3 (by kernel_rfl)
    (of_decide_eq_true (by kernel_rfl)) (by unfold Func.isWrapper; first | (rw [if_pos (by decide +kernel)]; kernel_rfl) | (rw [if_neg (by decide +kernel)]; exact ⟨rfl, rfl⟩))
    (fun os started H enc _ F => by rw [OpenClaim.pre_eq_preRow]; exact lifted os started H enc F)

theorem plain (f : FuncId) (fn : Func) (hf : Tryz.pinned.checked.prog.funcNamed "loop.example/g00239/laws.FnAnswered" = some f) (hfn : Tryz.pinned.checked.prog.funcs[f]? = some fn) :
    false = Tryz.pinned.checked.prog.looks [] ∧ ∀ (j : Nat) t, fn.params[j]? = some t → Tryz.pinned.checked.prog.wantsStandIn t = false := by
  obtain rfl : f = 3 := Option.some.inj ((show Tryz.prog.funcNamed "loop.example/g00239/laws.FnAnswered" = some 3 by kernel_rfl).symm.trans hf) |>.symm
  obtain rfl : fn = Tryz.f3 := (Option.some.inj (Tryz.func3.symm.trans hfn)).symm
  refine ⟨by kernel_rfl, fun j t ht => ?_⟩
  rw [Tryz.params3] at ht
  obtain rfl : t = 22 := by simpa using Array.mem_of_getElem? ht
  exact (show Tryz.prog.wantsStandIn 22 = false by kernel_rfl)

theorem card : Rows.FnAnsweredCardSaid :=
  Claim7.holds_tied_plain_at .later [] _ _ _ _ said (fun _ h => by cases h) (by kernel_rfl) (fun _ h => by cases h) fnAnswered_row_tie rfl ⟨rfl, rfl⟩ (by kernel_rfl) rfl plain (by kernel_rfl)
end fnAnswered

theorem fnAnswered_holds : Rows.FnAnsweredCardSaid := fnAnswered.card
#print axioms fnAnswered_holds
end Go.Proofs.YtmcmeeibogkpaaaGreatDoorR
