/- What the proof of FnExactJudgeBans leans on: contracts of the program's and the specification's functions, and plain facts (part 9 of 11). -/
import Derived.Test.YtbmhonfgffjpcaaGreatFnExactJudgeBansH
set_option maxHeartbeats 16000000
set_option maxRecDepth 100000
namespace Go.Proofs.YtbmhonfgffjpcaaGreat
open Go.RowKit
open Go.Lib hiding intOf
/-- ObjOk of one that is kept. -/
theorem implObjOk_k (k : KpD) (v1 v2 v3 : Value) (w : World) (h : KpRead w k v1 v2 v3) (hs : KpSmall k) :
  Calls Tryz.prog 133 #[.agg #[.string k.p, v1, v2, .int .i64 k.st, v3, .string k.b, .int .i64 k.t]] w fun e w' => BoolIs (ObjK k) w e w' := by
 obtain ⟨B, h⟩ := h
 have ho : ObjO w B v1 k.xs.length k.xs v2 k.ys.length k.ys v3 k.fs.length k.fs := rows_objO h
 obtain ⟨o1, c1, rfl⟩ := slice_of_owns ho.names
 obtain ⟨o2, c2, rfl⟩ := slice_of_owns ho.vals
 exact implObjOk_any k.p o1 _ c1 k.xs o2 _ c2 k.ys k.st v3 _ B k.fs k.b k.t w (texts_view ho.names) (texts_view ho.vals) (FieldsV.of_owns ho.flds) (by have := hs.2.1.1; omega) (by have := hs.2.2.1.1; omega) (by have := hs.2.2.2.1; omega) (small_text hs.2.1.2) (small_text hs.2.2.1.2) (small_walk hs) (small_copy hs) (by have := hs.1.1; unfold maxLen; omega) (by have := hs.1.2; unfold maxLen; omega) (small_get hs _)
/-- HitsAny of one that is kept. -/
theorem implHitsAny_k (oa : Option Addr) (n cap : Nat) (l : List (Int × ByteArray × ByteArray × Int)) (k : KpD) (v1 v2 v3 : Value) (w : World) (hl : BanA w oa n l) (hn : n ≤ 2000000) (hlz : ∀ x ∈ l, x.2.1.size ≤ maxLen ∧ x.2.2.1.size ≤ maxLen) (h : KpRead w k v1 v2 v3) (hs : KpSmall k) :
  Calls Tryz.prog 123 #[.slice oa n cap, .agg #[.string k.p, v1, v2, .int .i64 k.st, v3, .string k.b, .int .i64 k.t]] w fun e w' => BoolIs (AnyK l k) w e w' := by
 obtain ⟨B, h⟩ := h
 have ho : ObjO w B v1 k.xs.length k.xs v2 k.ys.length k.ys v3 k.fs.length k.fs := rows_objO h
 obtain ⟨o1, c1, rfl⟩ := slice_of_owns ho.names
 obtain ⟨o2, c2, rfl⟩ := slice_of_owns ho.vals
 exact implHitsAny_any oa n cap l k.p o1 _ c1 k.xs o2 _ c2 k.ys k.st v3 _ B k.fs k.b k.t w hl hn hlz (texts_view ho.names) (texts_view ho.vals) (FieldsV.of_owns ho.flds) (by have := hs.2.1.1; omega) (by have := hs.2.2.1.1; omega) (by have := hs.2.2.2.1; omega) (small_text hs.2.1.2) (small_text hs.2.2.1.2) (small_walk hs) (small_copy hs) (by have := hs.1.1; unfold maxLen; omega) (by have := hs.1.2; unfold maxLen; omega) (small_get hs _)
end Go.Proofs.YtbmhonfgffjpcaaGreat
namespace Go.Proofs.YtbmhonfgffjpcaaGreat
open Go.RowKit
open Go.Lib hiding intOf
theorem cc_nc (c0 c1 c2 c3 c4 : Bool) (c5 : Int) (W : World) : (Instr.field 190 (.agg #[.bool c0, .bool c1, .bool c2, .bool c3, .bool c4, .int .i64 c5]) 1).run Tryz.prog W = .ok (.bool c1) W := by
 first | kernel_rfl | rfl | simp [Instr.field, go_sem]
end Go.Proofs.YtbmhonfgffjpcaaGreat
namespace Go.Proofs.YtbmhonfgffjpcaaGreat
open Go.RowKit
open Go.Lib hiding intOf
/-- Who may be answered from here. -/
def HereP (m : Int) (p : ByteArray) (fs : List (ByteArray × ByteArray)) (b : ByteArray) : Prop := (ReqP m p fs b ∧ m = 1) ∧ (ccR (getV fs ccName)).ns = false
/-- Both ask for the same. -/
def AlikeP (m : Int) (p : ByteArray) (fs : List (ByteArray × ByteArray)) (b : ByteArray) (m2 : Int) (p2 : ByteArray) (gs : List (ByteArray × ByteArray)) (c : ByteArray) : Prop := (HereP m p fs b ∧ HereP m2 p2 gs c) ∧ p = p2 ∧ fs = gs
/-- The first fields of both are the same. -/
def SameTo (fs gs : List (ByteArray × ByteArray)) (k : Nat) : Prop := ∀ j, j < k → nameAt fs j = nameAt gs j ∧ valAt fs j = valAt gs j
theorem SameTo.zero (fs gs : List (ByteArray × ByteArray)) : SameTo fs gs 0 := fun j h => absurd h (Nat.not_lt_zero j)
theorem SameTo.step {fs gs : List (ByteArray × ByteArray)} {k : Nat} (h : SameTo fs gs k) (h1 : nameAt fs k = nameAt gs k) (h2 : valAt fs k = valAt gs k) : SameTo fs gs (k + 1) := fun j hj => by
 by_cases e : j = k
 · subst e; exact ⟨h1, h2⟩
 · exact h j (by omega)
theorem SameTo.all {fs gs : List (ByteArray × ByteArray)} {n : Nat} (h : SameTo fs gs n) (h1 : fs.length = n) (h2 : gs.length = n) : fs = gs := by
 apply List.ext_getElem (by omega)
 intro i hi hj
 have := h i (by omega)
 unfold nameAt valAt at this
 rw [List.getD_eq_getElem?_getD, List.getElem?_eq_getElem hi, List.getD_eq_getElem?_getD, List.getElem?_eq_getElem hj] at this
 exact Prod.ext this.1 this.2
end Go.Proofs.YtbmhonfgffjpcaaGreat
namespace Go.Proofs.YtbmhonfgffjpcaaGreat
open Go.RowKit
open Go.Lib hiding intOf
theorem cc_ns (c0 c1 c2 c3 c4 : Bool) (c5 : Int) (W : World) : (Instr.field 190 (.agg #[.bool c0, .bool c1, .bool c2, .bool c3, .bool c4, .int .i64 c5]) 0).run Tryz.prog W = .ok (.bool c0) W := by
 first | kernel_rfl | rfl | simp [Instr.field, go_sem]
theorem guardFld : Tryz.prog.eqGuardType Tryz.prog.depth 171 = false := by kernel_rfl
open Classical in
theorem eqFldIn (a a' b b' : ByteArray) (w : World) : (Op.equalIn 10000 171 (.agg #[.string a, .string b]) (.agg #[.string a', .string b'])).run Tryz.prog w = .ok (decide (a = a' ∧ b = b')) w := by
 have u9 := Tryz.underlying9
 have a9 := Tryz.isAgg9
 have z9 := Tryz.sizeOf9
 have hS : Tryz.prog.underlying 171 = some (.struct (Tryz.prog.fieldsOf 171)) := by kernel_rfl
 have hp : Tryz.prog.stoodInHeld 171 = false := by kernel_rfl
 rw [show (10000 : Nat) = 9999 + 1 from rfl, run_equalIn_agg w 9999 171 _ _ hS hp]
 simp only [Program.fieldsOf, Tryz.underlying171]
 have ea : ∀ x y : ByteArray, (x.toList == y.toList) = decide (x = y) := fun x y => by
  by_cases h : x = y
  · rw [decide_eq_true h]; exact (text_beq _ _).2 h
  · rw [decide_eq_false h]; exact text_beq_no h
 go_simp
 by_cases h1 : a = a'
 ·
  by_cases h2 : b = b'
  · simp [h1, h2]
  · simp [h1, h2]
 · simp [h1]
open Classical in
theorem neqFld (a a' b b' : ByteArray) (w : World) : (binOp .neq 171 (.agg #[.string a, .string b]) (.agg #[.string a', .string b'])).run Tryz.prog w = .ok (.bool (!(decide (a = a' ∧ b = b')))) w := by
 rw [run_neq_struct, eqFldIn]
 rfl
end Go.Proofs.YtbmhonfgffjpcaaGreat
namespace Go.Proofs.YtbmhonfgffjpcaaGreat
open Go.RowKit
open Go.Lib hiding intOf
theorem l15Fields_any (v1 v2 : Value) (n m b1 b2 : Nat) (fs gs : List (ByteArray × ByteArray)) (w : World) (h1 : FieldsV w b1 v1 n fs) (h2 : FieldsV w b2 v2 m gs) (hn : n ≤ 1073741824) (hm : m ≤ 1073741824) :
  Calls Tryz.prog 121 #[v1, v2] w fun e w' => BoolIs (fs = gs) w e w' := by
 classical
 have HL1 : Hid (fs.length = n) := h1.len
 have HL2 : Hid (gs.length = m) := h2.len
 obtain ⟨oa, ca, rfl, ra⟩ := h1.slice
 obtain ⟨ob, cb, rfl, rb⟩ := h2.slice
 have HRA : Hid (∀ k, k < n → ∃ g, oa = some ⟨g, 0, none⟩ ∧ FieldRow b1 w g n ca fs) := ra
 have HRB : Hid (∀ k, k < m → ∃ g, ob = some ⟨g, 0, none⟩ ∧ FieldRow b2 w g m cb gs) := rb
 clear ra rb h1 h2
 have hgd := guardFld
 go_enter Tryz.func121, Tryz.ntmps121
 go_wp2
 go_loopw [5] (fun i wr => ∃ k : Nat, k ≤ n ∧ k ≤ m ∧ i = .int .i64 (k : Int) ∧ Below w.heap.size w wr ∧ Hid (SameTo fs gs k)) (fun i _ => n - (intOf i).toNat)
 case atStart => exact ⟨0, Nat.zero_le _, Nat.zero_le _, rfl, Below.refl _ _, SameTo.zero _ _⟩
 case round =>
  obtain ⟨k, hk, hkm, rfl, hbw, HST⟩ := hrel
  by_cases hlt : k < n
  ·
   by_cases hltm : k < m
   ·
    have hlt2 : (k : Int) < (n : Int) := by omega
    have hlt3 : (k : Int) < (m : Int) := by omega
    obtain ⟨g1, hoa, r1⟩ := HRA.out k hlt
    obtain ⟨g2, hob, r2⟩ := HRB.out k hltm
    subst hoa hob
    obtain ⟨na, hna⟩ := exq (nameAt fs k)
    obtain ⟨va, hva⟩ := exq (valAt fs k)
    obtain ⟨nb, hnb⟩ := exq (nameAt gs k)
    obtain ⟨vb, hvb⟩ := exq (valAt gs k)
    have ha := (r1.below hbw r1.lt).name k hlt
    have hb := (r1.below hbw r1.lt).val k hlt
    have hc := (r2.below hbw r2.lt).name k hltm
    have hd := (r2.below hbw r2.lt).val k hltm
    rw [← hna] at ha
    rw [← hva] at hb
    rw [← hnb] at hc
    rw [← hvb] at hd
    by_cases he : na = nb ∧ va = vb
    ·
     have HS2 : Hid (SameTo fs gs (k + 1)) := HST.out.step (by rw [← hna, ← hnb]; exact he.1) (by rw [← hva, ← hvb]; exact he.2)
     obtain ⟨e1, e2⟩ := he
     subst e1 e2
     have hq : ∀ W : World, (binOp .neq 171 (.agg #[.string na, .string va]) (.agg #[.string na, .string va])).run Tryz.prog W = .ok (.bool false) W := fun W => by rw [neqFld]; simp
     clear hna hva hnb hvb r1 r2 HST
     go_wp2
     go_region
     go_wp2
     go_roundw
     case rel => exact ⟨k + 1, by omega, by omega, by go_num, hbw.drew, HS2⟩
     case measure => simp [intOf]; omega
    ·
     have HNE : Hid (¬ fs = gs) := fun e => he ⟨by rw [hna, hnb, e], by rw [hva, hvb, e]⟩
     have hq : ∀ W : World, (binOp .neq 171 (.agg #[.string na, .string va]) (.agg #[.string nb, .string vb])).run Tryz.prog W = .ok (.bool true) W := fun W => by rw [neqFld, decide_eq_false he]; rfl
     clear hna hva hnb hvb r1 r2 HST he
     go_wp2
     go_region
     go_wp2
     go_ret
     exact BoolIs.no HNE.out hbw.drew
   ·
    have HNE : Hid (¬ fs = gs) := fun e => by
     have h1 := HL1.out
     have h2 := HL2.out
     rw [e] at h1
     omega
    have hnm : ((n : Int) == (m : Int)) = false := by simpa using (show ¬ (n : Int) = (m : Int) by omega)
    go_wp2
    go_ret
    exact BoolIs.no HNE.out hbw
  ·
   by_cases hnm : n = m
   ·
    subst hnm
    have HEQ : Hid (fs = gs) := by
     have h := HST.out
     rw [show k = n by omega] at h
     exact h.all HL1.out HL2.out
    have hnn : ((n : Int) == (n : Int)) = true := by simp
    go_wp2
    go_ret
    exact BoolIs.yes HEQ.out hbw
   ·
    have HNE : Hid (¬ fs = gs) := fun e => by
     have h1 := HL1.out
     have h2 := HL2.out
     rw [e] at h1
     omega
    have hnmb : ((n : Int) == (m : Int)) = false := by simpa using (show ¬ (n : Int) = (m : Int) by omega)
    go_wp2
    go_ret
    exact BoolIs.no HNE.out hbw
end Go.Proofs.YtbmhonfgffjpcaaGreat
namespace Go.Proofs.YtbmhonfgffjpcaaGreat
open Go.RowKit
open Go.Lib hiding intOf
theorem specAlike_any (ma : Int) (pa : ByteArray) (va : Value) (ba : ByteArray) (na basea : Nat) (fsa : List (ByteArray × ByteArray)) (mb : Int) (pb : ByteArray) (vb : Value) (bb : ByteArray) (nb baseb : Nat) (fsb : List (ByteArray × ByteArray)) (w : World) (hva : FieldsV w basea va na fsa) (hna : na ≤ 1048576) (hsa : WalkF na fsa) (hpa : pa.size ≤ maxLen) (hba : ba.size ≤ maxLen) (hga : ∀ x, (getV fsa x).size ≤ 1048576) (hvb : FieldsV w baseb vb nb fsb) (hnb : nb ≤ 1048576) (hsb : WalkF nb fsb) (hpb : pb.size ≤ maxLen) (hbb : bb.size ≤ maxLen) (hgb : ∀ x, (getV fsb x).size ≤ 1048576) :
  Calls Tryz.prog 83 #[.agg #[.int .i64 ma, .string pa, va, .string ba], .agg #[.int .i64 mb, .string pb, vb, .string bb]] w fun e w' => BoolIs (AlikeP ma pa fsa ba mb pb fsb bb) w e w' := by
 obtain ⟨oa, ca, hsl, _⟩ := hva.slice
 subst hsl
 have HVa : Hid (∀ W, Below w.heap.size w W → FieldsV W basea (.slice oa na ca) na fsa) := fun W h => hva.below h
 have HLFa : Hid (fsa.length = na) := hva.len
 have HSa : Hid (WalkF na fsa) := hsa
 have HPMa : Hid (pa.size ≤ maxLen) := hpa
 have HBMa : Hid (ba.size ≤ maxLen) := hba
 have HQVa : Hid (∀ x, (getV fsa x).size ≤ 1048576) := hga
 clear hva hsa hpa hba hga
 obtain ⟨ka, hka⟩ := exq (ccR (getV fsa ccName))
 have HCCa : Hid (∀ W, Below w.heap.size w W → Calls Tryz.prog 122 #[.slice oa na ca] W fun e w' => e = .returned (.agg #[.bool ka.ns, .bool ka.nc, .bool ka.pr, .bool ka.mu, .bool ka.ha, .int .i64 ka.age]) ∧ Below W.heap.size W w') := fun W hW => by
  have h := specCcOf_any _ na basea fsa W (HVa.out W hW) (by omega) (HQVa.out _)
  rw [← hka] at h
  exact h
 have HCKa : Hid (ccR (getV fsa ccName) = ka) := hka.symm
 clear hka
 obtain ⟨xa0, xa1, xa2, xa3, xa4, xa5⟩ := ka
 dsimp only at HCCa
 obtain ⟨ob, cb, hsl, _⟩ := hvb.slice
 subst hsl
 have HVb : Hid (∀ W, Below w.heap.size w W → FieldsV W baseb (.slice ob nb cb) nb fsb) := fun W h => hvb.below h
 have HLFb : Hid (fsb.length = nb) := hvb.len
 have HSb : Hid (WalkF nb fsb) := hsb
 have HPMb : Hid (pb.size ≤ maxLen) := hpb
 have HBMb : Hid (bb.size ≤ maxLen) := hbb
 have HQVb : Hid (∀ x, (getV fsb x).size ≤ 1048576) := hgb
 clear hvb hsb hpb hbb hgb
 obtain ⟨kb, hkb⟩ := exq (ccR (getV fsb ccName))
 have HCCb : Hid (∀ W, Below w.heap.size w W → Calls Tryz.prog 122 #[.slice ob nb cb] W fun e w' => e = .returned (.agg #[.bool kb.ns, .bool kb.nc, .bool kb.pr, .bool kb.mu, .bool kb.ha, .int .i64 kb.age]) ∧ Below W.heap.size W w') := fun W hW => by
  have h := specCcOf_any _ nb baseb fsb W (HVb.out W hW) (by omega) (HQVb.out _)
  rw [← hkb] at h
  exact h
 have HCKb : Hid (ccR (getV fsb ccName) = kb) := hkb.symm
 clear hkb
 obtain ⟨xb0, xb1, xb2, xb3, xb4, xb5⟩ := kb
 dsimp only at HCCb
 have hfna := fun W => cc_ns xa0 xa1 xa2 xa3 xa4 xa5 W
 have hfca := fun W => cc_nc xa0 xa1 xa2 xa3 xa4 xa5 W
 have hb0 : Below w.heap.size w w := Below.refl _ _
 go_enter Tryz.func83, Tryz.ntmps83
 go_upto_region 1 with fail
 obtain ⟨qv1, hqv1⟩ := exq ((w).heap.size)
 obtain ⟨w1, hW1⟩ := exq ((w).alloc (.cells #[.int .i64 ma, .string pa, .slice oa na ca, .string ba] 62))
 have hz1 : (w).heap.size = qv1 := hqv1.symm
 first | rw [← hW1, ← hqv1] | rw [← hW1]
 have hs1 := hsa hW1 hz1
 have bw := bal hW1
 have hb1 := hbt hb0 bw
 have HBv1_1 := hnew hW1 hz1
 clear hb0 bw hW1 hz1
 obtain ⟨qv2, hqv2⟩ := exq (qv1 + 1)
 obtain ⟨w2, hW2⟩ := exq ((w1).alloc (.cells #[.int .i64 mb, .string pb, .slice ob nb cb, .string bb] 62))
 have hz2 : (w1).heap.size = qv2 := by rw [hqv2]; exact hs1
 first | rw [← hW2, ← hqv2] | rw [← hW2]
 have hs2 := hsa hW2 hz2
 have bw := bal hW2
 have hb2 := hbt hb1 bw
 have HBv1_2 := hblk HBv1_1 bw
 have HBv2_2 := hnew hW2 hz2
 clear hb1 HBv1_1 bw hW2 hz2
 clear hs2 hqv2 hs1 hqv1
 have cv1_0 := (k4c HBv1_2).1
 have cv1_1 := (k4c HBv1_2).2.1
 have cv1_2 := (k4c HBv1_2).2.2.1
 have cv1_3 := (k4c HBv1_2).2.2.2
 go_wp2_with fail
 refine (specReqOk_any ma pa _ ba na basea fsa _ (HVa.out _ hb2) (by omega) HSa.out HPMa.out HBMa.out).mono ?_
 rintro e w3 ⟨ra, rfl, hra, bw⟩
 have hb3 := hbt hb2 bw
 have HBv1_3 := hblk HBv1_2 bw
 have HBv2_3 := hblk HBv2_2 bw
 clear hb2 HBv1_2 HBv2_2 bw
 clear cv1_0 cv1_1 cv1_2 cv1_3
 cases ra with
 | false =>
  have HNra : Hid (¬ (ReqP ma pa fsa ba)) := fun h => nomatch hra.2 h
  clear hra
  go_wp2_with fail
  go_ret
  exact BoolIs.no (fun h => HNra.out h.1.1.1.1) hb3
 | true =>
  have HYra : Hid (ReqP ma pa fsa ba) := hra.1 rfl
  clear hra
  have cv2_0 := (k4c HBv2_3).1
  have cv2_1 := (k4c HBv2_3).2.1
  have cv2_2 := (k4c HBv2_3).2.2.1
  have cv2_3 := (k4c HBv2_3).2.2.2
  go_wp2_with fail
  refine (specReqOk_any mb pb _ bb nb baseb fsb _ (HVb.out _ hb3) (by omega) HSb.out HPMb.out HBMb.out).mono ?_
  rintro e w4 ⟨rb, rfl, hrb, bw⟩
  have hb4 := hbt hb3 bw
  have HBv1_4 := hblk HBv1_3 bw
  have HBv2_4 := hblk HBv2_3 bw
  clear hb3 HBv1_3 HBv2_3 bw
  clear cv2_0 cv2_1 cv2_2 cv2_3
  cases rb with
  | false =>
   have HNrb : Hid (¬ (ReqP mb pb fsb bb)) := fun h => nomatch hrb.2 h
   clear hrb
   go_wp2_with fail
   go_ret
   exact BoolIs.no (fun h => HNrb.out h.1.2.1.1) hb4
  | true =>
   have HYrb : Hid (ReqP mb pb fsb bb) := hrb.1 rfl
   clear hrb
   by_cases hc1 : ma = 1
   ·
    have hc1b : ((ma : Int) == (1 : Int)) = true := by simpa using hc1
    have hc1n : ((ma : Int) != (1 : Int)) = false := by simpa using hc1
    have HMEa : Hid ((ma = 1)) := hc1
    have hc1H : Hid (ma = 1) := hc1
    clear hc1
    by_cases hc2 : mb = 1
    ·
     have hc2b : ((mb : Int) == (1 : Int)) = true := by simpa using hc2
     have hc2n : ((mb : Int) != (1 : Int)) = false := by simpa using hc2
     have HMEb : Hid ((mb = 1)) := hc2
     have hc2H : Hid (mb = 1) := hc2
     clear hc2
     have cv1_0 := (k4c HBv1_4).1
     have cv1_1 := (k4c HBv1_4).2.1
     have cv2_0 := (k4c HBv2_4).1
     have cv2_1 := (k4c HBv2_4).2.1
     by_cases hc3 : pa = pb
     ·
      have hc3b : ((pa).toList == (pb).toList) = true := (text_beq _ _).2 hc3
      have HPP : Hid ((pa = pb)) := hc3
      clear hc3
      have cv1_2 := (k4c HBv1_4).2.2.1
      have cv2_2 := (k4c HBv2_4).2.2.1
      go_wp2_with fail
      refine (l15Fields_any _ _ na nb _ _ fsa fsb _ (HVa.out _ hb4) (HVb.out _ hb4) (by omega) (by omega)).mono ?_
      rintro e w5 ⟨lf, rfl, hlf, bw⟩
      have hb5 := hbt hb4 bw
      have HBv1_5 := hblk HBv1_4 bw
      have HBv2_5 := hblk HBv2_4 bw
      clear hb4 HBv1_4 HBv2_4 bw
      clear cv1_0 cv1_1 cv2_0 cv2_1 cv1_2 cv2_2
      cases lf with
      | false =>
       have HNlf : Hid (¬ (fsa = fsb)) := fun h => nomatch hlf.2 h
       clear hlf
       go_wp2_with fail
       go_ret
       exact BoolIs.no (fun h => HNlf.out h.2.2) hb5
      | true =>
       have HYlf : Hid (fsa = fsb) := hlf.1 rfl
       clear hlf
       have cv1_2 := (k4c HBv1_5).2.2.1
       go_wp2_with fail
       refine (HCCa.out _ hb5).mono ?_
       rintro e w6 ⟨rfl, bw⟩
       have hb6 := hbt hb5 bw
       have HBv1_6 := hblk HBv1_5 bw
       have HBv2_6 := hblk HBv2_5 bw
       clear hb5 HBv1_5 HBv2_5 bw
       clear cv1_2
       cases xa0 with
       | false =>
        have HXNa : Hid ((ccR (getV fsa ccName)).ns = false) := by show _ = _; rw [HCKa.out]
        go_wp2_with fail
        go_ret
        exact BoolIs.yes ⟨⟨⟨⟨HYra.out, HMEa.out⟩, HXNa.out⟩, ⟨HYrb.out, HMEb.out⟩, by rw [← HYlf.out]; exact HXNa.out⟩, HPP.out, HYlf.out⟩ hb6
       | true =>
        have HXNa : Hid ((ccR (getV fsa ccName)).ns = true) := by show _ = _; rw [HCKa.out]
        go_wp2_with fail
        go_ret
        exact BoolIs.no (fun h => (by have h1 := h.1.1.2; rw [HXNa.out] at h1; exact absurd h1 (by decide))) hb6
     ·
      have hc3b : ((pa).toList == (pb).toList) = false := text_beq_no hc3
      have HPP : Hid (¬ (pa = pb)) := hc3
      clear hc3
      go_wp2_with fail
      go_ret
      exact BoolIs.no (fun h => HPP.out h.2.1) hb4
    ·
     have hc2b : ((mb : Int) == (1 : Int)) = false := by simpa using hc2
     have hc2n : ((mb : Int) != (1 : Int)) = true := by simpa using hc2
     have HMEb : Hid (¬ (mb = 1)) := hc2
     have hc2H : Hid (¬ (mb = 1)) := hc2
     clear hc2
     have cv1_0 := (k4c HBv1_4).1
     have cv2_0 := (k4c HBv2_4).1
     go_wp2_with fail
     go_ret
     exact BoolIs.no (fun h => HMEb.out h.1.2.1.2) hb4
   ·
    have hc1b : ((ma : Int) == (1 : Int)) = false := by simpa using hc1
    have hc1n : ((ma : Int) != (1 : Int)) = true := by simpa using hc1
    have HMEa : Hid (¬ (ma = 1)) := hc1
    have hc1H : Hid (¬ (ma = 1)) := hc1
    clear hc1
    have cv1_0 := (k4c HBv1_4).1
    go_wp2_with fail
    go_ret
    exact BoolIs.no (fun h => HMEa.out h.1.1.1.2) hb4
end Go.Proofs.YtbmhonfgffjpcaaGreat
namespace Go.Proofs.YtbmhonfgffjpcaaGreat
open Go.RowKit
open Go.Lib hiding intOf
theorem equalFld_eq (v1 v2 : Value) (n b1 b2 : Nat) (fs gs : List (ByteArray × ByteArray)) (w : World) (h1 : FieldsV w b1 v1 n fs) (h2 : FieldsV w b2 v2 n gs) (hn : n ≤ 1073741824) :
  Calls Tryz.prog 164 #[v1, v2] w fun e w' => BoolIs (fs = gs) w e w' := by
 classical
 have HL1 : Hid (fs.length = n) := h1.len
 have HL2 : Hid (gs.length = n) := h2.len
 obtain ⟨oa, ca, rfl, ra⟩ := h1.slice
 obtain ⟨ob, cb, rfl, rb⟩ := h2.slice
 have HRA : Hid (∀ k, k < n → ∃ g, oa = some ⟨g, 0, none⟩ ∧ FieldRow b1 w g n ca fs) := ra
 have HRB : Hid (∀ k, k < n → ∃ g, ob = some ⟨g, 0, none⟩ ∧ FieldRow b2 w g n cb gs) := rb
 clear ra rb h1 h2
 have hgd := guardFld
 have hnn : ((n : Int) != (n : Int)) = false := by simp
 go_enter Tryz.func164, Tryz.ntmps164
 go_wp2
 go_loopw [13] (fun i wr => ∃ k : Nat, k ≤ n ∧ i = .int .i64 (k : Int) ∧ Below w.heap.size w wr ∧ Hid (SameTo fs gs k)) (fun i _ => n - (intOf i).toNat)
 case atStart => exact ⟨0, Nat.zero_le _, rfl, Below.refl _ _, SameTo.zero _ _⟩
 case round =>
  obtain ⟨k, hk, rfl, hbw, HST⟩ := hrel
  by_cases hlt : k < n
  ·
   ·
    have hlt2 : (k : Int) < (n : Int) := by omega
    obtain ⟨g1, hoa, r1⟩ := HRA.out k hlt
    obtain ⟨g2, hob, r2⟩ := HRB.out k hlt
    subst hoa hob
    obtain ⟨na, hna⟩ := exq (nameAt fs k)
    obtain ⟨va, hva⟩ := exq (valAt fs k)
    obtain ⟨nb, hnb⟩ := exq (nameAt gs k)
    obtain ⟨vb, hvb⟩ := exq (valAt gs k)
    have ha := (r1.below hbw r1.lt).name k hlt
    have hb := (r1.below hbw r1.lt).val k hlt
    have hc := (r2.below hbw r2.lt).name k hlt
    have hd := (r2.below hbw r2.lt).val k hlt
    rw [← hna] at ha
    rw [← hva] at hb
    rw [← hnb] at hc
    rw [← hvb] at hd
    by_cases he : na = nb ∧ va = vb
    ·
     have HS2 : Hid (SameTo fs gs (k + 1)) := HST.out.step (by rw [← hna, ← hnb]; exact he.1) (by rw [← hva, ← hvb]; exact he.2)
     obtain ⟨e1, e2⟩ := he
     subst e1 e2
     have hq : ∀ W : World, (binOp .neq 171 (.agg #[.string na, .string va]) (.agg #[.string na, .string va])).run Tryz.prog W = .ok (.bool false) W := fun W => by rw [neqFld]; simp
     clear hna hva hnb hvb r1 r2 HST
     go_wp2
     go_region
     go_wp2
     go_roundw
     case rel => exact ⟨k + 1, by omega, by go_num, hbw.drew, HS2⟩
     case measure => simp [intOf]; omega
    ·
     have HNE : Hid (¬ fs = gs) := fun e => he ⟨by rw [hna, hnb, e], by rw [hva, hvb, e]⟩
     have hq : ∀ W : World, (binOp .neq 171 (.agg #[.string na, .string va]) (.agg #[.string nb, .string vb])).run Tryz.prog W = .ok (.bool true) W := fun W => by rw [neqFld, decide_eq_false he]; rfl
     clear hna hva hnb hvb r1 r2 HST he
     go_wp2
     go_region
     go_wp2
     go_ret
     exact BoolIs.no HNE.out hbw.drew
  ·
   have HEQ : Hid (fs = gs) := by
    have h := HST.out
    rw [show k = n by omega] at h
    exact h.all HL1.out HL2.out
   go_wp2
   go_ret
   exact BoolIs.yes HEQ.out hbw
theorem equalFld_any (v1 v2 : Value) (n m b1 b2 : Nat) (fs gs : List (ByteArray × ByteArray)) (w : World) (h1 : FieldsV w b1 v1 n fs) (h2 : FieldsV w b2 v2 m gs) (hn : n ≤ 1073741824) (hm : m ≤ 1073741824) :
  Calls Tryz.prog 164 #[v1, v2] w fun e w' => BoolIs (fs = gs) w e w' := by
 by_cases hnm : n = m
 ·
  subst hnm
  exact equalFld_eq v1 v2 n b1 b2 fs gs w h1 h2 hn
 ·
  have HNE : Hid (¬ fs = gs) := fun e => by
   have e1 := h1.len
   have e2 := h2.len
   rw [e] at e1
   omega
  have hne : ((n : Int) != (m : Int)) = true := by simpa using (show ¬ (n : Int) = (m : Int) by omega)
  obtain ⟨oa, ca, rfl, _⟩ := h1.slice
  obtain ⟨ob, cb, rfl, _⟩ := h2.slice
  go_enter Tryz.func164, Tryz.ntmps164
  go_wp2
  go_ret
  exact BoolIs.no HNE.out (Below.refl _ _)
end Go.Proofs.YtbmhonfgffjpcaaGreat
namespace Go.Proofs.YtbmhonfgffjpcaaGreat
open Go.RowKit
open Go.Lib hiding intOf
theorem saidByFlag_any (x : ByteArray) (w : World) :
  Calls Tryz.prog 225 #[.string x] w fun e w' => e = .returned (saidF x).v ∧ Below w.heap.size w w' := by
 have hR : CcAt (w.alloc (.cells #[.bool false, .bool false, .bool false, .bool false, .bool false, .int .i64 0] 190)) w.heap.size cc0 := heap_alloc_new w _
 have HB0 : Hid (Below w.heap.size w (w.alloc (.cells #[.bool false, .bool false, .bool false, .bool false, .bool false, .int .i64 0] 190))) := (Below.refl _ _).alloc (Nat.le_refl _) _
 obtain ⟨W1, hW1⟩ := exq (w.alloc (.cells #[.bool false, .bool false, .bool false, .bool false, .bool false, .int .i64 0] 190))
 have HW1 : Hid (w.alloc (.cells #[.bool false, .bool false, .bool false, .bool false, .bool false, .int .i64 0] 190) = W1) := hW1.symm
 rw [← hW1] at hR HB0
 obtain ⟨H, hH⟩ := exq (w.heap.size)
 have HW : Hid (w.heap.size = H) := hH.symm
 rw [← hH] at hR HB0
 clear hW1
 obtain ⟨r0, r1, r2, r3, r4, r5⟩ := hR.cells
 have f0 := hR.frozen 0
 have f1 := hR.frozen 1
 have f2 := hR.frozen 2
 have f3 := hR.frozen 3
 have f4 := hR.frozen 4
 have f5 := hR.frozen 5
 obtain ⟨c, hc⟩ := exq (saidF x)
 have HC : Hid (saidF x = c) := hc.symm
 obtain ⟨m0, m1, m2, m3, m4, m5⟩ := (hR.putAll c).cells
 have HB : Hid (Below H w (putCc W1 H c)) := below_putCc HB0.out (Nat.le_refl _) c
 unfold putCc at m0 m1 m2 m3 m4 m5 HB
 clear hR HB0
 unfold saidF at hc
 by_cases h0 : x = nsW
 ·
  have t0 : (x.toList == nsW.toList) = true := (text_beq _ _).2 h0
  rw [nsW_list] at t0
  rw [if_pos h0] at hc
  subst hc
  clear h0 
  dsimp only at m0 m1 m2 m3 m4 m5 HB
  go_enter Tryz.func225, Tryz.ntmps225
  go_upto_region 1 with fail
  rw [HW1.out, ← hH]
  clear hH HW1
  go_wp2_with fail
  refine bodyPost_ret (v := (saidF x).v) (by rw [HC.out]; simp [results, Tryz.results225, go_sem, m0, m1, m2, m3, m4, m5, CcD.v]) rfl ?_
  exact ⟨rfl, by rw [HW.out]; exact HB.out⟩
 have t0 : (x.toList == nsW.toList) = false := text_beq_no h0
 rw [nsW_list] at t0
 by_cases h1 : x = ncW
 ·
  have t1 : (x.toList == ncW.toList) = true := (text_beq _ _).2 h1
  rw [ncW_list] at t1
  rw [if_neg h0, if_pos h1] at hc
  subst hc
  clear h1 h0
  dsimp only at m0 m1 m2 m3 m4 m5 HB
  go_enter Tryz.func225, Tryz.ntmps225
  go_upto_region 1 with fail
  rw [HW1.out, ← hH]
  clear hH HW1
  go_wp2_with fail
  refine bodyPost_ret (v := (saidF x).v) (by rw [HC.out]; simp [results, Tryz.results225, go_sem, m0, m1, m2, m3, m4, m5, CcD.v]) rfl ?_
  exact ⟨rfl, by rw [HW.out]; exact HB.out⟩
 have t1 : (x.toList == ncW.toList) = false := text_beq_no h1
 rw [ncW_list] at t1
 by_cases h2 : x = prW
 ·
  have t2 : (x.toList == prW.toList) = true := (text_beq _ _).2 h2
  rw [prW_list] at t2
  rw [if_neg h0, if_neg h1, if_pos h2] at hc
  subst hc
  clear h2 h0 h1
  dsimp only at m0 m1 m2 m3 m4 m5 HB
  go_enter Tryz.func225, Tryz.ntmps225
  go_upto_region 1 with fail
  rw [HW1.out, ← hH]
  clear hH HW1
  go_wp2_with fail
  refine bodyPost_ret (v := (saidF x).v) (by rw [HC.out]; simp [results, Tryz.results225, go_sem, m0, m1, m2, m3, m4, m5, CcD.v]) rfl ?_
  exact ⟨rfl, by rw [HW.out]; exact HB.out⟩
 have t2 : (x.toList == prW.toList) = false := text_beq_no h2
 rw [prW_list] at t2
 by_cases h4 : x = muW
 ·
  have t3 : (x.toList == muW.toList) = true := (text_beq _ _).2 h4
  rw [muW_list] at t3
  rw [if_neg h0, if_neg h1, if_neg h2, if_pos h4] at hc
  subst hc
  clear h4 h0 h1 h2
  dsimp only at m0 m1 m2 m3 m4 m5 HB
  go_enter Tryz.func225, Tryz.ntmps225
  go_upto_region 1 with fail
  rw [HW1.out, ← hH]
  clear hH HW1
  go_wp2_with fail
  refine bodyPost_ret (v := (saidF x).v) (by rw [HC.out]; simp [results, Tryz.results225, go_sem, m0, m1, m2, m3, m4, m5, CcD.v]) rfl ?_
  exact ⟨rfl, by rw [HW.out]; exact HB.out⟩
 have t3 : (x.toList == muW.toList) = false := text_beq_no h4
 rw [muW_list] at t3
 rw [if_neg h0, if_neg h1, if_neg h2, if_neg h4] at hc
 subst hc
 clear h0 h1 h2 h4
 dsimp only [cc0] at m0 m1 m2 m3 m4 m5 HB
 go_enter Tryz.func225, Tryz.ntmps225
 go_upto_region 1 with fail
 rw [HW1.out, ← hH]
 clear hH HW1
 go_wp2_with fail
 refine bodyPost_ret (v := (saidF x).v) (by rw [HC.out]; simp [results, Tryz.results225, go_sem, m0, m1, m2, m3, m4, m5, CcD.v, cc0]) rfl ?_
 exact ⟨rfl, by rw [HW.out]; exact HB.out⟩
end Go.Proofs.YtbmhonfgffjpcaaGreat
namespace Go.Proofs.YtbmhonfgffjpcaaGreat
open Go.RowKit
open Go.Lib hiding intOf
theorem pre_age {x : ByteArray} (h : Lib.hasPrefix x.data.toList maW.data.toList = true) : ageOf x = some (numV ⟨(Lib.trimPrefix x.data.toList maW.data.toList).toArray⟩) := by
 unfold ageOf
 have e : (bs x).take 8 = bs maW := by
  have := List.isPrefixOf_iff_prefix.1 h
  obtain ⟨t, ht⟩ := this
  show x.data.toList.take 8 = _
  rw [← ht]
  rfl
 rw [if_pos e]
 unfold Lib.trimPrefix
 rw [if_pos h]
 rfl
theorem pre_none {x : ByteArray} (h : Lib.hasPrefix x.data.toList maW.data.toList = false) : ageOf x = none := by
 unfold ageOf
 rw [if_neg]
 intro e
 have : Lib.hasPrefix x.data.toList maW.data.toList = true := by
  refine List.isPrefixOf_iff_prefix.2 ⟨x.data.toList.drop 8, ?_⟩
  have e' : x.data.toList.take 8 = maW.data.toList := e
  rw [← e', List.take_append_drop]
 rw [this] at h
 cases h
theorem saidBy_any (x : ByteArray) (w : World) (hs : x.size ≤ 4000000) :
  Calls Tryz.prog 215 #[.string x] w fun e w' => e = .returned (saidB x).v ∧ Below w.heap.size w w' := by
 have HR0 : Hid (CcAt (w.alloc (.cells cc0.cs 190)) w.heap.size cc0) := heap_alloc_new w _
 have HB0 : Hid (Below w.heap.size w (w.alloc (.cells cc0.cs 190))) := (Below.refl _ _).alloc (Nat.le_refl _) _
 obtain ⟨W1, hW1⟩ := exq (w.alloc (.cells cc0.cs 190))
 have HW1 : Hid (w.alloc (.cells #[.bool false, .bool false, .bool false, .bool false, .bool false, .int .i64 0] 190) = W1) := hW1.symm
 rw [← hW1] at HR0 HB0
 obtain ⟨H, hH⟩ := exq (w.heap.size)
 have HW : Hid (w.heap.size = H) := hH.symm
 rw [← hH] at HR0 HB0
 clear hW1
 cases hp : Lib.hasPrefix x.data.toList maW.data.toList with
 | true =>
  have HA : Hid _ := pre_age hp
  obtain ⟨t, ht⟩ : ∃ t : ByteArray, t = ⟨(Lib.trimPrefix x.data.toList maW.data.toList).toArray⟩ := ⟨_, rfl⟩
  have hts : t.size ≤ maxLen := by
   rw [ht]
   unfold Lib.trimPrefix maxLen
   rw [if_pos hp]
   show (List.toArray _).size ≤ _
   simp
   omega
  rw [← ht] at HA
  have HT : Hid (⟨(Lib.trimPrefix x.data.toList maW.data.toList).toArray⟩ = t) := ht.symm
  clear ht
  go_enter Tryz.func215, Tryz.ntmps215
  go_wp2_with fail
  rw [HW1.out, ← hH]
  refine (Tryz.strings_CutPrefix x maW _).mono ?_
  rintro e w1 ⟨rfl, rfl⟩
  rw [hp, HT.out]
  clear hp hH HW1
  go_wp2_with fail
  refine (implNumRead_any t _ hts).mono ?_
  rintro e w2 ⟨b, n, rfl, hb1, hb2, hb3, b2⟩
  have HV : Hid (numV t = n) := by
   show _ = _
   unfold numV
   cases b with
   | true => rw [if_pos (hb1.1 rfl), hb2 rfl]
   | false => rw [if_neg (fun h => nomatch hb1.2 h), hb3 rfl]
  obtain ⟨c, hc⟩ : ∃ c : CcD, c = ⟨false, false, false, false, true, n⟩ := ⟨_, rfl⟩
  have HC : Hid (saidB x = c) := by show _ = _; unfold saidB; rw [HA.out, HV.out, hc]
  have hR := HR0.out.same (b2.block _ HR0.out.lt)
  have HB : Hid (Below H w (putCc w2 H c)) := below_putCc (HB0.out.trans (b2.mono (Nat.le_of_lt HR0.out.lt))) (Nat.le_refl _) c
  obtain ⟨r0, r1, r2, r3, r4, r5⟩ := hR.cells
  have f0 := hR.frozen 0
  have f1 := hR.frozen 1
  have f2 := hR.frozen 2
  have f3 := hR.frozen 3
  have f4 := hR.frozen 4
  have f5 := hR.frozen 5
  obtain ⟨m0, m1, m2, m3, m4, m5⟩ := (hR.putAll c).cells
  unfold putCc at m0 m1 m2 m3 m4 m5 HB
  subst hc
  dsimp only at m0 m1 m2 m3 m4 m5 HB
  clear hb1 hb2 hb3 hR b2 HR0 HB0 HA
  go_wp2_with fail
  refine bodyPost_ret (v := CcD.v ⟨false, false, false, false, true, n⟩) (by simp [results, Tryz.results215, go_sem, m0, m1, m2, m3, m4, m5, CcD.v]) rfl ?_
  exact ⟨by rw [HC.out], by rw [HW.out]; exact HB.out⟩
 | false =>
  have HA : Hid (saidB x = saidF x) := by show _ = _; unfold saidB; rw [pre_none hp]
  go_enter Tryz.func215, Tryz.ntmps215
  go_wp2_with fail
  rw [HW1.out, ← hH]
  refine (Tryz.strings_CutPrefix x maW _).mono ?_
  rintro e w1 ⟨rfl, rfl⟩
  rw [hp]
  clear hp hH HW1
  go_wp2_with fail
  refine (saidByFlag_any x _).mono ?_
  rintro e w2 ⟨rfl, b2⟩
  obtain ⟨c, hc⟩ := exq (saidF x)
  rw [← hc] at HA ⊢
  have hR := HR0.out.same (b2.block _ HR0.out.lt)
  have HB : Hid (Below H w (putCc w2 H c)) := below_putCc (HB0.out.trans (b2.mono (Nat.le_of_lt HR0.out.lt))) (Nat.le_refl _) c
  obtain ⟨r0, r1, r2, r3, r4, r5⟩ := hR.cells
  have f0 := hR.frozen 0
  have f1 := hR.frozen 1
  have f2 := hR.frozen 2
  have f3 := hR.frozen 3
  have f4 := hR.frozen 4
  have f5 := hR.frozen 5
  obtain ⟨m0, m1, m2, m3, m4, m5⟩ := (hR.putAll c).cells
  unfold putCc at m0 m1 m2 m3 m4 m5 HB
  clear hc hR b2 HR0 HB0
  unfold CcD.v
  go_wp2_with fail
  refine bodyPost_ret (v := c.v) (by simp [results, Tryz.results215, go_sem, m0, m1, m2, m3, m4, m5, CcD.v]) rfl ?_
  exact ⟨by rw [HA.out], by rw [HW.out]; exact HB.out⟩
/-- While words are read, here. -/
structure CiRd (w : World) (H : Nat) (c : CcD) (v : Value) (l : List ByteArray) (wr : World) : Prop where
 res : CcAt wr H cc0
 cur : CcAt wr (H + 1) c
 row : wr.ownsRow (H + 1 + 1) 9 1 v l.length (l.map Value.string)
 low : Below H w wr
theorem CiRd.later {w : World} {H : Nat} {c : CcD} {v : Value} {l : List ByteArray} {wr w' : World} (h : CiRd w H c v l wr) (hb : Below wr.heap.size wr w') : CiRd w H c v l w' :=
 ⟨h.res.same (hb.block _ h.res.lt), h.cur.same (hb.block _ h.cur.lt), owns_below h.row hb (fun _ hg => owns_lt h.row hg), h.low.trans (hb.mono (Nat.le_of_lt h.res.lt))⟩
theorem CiRd.putCc {w : World} {H : Nat} {c : CcD} {v : Value} {l : List ByteArray} {wr : World} (h : CiRd w H c v l wr) (d : CcD) : CiRd w H d v l (putCc wr (H + 1) d) :=
 ⟨h.res.same (putCc_other (by omega)), h.cur.putAll d, owns_same h.row (fun j hj => putCc_other (by have := (own_ltR h.row hj).1; omega)), below_putCc h.low (by omega) d⟩
theorem implCcRead_any (s : ByteArray) (w : World) (hs : s.size ≤ 1048576) :
  Calls Tryz.prog 207 #[.string s] w fun e w' => e = .returned (ccR s).v ∧ Below w.heap.size w w' := by
 obtain ⟨H, hH⟩ := exq (w.heap.size)
 have HW : Hid (w.heap.size = H) := hH.symm
 obtain ⟨W0, hW0⟩ := exq ((w.alloc (.cells cc0.cs 190)).alloc (.cells cc0.cs 190))
 have HA : Hid (CcAt W0 H cc0 ∧ CcAt W0 (H + 1) cc0 ∧ Below H w W0 ∧ W0.heap.size = H + 1 + 1) := by
  have e1 := heap_alloc_new w (.cells cc0.cs 190)
  have e2 := heap_alloc_new (w.alloc (.cells cc0.cs 190)) (.cells cc0.cs 190)
  rw [World.size_alloc] at e2
  refine ⟨?_, ?_, ?_, ?_⟩
  · unfold CcAt; rw [hW0, hH, heap_alloc_old _ _ (by simp)]; exact e1
  · unfold CcAt; rw [hW0, hH]; exact e2
  · rw [hW0, hH]; exact ((Below.refl _ w).alloc (Nat.le_refl _) _).alloc (by simp) _
  · rw [hW0, hH]; simp
 have HW0 : Hid ((w.alloc (.cells #[.bool false, .bool false, .bool false, .bool false, .bool false, .int .i64 0] 190)).alloc (.cells #[.bool false, .bool false, .bool false, .bool false, .bool false, .int .i64 0] 190) = W0) := hW0.symm
 clear hW0
 go_enter Tryz.func207, Tryz.ntmps207
 go_wp2_with fail
 rw [HW0.out, ← hH]
 clear hH
 refine (implSplit_any s _ hs).mono ?_
 rintro e w0 ⟨v, rfl, hown, bb⟩
 rw [HA.out.2.2.2] at hown bb
 obtain ⟨l, hl⟩ := exq (splitL s)
 rw [← hl] at hown
 have HLS : Hid (splitL s = l) := hl.symm
 have HLB : Hid (∀ x ∈ l, x.size ≤ 1048576) := fun x hx => by rw [hl] at hx; have := (splitL_le s).2 x hx; omega
 have hll : l.length ≤ 1048577 := by rw [hl]; have := (splitL_le s).1; omega
 have HS1 : Hid (CiRd w H (ccTo (l.take 0)) v l w0) := ⟨HA.out.1.same (bb.block _ (by omega)), HA.out.2.1.same (bb.block _ (by omega)), hown, HA.out.2.2.1.trans (bb.mono (by omega))⟩
 obtain ⟨oa, cp, rfl⟩ := slice_of_owns hown
 obtain ⟨n, hn⟩ := exq l.length
 have HN : Hid (l.length = n) := hn.symm
 rw [← hn] at hll HS1 ⊢
 clear hown bb hl hn
 go_wp2_with fail
 go_loopw [9] (fun i wr => ∃ k : Nat, k ≤ n ∧ i = .int .i64 (k : Int) ∧ Hid (CiRd w H (ccTo (l.take k)) (.slice oa n cp) l wr)) (fun i _ => n - (intOf i).toNat)
 case atStart => exact ⟨0, Nat.zero_le _, rfl, HS1⟩
 case round =>
  obtain ⟨k, hk, rfl, HS⟩ := hrel
  by_cases hlt : (k : Int) < (n : Int)
  ·
   have hkl : k < l.length := by have := HN.out; omega
   obtain ⟨g, rfl⟩ : ∃ g, oa = some ⟨g, 0, none⟩ := by
    rcases HS.out.row.2 with ⟨e, _⟩ | ⟨g, _, _, e, _⟩
    · injection e with _ e2 _; omega
    · injection e with e1 _ _; exact ⟨g, e1⟩
   obtain ⟨x, hx⟩ := exq (l[k]'hkl)
   have hc0 : wr.cell? ⟨g, k, none⟩ = some (.string x) := by
    have hr := HS.out.row
    rw [HN.out] at hr
    exact (owns_cellC hr k (.string x) (by rw [List.getElem?_map, List.getElem?_eq_getElem hkl, hx]; rfl)).1
   have hxs : x.size ≤ 1048576 := by rw [hx]; exact HLB.out _ (List.getElem_mem hkl)
   obtain ⟨y, hy⟩ := exq (lowerOf x)
   have hys : y.size ≤ 4000000 := by rw [hy, ccLow_size]; omega
   have HY : Hid (lowerOf x = y) := hy.symm
   obtain ⟨d, hd⟩ := exq (ccTo (l.take (k + 1)))
   obtain ⟨c, hc⟩ := exq (ccTo (l.take k))
   obtain ⟨u, hu⟩ := exq (saidB y)
   have HSB : Hid (saidB y = u) := hu.symm
   have HTD : Hid (toge c u = d) := by
    show _ = _
    rw [hd, List.take_succ_eq_append_getElem hkl, ccTo_snoc, ← hx, ← hy, step_toge (ccTo_fit _), hc, hu]
   have HTG : Hid (∀ W, Calls Tryz.prog 214 #[.agg #[.bool c.ns, .bool c.nc, .bool c.pr, .bool c.mu, .bool c.ha, .int .i64 c.age], .agg #[.bool u.ns, .bool u.nc, .bool u.pr, .bool u.mu, .bool u.ha, .int .i64 u.age]] W fun e w' => e = .returned (toge c u).v ∧ Below W.heap.size W w') := fun W => together_any c u W
   have HD : Hid (∀ W, CiRd w H d (.slice (some ⟨g, 0, none⟩) n cp) l W → CiRd w H (ccTo (l.take (k + 1))) (.slice (some ⟨g, 0, none⟩) n cp) l W) := fun W h => by rw [← hd]; exact h
   rw [← hc] at HS
   clear hx hy hkl hc hd hu
   have HT1 : Hid (CiRd w H c (.slice (some ⟨g, 0, none⟩) n cp) l wr.drew) := HS.out.later (Below.refl _ _).drew
   go_upto_region 5 with fail
   clear hc0 HS
   refine wp_region_held_drew (S := fun _ => True) (by kernel_rfl) trivial (fun _ => ?_)
   refine wpAnyH_takeD (i := 1) (v := .string x) (some 14) rfl rfl (by kernel_rfl) (by kernel_rfl) (by kernel_rfl) (fun _ _ _ h => h) (Or.inl ⟨by rfl, by intro W _; go_simp⟩) trivial ?_
   go_frame
   refine wpAnyH_ready (rs := [0, 2]) (by kernel_rfl) (by simp) ?_
   refine AllReadyH.cons rfl (fun K hK => ?_) (AllReadyH.cons rfl (fun K hK => ?_) AllReadyH.nil)
   ·
    obtain ⟨q0, q1, q2, q3, q4, q5⟩ := HT1.out.cur.cells
    go_simp
    refine hK.out _ _ trivial (fun _ => ?_)
    clear hK K q0 q1 q2 q3 q4 q5
    refine rd1 2 rfl (fun K hK => ?_)
    go_simp
    refine (implLower_any x _).mono ?_
    rintro e w2 ⟨rfl, hb2⟩
    rw [HY.out]
    have HT2 : Hid (CiRd w H c (.slice (some ⟨g, 0, none⟩) n cp) l w2) := HT1.out.later hb2
    clear hb2
    refine hK.out _ _ trivial (fun _ => ?_)
    clear hK K HT1
    refine rd1 3 rfl (fun K hK => ?_)
    go_simp
    refine (saidBy_any y _ hys).mono ?_
    rintro e w3 ⟨rfl, hb3⟩
    rw [HSB.out]
    unfold CcD.v
    have HT3 : Hid (CiRd w H c (.slice (some ⟨g, 0, none⟩) n cp) l w3) := HT2.out.later hb3
    clear hb3
    refine hK.out _ _ trivial (fun _ => ?_)
    clear hK K HT2
    refine rd1 4 rfl (fun K hK => ?_)
    go_simp
    refine (HTG.out _).mono ?_
    rintro e w4 ⟨rfl, hb4⟩
    rw [HTD.out]
    unfold CcD.v
    have HT4 : Hid (CiRd w H c (.slice (some ⟨g, 0, none⟩) n cp) l w4) := HT3.out.later hb4
    clear hb4
    refine hK.out _ _ trivial (fun _ => ?_)
    clear hK K HT3
    refine rd1 5 rfl (fun K hK => ?_)
    have HZ : Hid (CiRd w H d (.slice (some ⟨g, 0, none⟩) n cp) l (putCc w4 (H + 1) d)) := HT4.out.putCc d
    obtain ⟨q0, q1, q2, q3, q4, q5⟩ := HT4.out.cur.cells
    have f0 := HT4.out.cur.frozen 0
    have f1 := HT4.out.cur.frozen 1
    have f2 := HT4.out.cur.frozen 2
    have f3 := HT4.out.cur.frozen 3
    have f4 := HT4.out.cur.frozen 4
    have f5 := HT4.out.cur.frozen 5
    unfold putCc at HZ
    clear HT4
    go_simp
    refine hK.out _ _ trivial (fun _ => ?_)
    clear hK K q0 q1 q2 q3 q4 q5 f0 f1 f2 f3 f4 f5
    refine wpAnyH_done (by kernel_rfl) ?_ _
    go_wp2_with fail
    go_roundw
    case rel => exact ⟨k + 1, by omega, by go_num, HD.out _ HZ.out⟩
    case measure => simp [intOf]; omega
   ·
    go_simp
    refine (implLower_any x _).mono ?_
    rintro e w2 ⟨rfl, hb2⟩
    rw [HY.out]
    have HT2 : Hid (CiRd w H c (.slice (some ⟨g, 0, none⟩) n cp) l w2) := HT1.out.later hb2
    clear hb2
    refine hK.out _ _ trivial (fun _ => ?_)
    clear hK K HT1
    refine wpAnyH_ready (rs := [0, 3]) (by kernel_rfl) (by simp) ?_
    refine AllReadyH.cons rfl (fun K hK => ?_) (AllReadyH.cons rfl (fun K hK => ?_) AllReadyH.nil)
    ·
     obtain ⟨q0, q1, q2, q3, q4, q5⟩ := HT2.out.cur.cells
     go_simp
     refine hK.out _ _ trivial (fun _ => ?_)
     clear hK K q0 q1 q2 q3 q4 q5
     refine rd1 3 rfl (fun K hK => ?_)
     go_simp
     refine (saidBy_any y _ hys).mono ?_
     rintro e w3 ⟨rfl, hb3⟩
     rw [HSB.out]
     unfold CcD.v
     have HT3 : Hid (CiRd w H c (.slice (some ⟨g, 0, none⟩) n cp) l w3) := HT2.out.later hb3
     clear hb3
     refine hK.out _ _ trivial (fun _ => ?_)
     clear hK K HT2
     refine rd1 4 rfl (fun K hK => ?_)
     go_simp
     refine (HTG.out _).mono ?_
     rintro e w4 ⟨rfl, hb4⟩
     rw [HTD.out]
     unfold CcD.v
     have HT4 : Hid (CiRd w H c (.slice (some ⟨g, 0, none⟩) n cp) l w4) := HT3.out.later hb4
     clear hb4
     refine hK.out _ _ trivial (fun _ => ?_)
     clear hK K HT3
     refine rd1 5 rfl (fun K hK => ?_)
     have HZ : Hid (CiRd w H d (.slice (some ⟨g, 0, none⟩) n cp) l (putCc w4 (H + 1) d)) := HT4.out.putCc d
     obtain ⟨q0, q1, q2, q3, q4, q5⟩ := HT4.out.cur.cells
     have f0 := HT4.out.cur.frozen 0
     have f1 := HT4.out.cur.frozen 1
     have f2 := HT4.out.cur.frozen 2
     have f3 := HT4.out.cur.frozen 3
     have f4 := HT4.out.cur.frozen 4
     have f5 := HT4.out.cur.frozen 5
     unfold putCc at HZ
     clear HT4
     go_simp
     refine hK.out _ _ trivial (fun _ => ?_)
     clear hK K q0 q1 q2 q3 q4 q5 f0 f1 f2 f3 f4 f5
     refine wpAnyH_done (by kernel_rfl) ?_ _
     go_wp2_with fail
     go_roundw
     case rel => exact ⟨k + 1, by omega, by go_num, HD.out _ HZ.out⟩
     case measure => simp [intOf]; omega
    ·
     go_simp
     refine (saidBy_any y _ hys).mono ?_
     rintro e w3 ⟨rfl, hb3⟩
     rw [HSB.out]
     unfold CcD.v
     have HT3 : Hid (CiRd w H c (.slice (some ⟨g, 0, none⟩) n cp) l w3) := HT2.out.later hb3
     clear hb3
     refine hK.out _ _ trivial (fun _ => ?_)
     clear hK K HT2
     refine rd1 0 rfl (fun K hK => ?_)
     obtain ⟨q0, q1, q2, q3, q4, q5⟩ := HT3.out.cur.cells
     go_simp
     refine hK.out _ _ trivial (fun _ => ?_)
     clear hK K q0 q1 q2 q3 q4 q5
     refine rd1 4 rfl (fun K hK => ?_)
     go_simp
     refine (HTG.out _).mono ?_
     rintro e w4 ⟨rfl, hb4⟩
     rw [HTD.out]
     unfold CcD.v
     have HT4 : Hid (CiRd w H c (.slice (some ⟨g, 0, none⟩) n cp) l w4) := HT3.out.later hb4
     clear hb4
     refine hK.out _ _ trivial (fun _ => ?_)
     clear hK K HT3
     refine rd1 5 rfl (fun K hK => ?_)
     have HZ : Hid (CiRd w H d (.slice (some ⟨g, 0, none⟩) n cp) l (putCc w4 (H + 1) d)) := HT4.out.putCc d
     obtain ⟨q0, q1, q2, q3, q4, q5⟩ := HT4.out.cur.cells
     have f0 := HT4.out.cur.frozen 0
     have f1 := HT4.out.cur.frozen 1
     have f2 := HT4.out.cur.frozen 2
     have f3 := HT4.out.cur.frozen 3
     have f4 := HT4.out.cur.frozen 4
     have f5 := HT4.out.cur.frozen 5
     unfold putCc at HZ
     clear HT4
     go_simp
     refine hK.out _ _ trivial (fun _ => ?_)
     clear hK K q0 q1 q2 q3 q4 q5 f0 f1 f2 f3 f4 f5
     refine wpAnyH_done (by kernel_rfl) ?_ _
     go_wp2_with fail
     go_roundw
     case rel => exact ⟨k + 1, by omega, by go_num, HD.out _ HZ.out⟩
     case measure => simp [intOf]; omega
  ·
   obtain rfl : k = n := by omega
   have HE : Hid (ccTo (l.take k) = ccR s) := by
    show _ = _
    rw [List.take_of_length_le (by rw [HN.out]; exact Nat.le_refl _)]
    unfold ccR
    rw [HLS.out]
   rw [HE.out] at HS
   obtain ⟨c, hc⟩ := exq (ccR s)
   rw [← hc] at HS
   have HC : Hid (c = ccR s) := hc
   obtain ⟨q0, q1, q2, q3, q4, q5⟩ := HS.out.cur.cells
   obtain ⟨r0, r1, r2, r3, r4, r5⟩ := HS.out.res.cells
   have f0 := HS.out.res.frozen 0
   have f1 := HS.out.res.frozen 1
   have f2 := HS.out.res.frozen 2
   have f3 := HS.out.res.frozen 3
   have f4 := HS.out.res.frozen 4
   have f5 := HS.out.res.frozen 5
   obtain ⟨m0, m1, m2, m3, m4, m5⟩ := (HS.out.res.putAll c).cells
   have HB : Hid (Below H w (putCc wr H c)) := below_putCc HS.out.low (Nat.le_refl _) c
   clear hc HE
   unfold putCc at m0 m1 m2 m3 m4 m5 HB
   go_wp2_with fail
   refine bodyPost_ret (v := c.v) (by simp [results, Tryz.results207, go_sem, m0, m1, m2, m3, m4, m5, CcD.v]) rfl ?_
   exact ⟨by rw [HC.out], by rw [HW.out]; exact HB.out⟩
theorem implCcOf_any (v : Value) (n base : Nat) (fs : List (ByteArray × ByteArray)) (w : World) (hv : FieldsV w base v n fs) (hn : n ≤ 1073741824) (hcp : CopyF fs) (hsz : (getV fs ccName).size ≤ 1048576) :
  Calls Tryz.prog 192 #[v] w fun e w' => e = .returned (ccR (getV fs ccName)).v ∧ Below w.heap.size w w' := by
 have hv1 : FieldsV (w.alloc (.cells cc0.cs 190)) base v n fs := hv.below ((Below.refl _ _).alloc (Nat.le_refl _) _)
 have HR0 : Hid (CcAt (w.alloc (.cells cc0.cs 190)) w.heap.size cc0) := heap_alloc_new w _
 have HB0 : Hid (Below w.heap.size w (w.alloc (.cells cc0.cs 190))) := (Below.refl _ _).alloc (Nat.le_refl _) _
 obtain ⟨t, ht⟩ := exq (getV fs ccName)
 have HT : Hid (getV fs ccName = t) := ht.symm
 rw [← ht] at hsz
 obtain ⟨c, hc⟩ := exq (ccR t)
 have HC : Hid (ccR t = c) := hc.symm
 rw [← ht, ← hc]
 clear ht hc hv
 go_enter Tryz.func192, Tryz.ntmps192
 go_wp2_with fail
 refine (implGet_any v n base fs ccName _ hv1 hn hcp).mono ?_
 rintro e w1 ⟨rfl, b1⟩
 rw [HT.out]
 have HR1 : Hid (CcAt w1 w.heap.size cc0) := HR0.out.same (b1.block _ HR0.out.lt)
 have HB1 : Hid (Below w.heap.size w w1) := HB0.out.trans (b1.mono (Nat.le_of_lt HR0.out.lt))
 clear hv1 b1 HR0 HB0
 go_wp2_with fail
 refine (implCcRead_any t _ hsz).mono ?_
 rintro e w2 ⟨rfl, b2⟩
 rw [HC.out]
 have hR := HR1.out.same (b2.block _ HR1.out.lt)
 obtain ⟨r0, r1, r2, r3, r4, r5⟩ := hR.cells
 have f0 := hR.frozen 0
 have f1 := hR.frozen 1
 have f2 := hR.frozen 2
 have f3 := hR.frozen 3
 have f4 := hR.frozen 4
 have f5 := hR.frozen 5
 obtain ⟨m0, m1, m2, m3, m4, m5⟩ := (hR.putAll c).cells
 have HB : Hid (Below w.heap.size w (putCc w2 w.heap.size c)) := below_putCc (HB1.out.trans (b2.mono (Nat.le_of_lt HR1.out.lt))) (Nat.le_refl _) c
 unfold putCc at m0 m1 m2 m3 m4 m5 HB
 clear hR b2 HR1 HB1
 unfold CcD.v
 go_wp2_with fail
 refine bodyPost_ret (v := c.v) (by simp [results, Tryz.results192, go_sem, m0, m1, m2, m3, m4, m5, CcD.v]) rfl ?_
 exact ⟨rfl, HB.out⟩
end Go.Proofs.YtbmhonfgffjpcaaGreat
namespace Go.Proofs.YtbmhonfgffjpcaaGreat
open Go.RowKit
open Go.Lib hiding intOf
theorem isRightGet_any (m : Int) (p : ByteArray) (v : Value) (b : ByteArray) (n base : Nat) (fs : List (ByteArray × ByteArray)) (w : World) (hv : FieldsV w base v n fs) (hn : n ≤ 1073741824) (hsz : WalkF n fs) (hp : p.size ≤ maxLen) (hb : b.size ≤ maxLen) :
  Calls Tryz.prog 191 #[.agg #[.int .i64 m, .string p, v, .string b]] w fun e w' => BoolIs (ReqP m p fs b ∧ m = 1) w e w' := by
 obtain ⟨oa, cap, rfl, _⟩ := hv.slice
 obtain ⟨r, hr⟩ := exq (w.heap.size)
 obtain ⟨W1, hW1⟩ := exq (w.alloc (.cells #[.int .i64 m, .string p, .slice oa n cap, .string b] 62))
 have HW1 : Hid (w.alloc (.cells #[.int .i64 m, .string p, .slice oa n cap, .string b] 62) = W1) := hW1.symm
 have H1 : Hid (W1.heap[r]? = some (.cells #[.int .i64 m, .string p, .slice oa n cap, .string b] 62)) := by show _ = _; rw [hW1, hr]; exact heap_alloc_new w _
 have HB1 : Hid (Below w.heap.size w W1) := by show Below _ _ _; rw [hW1]; exact (Below.refl _ _).alloc (Nat.le_refl _) _
 have hv1 := hv.below HB1.out
 obtain ⟨⟨c0, c1, c2, c3⟩, _⟩ := four_facts H1.out
 clear hW1 hv
 go_enter Tryz.func191, Tryz.ntmps191
 go_upto_region 1 with fail
 rw [HW1.out, ← hr]
 clear hr HW1
 go_wp2_with fail
 refine (implReqOk_any m p _ b n base fs _ hv1 hn hsz hp hb).mono ?_
 rintro e w2 ⟨t, rfl, ht, b2⟩
 have HB2 : Hid (Below w.heap.size w w2) := HB1.out.trans (b2.mono HB1.out.size)
 have H2 : Hid (w2.heap[r]? = some (.cells #[.int .i64 m, .string p, .slice oa n cap, .string b] 62)) := by show _ = _; rw [b2.block r (Array.getElem?_eq_some_iff.1 H1.out).1]; exact H1.out
 clear c0 c1 c2 c3 hv1 H1 HB1 b2
 cases t with
 | false =>
  have HF : Hid (¬ (ReqP m p fs b ∧ m = 1)) := fun h => nomatch ht.2 h.1
  clear ht
  go_wp2_with fail
  go_ret
  exact BoolIs.no HF.out HB2.out
 | true =>
  have HQ : Hid (ReqP m p fs b) := ht.1 rfl
  obtain ⟨⟨c0, _⟩, _⟩ := four_facts H2.out
  have HT : Hid ((m == 1) = true ↔ (ReqP m p fs b ∧ m = 1)) := by show _ ↔ _; simp [HQ.out]
  clear ht HQ H2
  go_wp2_with fail
  go_ret
  exact ⟨_, rfl, HT.out, HB2.out⟩
end Go.Proofs.YtbmhonfgffjpcaaGreat
namespace Go.Proofs.YtbmhonfgffjpcaaGreat
open Go.RowKit
open Go.Lib hiding intOf
theorem mayBeFromHere_any (ma : Int) (pa : ByteArray) (va : Value) (ba : ByteArray) (na basea : Nat) (fsa : List (ByteArray × ByteArray)) (w : World) (hva : FieldsV w basea va na fsa) (hna : na ≤ 1048576) (hsa : WalkF na fsa) (hpa : pa.size ≤ maxLen) (hba : ba.size ≤ maxLen) (hga : ∀ x, (getV fsa x).size ≤ 1048576) (hca : CopyF fsa) :
  Calls Tryz.prog 163 #[.agg #[.int .i64 ma, .string pa, va, .string ba]] w fun e w' => BoolIs (HereP ma pa fsa ba) w e w' := by
 obtain ⟨oa, ca, hsl, _⟩ := hva.slice
 subst hsl
 have HVa : Hid (∀ W, Below w.heap.size w W → FieldsV W basea (.slice oa na ca) na fsa) := fun W h => hva.below h
 have HLFa : Hid (fsa.length = na) := hva.len
 have HSa : Hid (WalkF na fsa) := hsa
 have HPMa : Hid (pa.size ≤ maxLen) := hpa
 have HBMa : Hid (ba.size ≤ maxLen) := hba
 have HQVa : Hid (∀ x, (getV fsa x).size ≤ 1048576) := hga
 have HCa : Hid (CopyF fsa) := hca
 clear hva hsa hpa hba hga hca
 obtain ⟨ka, hka⟩ := exq (ccR (getV fsa ccName))
 have HCCa : Hid (∀ W, Below w.heap.size w W → Calls Tryz.prog 192 #[.slice oa na ca] W fun e w' => e = .returned (.agg #[.bool ka.ns, .bool ka.nc, .bool ka.pr, .bool ka.mu, .bool ka.ha, .int .i64 ka.age]) ∧ Below W.heap.size W w') := fun W hW => by
  have h := implCcOf_any _ na basea fsa W (HVa.out W hW) (by omega) HCa.out (HQVa.out _)
  rw [← hka] at h
  exact h
 have HCKa : Hid (ccR (getV fsa ccName) = ka) := hka.symm
 clear hka
 obtain ⟨xa0, xa1, xa2, xa3, xa4, xa5⟩ := ka
 dsimp only at HCCa
 have hfna := fun W => cc_ns xa0 xa1 xa2 xa3 xa4 xa5 W
 have hfca := fun W => cc_nc xa0 xa1 xa2 xa3 xa4 xa5 W
 have hb0 : Below w.heap.size w w := Below.refl _ _
 go_enter Tryz.func163, Tryz.ntmps163
 go_upto_region 1 with fail
 obtain ⟨qv1, hqv1⟩ := exq ((w).heap.size)
 obtain ⟨w1, hW1⟩ := exq ((w).alloc (.cells #[.int .i64 ma, .string pa, .slice oa na ca, .string ba] 62))
 have hz1 : (w).heap.size = qv1 := hqv1.symm
 first | rw [← hW1, ← hqv1] | rw [← hW1]
 have hs1 := hsa hW1 hz1
 have bw := bal hW1
 have hb1 := hbt hb0 bw
 have HBv1_1 := hnew hW1 hz1
 clear hb0 bw hW1 hz1
 clear hs1 hqv1
 have cv1_0 := (k4c HBv1_1).1
 have cv1_1 := (k4c HBv1_1).2.1
 have cv1_2 := (k4c HBv1_1).2.2.1
 have cv1_3 := (k4c HBv1_1).2.2.2
 go_wp2_with fail
 refine (isRightGet_any ma pa _ ba na basea fsa _ (HVa.out _ hb1) (by omega) HSa.out HPMa.out HBMa.out).mono ?_
 rintro e w2 ⟨rg, rfl, hrg, bw⟩
 have hb2 := hbt hb1 bw
 have HBv1_2 := hblk HBv1_1 bw
 clear hb1 HBv1_1 bw
 clear cv1_0 cv1_1 cv1_2 cv1_3
 cases rg with
 | false =>
  have HNrg : Hid (¬ (ReqP ma pa fsa ba ∧ ma = 1)) := fun h => nomatch hrg.2 h
  clear hrg
  go_wp2_with fail
  go_ret
  exact BoolIs.no (fun h => HNrg.out h.1) hb2
 | true =>
  have HYrg : Hid (ReqP ma pa fsa ba ∧ ma = 1) := hrg.1 rfl
  clear hrg
  have cv1_2 := (k4c HBv1_2).2.2.1
  go_wp2_with fail
  refine (HCCa.out _ hb2).mono ?_
  rintro e w3 ⟨rfl, bw⟩
  have hb3 := hbt hb2 bw
  have HBv1_3 := hblk HBv1_2 bw
  clear hb2 HBv1_2 bw
  clear cv1_2
  cases xa0 with
  | false =>
   have HXNa : Hid ((ccR (getV fsa ccName)).ns = false) := by show _ = _; rw [HCKa.out]
   go_wp2_with fail
   go_ret
   exact BoolIs.yes ⟨HYrg.out, HXNa.out⟩ hb3
  | true =>
   have HXNa : Hid ((ccR (getV fsa ccName)).ns = true) := by show _ = _; rw [HCKa.out]
   go_wp2_with fail
   go_ret
   exact BoolIs.no (fun h => by have h1 := h.2; rw [HXNa.out] at h1; exact absurd h1 (by decide)) hb3
end Go.Proofs.YtbmhonfgffjpcaaGreat
namespace Go.Proofs.YtbmhonfgffjpcaaGreat
open Go.RowKit
open Go.Lib hiding intOf
theorem implAlike_any (ma : Int) (pa : ByteArray) (va : Value) (ba : ByteArray) (na basea : Nat) (fsa : List (ByteArray × ByteArray)) (mb : Int) (pb : ByteArray) (vb : Value) (bb : ByteArray) (nb baseb : Nat) (fsb : List (ByteArray × ByteArray)) (w : World) (hva : FieldsV w basea va na fsa) (hna : na ≤ 1048576) (hsa : WalkF na fsa) (hpa : pa.size ≤ maxLen) (hba : ba.size ≤ maxLen) (hga : ∀ x, (getV fsa x).size ≤ 1048576) (hca : CopyF fsa) (hvb : FieldsV w baseb vb nb fsb) (hnb : nb ≤ 1048576) (hsb : WalkF nb fsb) (hpb : pb.size ≤ maxLen) (hbb : bb.size ≤ maxLen) (hgb : ∀ x, (getV fsb x).size ≤ 1048576) (hcb : CopyF fsb) :
  Calls Tryz.prog 139 #[.agg #[.int .i64 ma, .string pa, va, .string ba], .agg #[.int .i64 mb, .string pb, vb, .string bb]] w fun e w' => BoolIs (AlikeP ma pa fsa ba mb pb fsb bb) w e w' := by
 obtain ⟨oa, ca, hsl, _⟩ := hva.slice
 subst hsl
 have HVa : Hid (∀ W, Below w.heap.size w W → FieldsV W basea (.slice oa na ca) na fsa) := fun W h => hva.below h
 have HLFa : Hid (fsa.length = na) := hva.len
 have HSa : Hid (WalkF na fsa) := hsa
 have HPMa : Hid (pa.size ≤ maxLen) := hpa
 have HBMa : Hid (ba.size ≤ maxLen) := hba
 have HQVa : Hid (∀ x, (getV fsa x).size ≤ 1048576) := hga
 have HCa : Hid (CopyF fsa) := hca
 clear hva hsa hpa hba hga hca
 obtain ⟨ob, cb, hsl, _⟩ := hvb.slice
 subst hsl
 have HVb : Hid (∀ W, Below w.heap.size w W → FieldsV W baseb (.slice ob nb cb) nb fsb) := fun W h => hvb.below h
 have HLFb : Hid (fsb.length = nb) := hvb.len
 have HSb : Hid (WalkF nb fsb) := hsb
 have HPMb : Hid (pb.size ≤ maxLen) := hpb
 have HBMb : Hid (bb.size ≤ maxLen) := hbb
 have HQVb : Hid (∀ x, (getV fsb x).size ≤ 1048576) := hgb
 have HCb : Hid (CopyF fsb) := hcb
 clear hvb hsb hpb hbb hgb hcb
 have hb0 : Below w.heap.size w w := Below.refl _ _
 go_enter Tryz.func139, Tryz.ntmps139
 go_upto_region 1 with fail
 obtain ⟨qv1, hqv1⟩ := exq ((w).heap.size)
 obtain ⟨w1, hW1⟩ := exq ((w).alloc (.cells #[.int .i64 ma, .string pa, .slice oa na ca, .string ba] 62))
 have hz1 : (w).heap.size = qv1 := hqv1.symm
 first | rw [← hW1, ← hqv1] | rw [← hW1]
 have hs1 := hsa hW1 hz1
 have bw := bal hW1
 have hb1 := hbt hb0 bw
 have HBv1_1 := hnew hW1 hz1
 clear hb0 bw hW1 hz1
 obtain ⟨qv2, hqv2⟩ := exq (qv1 + 1)
 obtain ⟨w2, hW2⟩ := exq ((w1).alloc (.cells #[.int .i64 mb, .string pb, .slice ob nb cb, .string bb] 62))
 have hz2 : (w1).heap.size = qv2 := by rw [hqv2]; exact hs1
 first | rw [← hW2, ← hqv2] | rw [← hW2]
 have hs2 := hsa hW2 hz2
 have bw := bal hW2
 have hb2 := hbt hb1 bw
 have HBv1_2 := hblk HBv1_1 bw
 have HBv2_2 := hnew hW2 hz2
 clear hb1 HBv1_1 bw hW2 hz2
 clear hs2 hqv2 hs1 hqv1
 have cv1_0 := (k4c HBv1_2).1
 have cv1_1 := (k4c HBv1_2).2.1
 have cv1_2 := (k4c HBv1_2).2.2.1
 have cv1_3 := (k4c HBv1_2).2.2.2
 go_wp2_with fail
 refine (mayBeFromHere_any ma pa _ ba na basea fsa _ (HVa.out _ hb2) (by omega) HSa.out HPMa.out HBMa.out HQVa.out HCa.out).mono ?_
 rintro e w3 ⟨ha, rfl, hha, bw⟩
 have hb3 := hbt hb2 bw
 have HBv1_3 := hblk HBv1_2 bw
 have HBv2_3 := hblk HBv2_2 bw
 clear hb2 HBv1_2 HBv2_2 bw
 clear cv1_0 cv1_1 cv1_2 cv1_3
 cases ha with
 | false =>
  have HNha : Hid (¬ (HereP ma pa fsa ba)) := fun h => nomatch hha.2 h
  clear hha
  go_wp2_with fail
  go_ret
  exact BoolIs.no (fun h => HNha.out h.1.1) hb3
 | true =>
  have HYha : Hid (HereP ma pa fsa ba) := hha.1 rfl
  clear hha
  have cv2_0 := (k4c HBv2_3).1
  have cv2_1 := (k4c HBv2_3).2.1
  have cv2_2 := (k4c HBv2_3).2.2.1
  have cv2_3 := (k4c HBv2_3).2.2.2
  go_wp2_with fail
  refine (mayBeFromHere_any mb pb _ bb nb baseb fsb _ (HVb.out _ hb3) (by omega) HSb.out HPMb.out HBMb.out HQVb.out HCb.out).mono ?_
  rintro e w4 ⟨hb, rfl, hhb, bw⟩
  have hb4 := hbt hb3 bw
  have HBv1_4 := hblk HBv1_3 bw
  have HBv2_4 := hblk HBv2_3 bw
  clear hb3 HBv1_3 HBv2_3 bw
  clear cv2_0 cv2_1 cv2_2 cv2_3
  cases hb with
  | false =>
   have HNhb : Hid (¬ (HereP mb pb fsb bb)) := fun h => nomatch hhb.2 h
   clear hhb
   go_wp2_with fail
   go_ret
   exact BoolIs.no (fun h => HNhb.out h.1.2) hb4
  | true =>
   have HYhb : Hid (HereP mb pb fsb bb) := hhb.1 rfl
   clear hhb
   by_cases hc1 : pa = pb
   ·
    have hc1b : ((pa).toList == (pb).toList) = true := (text_beq _ _).2 hc1
    have HPP : Hid ((pa = pb)) := hc1
    clear hc1
    have cv1_1 := (k4c HBv1_4).2.1
    have cv1_2 := (k4c HBv1_4).2.2.1
    have cv2_1 := (k4c HBv2_4).2.1
    have cv2_2 := (k4c HBv2_4).2.2.1
    go_wp2_with fail
    refine (equalFld_any _ _ na nb _ _ fsa fsb _ (HVa.out _ hb4) (HVb.out _ hb4) (by omega) (by omega)).mono ?_
    rintro e w5 ⟨lf, rfl, hlf, bw⟩
    have hb5 := hbt hb4 bw
    have HBv1_5 := hblk HBv1_4 bw
    have HBv2_5 := hblk HBv2_4 bw
    clear hb4 HBv1_4 HBv2_4 bw
    clear cv1_1 cv1_2 cv2_1 cv2_2
    cases lf with
    | false =>
     have HNlf : Hid (¬ (fsa = fsb)) := fun h => nomatch hlf.2 h
     clear hlf
     go_wp2_with fail
     go_ret
     exact BoolIs.no (fun h => HNlf.out h.2.2) hb5
    | true =>
     have HYlf : Hid (fsa = fsb) := hlf.1 rfl
     clear hlf
     go_wp2_with fail
     go_ret
     exact BoolIs.yes ⟨⟨HYha.out, HYhb.out⟩, HPP.out, HYlf.out⟩ hb5
   ·
    have hc1b : ((pa).toList == (pb).toList) = false := text_beq_no hc1
    have HPP : Hid (¬ (pa = pb)) := hc1
    clear hc1
    have cv1_1 := (k4c HBv1_4).2.1
    have cv2_1 := (k4c HBv2_4).2.1
    go_wp2_with fail
    go_ret
    exact BoolIs.no (fun h => HPP.out h.2.1) hb4
end Go.Proofs.YtbmhonfgffjpcaaGreat
namespace Go.Proofs.YtbmhonfgffjpcaaGreat
open Go.RowKit
open Go.Lib hiding intOf
/-- What is asked for is right; what is kept of it is. -/
def ReqF (d : FlD) : Prop := ReqP d.qmt d.qpa d.qfs d.qbd
def ObjF (d : FlD) : Prop := ObjP d.opa d.oxs d.oys d.ost d.ofs d.obd d.otm
def AlikeF (d e : FlD) : Prop := AlikeP d.qmt d.qpa d.qfs d.qbd e.qmt e.qpa e.qfs e.qbd
/-- A flight is right. -/
def FlOk (d : FlD) : Prop := ReqF d ∧ (1 ≤ (d.who.length : Int) ∧ (d.who.length : Int) ≤ 5) ∧ (d.has = true → ObjF d)
/-- The one at that place is right, and like none ahead of it. -/
def FlAtOk (fl : List FlD) (i : Nat) : Prop := FlOk (flAt fl i) ∧ ∀ k, k < i → ¬ AlikeF (flAt fl k) (flAt fl i)
def FlsP (fl : List FlD) : Prop := fl.length ≤ 5 ∧ ∀ i, i < fl.length → FlAtOk fl i
/-- A cache is right. -/
def CacheP (c : CaD) : Prop := ShelfP c.s ∧ (0 ≤ c.now ∧ c.now ≤ 1000000) ∧ FlsP c.fl ∧ c.se.length ≤ 1500 ∧ c.sn.length ≤ 1500
theorem flR_req {w : World} {B : Nat} {d : FlD} {u2 u4 u6 u7 u9 : Value} (h : RowsO w B (flR (⟨d, u2, u4, u6, u7, u9⟩ : FlV))) : FieldsV w B u2 d.qfs.length d.qfs := FieldsV.of_owns (h.own (⟨171, 2, u2, d.qfs.length, flatF d.qfs⟩ : Rw) (by simp [flR]))
theorem flR_obj {w : World} {B : Nat} {d : FlD} {u2 u4 u6 u7 u9 : Value} (h : RowsO w B (flR (⟨d, u2, u4, u6, u7, u9⟩ : FlV))) : ObjO w B u6 d.oxs.length d.oxs u7 d.oys.length d.oys u9 d.ofs.length d.ofs :=
 rows_obj3 (RowsO.sub h (by unfold flR; apply List.Sublist.cons; apply List.Sublist.cons; exact List.Sublist.refl _))
theorem specReqOk_f (d : FlD) (u2 u4 u6 u7 u9 : Value) (B : Nat) (w : World) (h : RowsO w B (flR (⟨d, u2, u4, u6, u7, u9⟩ : FlV))) (hs : FlSmall d) :
  Calls Tryz.prog 81 #[.agg #[.int .i64 d.qmt, .string d.qpa, u2, .string d.qbd]] w fun e w' => BoolIs (ReqF d) w e w' :=
 specReqOk_any d.qmt d.qpa u2 d.qbd _ B d.qfs w (flR_req h) (Nat.le_trans hs.qfs.1 (by decide)) (fs_walk hs.qfs.2) (Nat.le_trans hs.qpa (by decide)) (Nat.le_trans hs.qbd (by decide))
theorem specObjOk_f (d : FlD) (u2 u4 u6 u7 u9 : Value) (B : Nat) (w : World) (h : RowsO w B (flR (⟨d, u2, u4, u6, u7, u9⟩ : FlV))) (hs : FlSmall d) :
  Calls Tryz.prog 82 #[.agg #[.string d.opa, u6, u7, .int .i64 d.ost, u9, .string d.obd, .int .i64 d.otm]] w fun e w' => BoolIs (ObjF d) w e w' := by
 have ho := flR_obj h
 obtain ⟨o1, c1, rfl⟩ := slice_of_owns ho.names
 obtain ⟨o2, c2, rfl⟩ := slice_of_owns ho.vals
 exact specObjOk_any d.opa o1 _ c1 d.oxs o2 _ c2 d.oys d.ost u9 _ B d.ofs d.obd d.otm w (texts_view ho.names) (texts_view ho.vals) (FieldsV.of_owns ho.flds) (Nat.le_trans hs.oxs.1 (by decide)) (Nat.le_trans hs.oys.1 (by decide)) (Nat.le_trans hs.ofs.1 (by decide)) (small_text hs.oxs.2) (small_text hs.oys.2) (fs_walk hs.ofs.2) (Nat.le_trans hs.opa (by decide)) (Nat.le_trans hs.obd (by decide)) (fs_get hs.ofs.2 _)
theorem specAlike_f (d e : FlD) (u2 u4 u6 u7 u9 t2 t4 t6 t7 t9 : Value) (B C : Nat) (w : World) (h : RowsO w B (flR (⟨d, u2, u4, u6, u7, u9⟩ : FlV))) (h2 : RowsO w C (flR (⟨e, t2, t4, t6, t7, t9⟩ : FlV))) (hd : FlSmall d) (he : FlSmall e) :
  Calls Tryz.prog 83 #[.agg #[.int .i64 d.qmt, .string d.qpa, u2, .string d.qbd], .agg #[.int .i64 e.qmt, .string e.qpa, t2, .string e.qbd]] w fun e' w' => BoolIs (AlikeF d e) w e' w' :=
 specAlike_any d.qmt d.qpa u2 d.qbd _ B d.qfs e.qmt e.qpa t2 e.qbd _ C e.qfs w (flR_req h) hd.qfs.1 (fs_walk hd.qfs.2) (Nat.le_trans hd.qpa (by decide)) (Nat.le_trans hd.qbd (by decide)) (fs_get hd.qfs.2) (flR_req h2) he.qfs.1 (fs_walk he.qfs.2) (Nat.le_trans he.qpa (by decide)) (Nat.le_trans he.qbd (by decide)) (fs_get he.qfs.2)
theorem implReqOk_f (d : FlD) (u2 u4 u6 u7 u9 : Value) (B : Nat) (w : World) (h : RowsO w B (flR (⟨d, u2, u4, u6, u7, u9⟩ : FlV))) (hs : FlSmall d) :
  Calls Tryz.prog 136 #[.agg #[.int .i64 d.qmt, .string d.qpa, u2, .string d.qbd]] w fun e w' => BoolIs (ReqF d) w e w' :=
 implReqOk_any d.qmt d.qpa u2 d.qbd _ B d.qfs w (flR_req h) (Nat.le_trans hs.qfs.1 (by decide)) (fs_walk hs.qfs.2) (Nat.le_trans hs.qpa (by decide)) (Nat.le_trans hs.qbd (by decide))
theorem implObjOk_f (d : FlD) (u2 u4 u6 u7 u9 : Value) (B : Nat) (w : World) (h : RowsO w B (flR (⟨d, u2, u4, u6, u7, u9⟩ : FlV))) (hs : FlSmall d) :
  Calls Tryz.prog 133 #[.agg #[.string d.opa, u6, u7, .int .i64 d.ost, u9, .string d.obd, .int .i64 d.otm]] w fun e w' => BoolIs (ObjF d) w e w' := by
 have ho := flR_obj h
 obtain ⟨o1, c1, rfl⟩ := slice_of_owns ho.names
 obtain ⟨o2, c2, rfl⟩ := slice_of_owns ho.vals
 exact implObjOk_any d.opa o1 _ c1 d.oxs o2 _ c2 d.oys d.ost u9 _ B d.ofs d.obd d.otm w (texts_view ho.names) (texts_view ho.vals) (FieldsV.of_owns ho.flds) (Nat.le_trans hs.oxs.1 (by decide)) (Nat.le_trans hs.oys.1 (by decide)) (Nat.le_trans hs.ofs.1 (by decide)) (small_text hs.oxs.2) (small_text hs.oys.2) (fs_walk hs.ofs.2) (fs_copy hs.ofs.2) (Nat.le_trans hs.opa (by decide)) (Nat.le_trans hs.obd (by decide)) (fs_get hs.ofs.2 _)
theorem implAlike_f (d e : FlD) (u2 u4 u6 u7 u9 t2 t4 t6 t7 t9 : Value) (B C : Nat) (w : World) (h : RowsO w B (flR (⟨d, u2, u4, u6, u7, u9⟩ : FlV))) (h2 : RowsO w C (flR (⟨e, t2, t4, t6, t7, t9⟩ : FlV))) (hd : FlSmall d) (he : FlSmall e) :
  Calls Tryz.prog 139 #[.agg #[.int .i64 d.qmt, .string d.qpa, u2, .string d.qbd], .agg #[.int .i64 e.qmt, .string e.qpa, t2, .string e.qbd]] w fun e' w' => BoolIs (AlikeF d e) w e' w' :=
 implAlike_any d.qmt d.qpa u2 d.qbd _ B d.qfs e.qmt e.qpa t2 e.qbd _ C e.qfs w (flR_req h) hd.qfs.1 (fs_walk hd.qfs.2) (Nat.le_trans hd.qpa (by decide)) (Nat.le_trans hd.qbd (by decide)) (fs_get hd.qfs.2) (fs_copy hd.qfs.2) (flR_req h2) he.qfs.1 (fs_walk he.qfs.2) (Nat.le_trans he.qpa (by decide)) (Nat.le_trans he.qbd (by decide)) (fs_get he.qfs.2) (fs_copy he.qfs.2)
end Go.Proofs.YtbmhonfgffjpcaaGreat
namespace Go.Proofs.YtbmhonfgffjpcaaGreat
open Go.RowKit
open Go.Lib hiding intOf
theorem owns_cap {w : World} {B T z : Nat} {o : Option Addr} {n c : Nat} {cs : List Value} (h : w.ownsRow B T z (.slice o n c) n cs) : n ≤ c := by
 rcases h.2 with ⟨h1, _⟩ | ⟨g, cap, cur, h1, _, _, h2, _⟩
 ·
  injection h1 with _ h3 _
  omega
 ·
  injection h1 with _ h3 h4
  omega
theorem RpAt.range {w : World} {g i : Nat} {x : RpV} (h : RpAt w g i x) : w.rangeAt g (i * 18) (rpC x) := range_cons h.c0 (range_cons h.c1 (range_cons h.c2 (range_cons h.c3 (range_cons h.c4 (range_cons h.c5 (range_cons h.c6 (range_cons h.c7 (range_cons h.c8 (range_cons h.c9 (range_cons h.c10 (range_cons h.c11 (range_cons h.c12 (range_cons h.c13 (range_cons h.c14 (range_cons h.c15 (range_cons h.c16 (range_cons h.c17 (range_nil _ _ _))))))))))))))))))
theorem wpList_load_midG {P : Program} {ops : Array Oper} {rest : List Oper} {op : Oper} {a : Act} {w : World} {Q : Exit → Act → World → Prop} (hw : Region.wanted op (yielded ops a.tmps) = true) (ty : TypeId) (x : Operand) (ho : op.op = .load ty x)
  (b o : Nat) (hx : a.eval x = .pointer (some ⟨b, o, none⟩)) (cs : List Value) (d : TypeDesc) (hc : w.rangeAt b o cs)
  (hu : P.underlying ty = some d) (hd : d.isRow = true) (hi : (P.info? ty).map (·.size) = some cs.length)
  (h : wpList P ops Q rest (a.put op.dst (.agg cs.toArray)) w) : wpList P ops Q (op :: rest) a w :=
 wpList_step fun K hK => by simp only [hw, if_true]; exact wp_load_mid ty x ho b o hx cs d hc hu hd hi (hK _ _ h)
theorem run_equalIn_func_nil {P : Program} (w : World) (d : Nat) (t : TypeId) {ps rs : Array TypeId} {vd : Bool} (f : Fn) (a c : Array Value) (h : P.underlying t = some (.func ps rs vd)) : (Op.equalIn (d + 1) t (.func f a c) .nilFunc).run P w = .ok false w := by
 simp [Op.equalIn, run_underlying h]
theorem run_neq_func_nil {P : Program} (w : World) (t : TypeId) {ps rs : Array TypeId} {vd : Bool} (f : Fn) (a c : Array Value) (h : P.underlying t = some (.func ps rs vd)) : (binOp .neq t (.func f a c) .nilFunc).run P w = .ok (.bool true) w := by
 have e : (Op.equal t (.func f a c) .nilFunc).run P w = .ok false w := run_equalIn_func_nil w 9999 t f a c h
 simp only [binOp]
 simp [e]
/-- So many bans as there were, of those that there are. -/
def bansN (b : Int) (n : Nat) : Nat := (max (min b (n : Int)) 0).toNat
theorem bansN_le (b : Int) (n : Nat) : bansN b n ≤ n := by unfold bansN; omega
theorem bansN_spec (b : Int) (n : Nat) : ((bansN b n : Nat) : Int) = max (min b (n : Int)) 0 := by unfold bansN; omega
theorem bansN_impl (b : Int) (n : Nat) : ((bansN b n : Nat) : Int) = min (max b 0) (n : Int) := by unfold bansN; omega
/-- One of the bans hits what was answered with. -/
def AnyR (bl : List (Int × ByteArray × ByteArray × Int)) (a : RpD) : Prop := AnyP bl a.opa a.oxs a.oys a.ost a.ofs a.obd a.otm
/-- What was answered from here was not banned then. -/
def UnbanP (c : CaD) (a : RpD) : Prop := ¬ AnyR (c.s.bl.take (bansN a.bns c.s.bl.length)) a
/-- No known one is banned. -/
def NoBanP (c : CaD) : Prop := ∀ i, i < c.s.ks.length → ¬ AnyK c.s.bl (kpAt c.s.ks i)
/-- So of each answer from here. -/
def EachHere (P : RpD → Prop) (sn : List RpD) : Prop := ∀ i, i < sn.length → (rpAt sn i).knd = 1 → P (rpAt sn i)
/-- JudgeBans, in plain words. -/
def JBansP (c : CaD) : Prop := CacheP c ∧ NoBanP c ∧ EachHere (UnbanP c) c.sn
theorem banAt_take (l : List (Int × ByteArray × ByteArray × Int)) (m i : Nat) (h : i < m) : banAt (l.take m) i = banAt l i := by
 unfold banAt
 rw [List.getD_eq_getElem?_getD, List.getD_eq_getElem?_getD, List.getElem?_take_of_lt h]
theorem BanA.pre {w : World} {oa : Option Addr} {n m : Nat} {l : List (Int × ByteArray × ByteArray × Int)} (h : BanA w oa n l) (hm : m ≤ n) : BanA w oa m (l.take m) :=
 ⟨by rw [List.length_take, h.1]; omega, fun i hi => by rw [banAt_take l m i hi]; exact h.2 i (by omega)⟩
theorem rpR_objJ {w : World} {B : Nat} {a : RpD} {t3 t6 t11 t12 t14 : Value} (h : RowsO w B (rpR (⟨a, t3, t6, t11, t12, t14⟩ : RpV))) : ObjO w B t11 a.oxs.length a.oxs t12 a.oys.length a.oys t14 a.ofs.length a.ofs :=
 rows_obj3 (RowsO.sub h (by unfold rpR; apply List.Sublist.cons; apply List.Sublist.cons; exact List.Sublist.refl _))
theorem specHitsAny_r (oa : Option Addr) (n cap : Nat) (l : List (Int × ByteArray × ByteArray × Int)) (a : RpD) (t3 t6 t11 t12 t14 : Value) (C : Nat) (w : World) (hl : BanA w oa n l) (hn : n ≤ 2000000) (hlz : ∀ x ∈ l, x.2.1.size ≤ maxLen ∧ x.2.2.1.size ≤ maxLen) (h : RowsO w C (rpR (⟨a, t3, t6, t11, t12, t14⟩ : RpV))) (hs : RpSmall a) :
  Calls Tryz.prog 45 #[.slice oa n cap, .agg #[.string a.opa, t11, t12, .int .i64 a.ost, t14, .string a.obd, .int .i64 a.otm]] w fun e w' => BoolIs (AnyR l a) w e w' := by
 have ho := rpR_objJ h
 obtain ⟨o1, c1, rfl⟩ := slice_of_owns ho.names
 obtain ⟨o2, c2, rfl⟩ := slice_of_owns ho.vals
 exact specHitsAny_any oa n cap l a.opa o1 _ c1 a.oxs o2 _ c2 a.oys a.ost t14 _ C a.ofs a.obd a.otm w hl hn hlz (texts_view ho.names) (texts_view ho.vals) (FieldsV.of_owns ho.flds) (Nat.le_trans hs.oxs.1 (by decide)) (Nat.le_trans hs.oys.1 (by decide)) (Nat.le_trans hs.ofs.1 (by decide)) (small_text hs.oxs.2) (small_text hs.oys.2) (fs_walk hs.ofs.2) (Nat.le_trans hs.opa (by decide)) (Nat.le_trans hs.obd (by decide)) (fs_get hs.ofs.2 _)
theorem implHitsAny_r (oa : Option Addr) (n cap : Nat) (l : List (Int × ByteArray × ByteArray × Int)) (a : RpD) (t3 t6 t11 t12 t14 : Value) (C : Nat) (w : World) (hl : BanA w oa n l) (hn : n ≤ 2000000) (hlz : ∀ x ∈ l, x.2.1.size ≤ maxLen ∧ x.2.2.1.size ≤ maxLen) (h : RowsO w C (rpR (⟨a, t3, t6, t11, t12, t14⟩ : RpV))) (hs : RpSmall a) :
  Calls Tryz.prog 123 #[.slice oa n cap, .agg #[.string a.opa, t11, t12, .int .i64 a.ost, t14, .string a.obd, .int .i64 a.otm]] w fun e w' => BoolIs (AnyR l a) w e w' := by
 have ho := rpR_objJ h
 obtain ⟨o1, c1, rfl⟩ := slice_of_owns ho.names
 obtain ⟨o2, c2, rfl⟩ := slice_of_owns ho.vals
 exact implHitsAny_any oa n cap l a.opa o1 _ c1 a.oxs o2 _ c2 a.oys a.ost t14 _ C a.ofs a.obd a.otm w hl hn hlz (texts_view ho.names) (texts_view ho.vals) (FieldsV.of_owns ho.flds) (Nat.le_trans hs.oxs.1 (by decide)) (Nat.le_trans hs.oys.1 (by decide)) (Nat.le_trans hs.ofs.1 (by decide)) (small_text hs.oxs.2) (small_text hs.oys.2) (fs_walk hs.ofs.2) (fs_copy hs.ofs.2) (Nat.le_trans hs.opa (by decide)) (Nat.le_trans hs.obd (by decide)) (fs_get hs.ofs.2 _)
end Go.Proofs.YtbmhonfgffjpcaaGreat
namespace Go.Proofs.YtbmhonfgffjpcaaGreat
open Go.RowKit
open Go.Lib hiding intOf
theorem knows1_any (k : KpD) (u1 u2 u3 : Value) (q : Nat) (y0 y1 y2 y4 y5 y6 y7 y8 y9 : Value) (o4 : Option Addr) (n4 c4 : Nat) (bl : List (Int × ByteArray × ByteArray × Int)) (w : World) (hq : w.heap[q]? = some (.cells #[y0, y1, y2, .slice o4 n4 c4, y4, y5, y6, y7, y8, y9] 58)) (hl : BanA w o4 n4 bl) (hn : n4 ≤ 2000000) (hlz : ∀ x ∈ bl, x.2.1.size ≤ maxLen ∧ x.2.2.1.size ≤ maxLen) (hk : KpRead w k u1 u2 u3) (hs : KpSmall k) :
  Calls Tryz.prog 125 #[.agg #[.string k.p, u1, u2, .int .i64 k.st, u3, .string k.b, .int .i64 k.t, .int .i64 k.a, .int .i64 k.q], .pointer (some ⟨q, 0, none⟩)] w fun e w' => BoolIs (AnyK bl k) w e w' := by
 go_enter Tryz.func125, Tryz.ntmps125
 go_upto_region 1 with fail
 obtain ⟨q1, hq1⟩ := exq (w.heap.size)
 obtain ⟨w1, hw1⟩ := exq (w.alloc (.cells #[.string k.p, u1, u2, .int .i64 k.st, u3, .string k.b, .int .i64 k.t, .int .i64 k.a, .int .i64 k.q] 103))
 rw [← hw1, ← hq1]
 have HX1 : Hid (w1.heap[q1]? = some (.cells #[.string k.p, u1, u2, .int .i64 k.st, u3, .string k.b, .int .i64 k.t, .int .i64 k.a, .int .i64 k.q] 103)) := by show _ = _; rw [hw1, hq1]; exact heap_alloc_new _ _
 have HB1 : Hid (Below w.heap.size w w1) := by show Below _ _ _; rw [hw1]; exact (Below.refl _ _).alloc (Nat.le_refl _) _
 have HQ1 : Hid (w1.heap[q]? = some (.cells #[y0, y1, y2, .slice o4 n4 c4, y4, y5, y6, y7, y8, y9] 58)) := blk_below hq HB1.out
 have HL1 : Hid (BanA w1 o4 n4 bl) := hl.below HB1.out
 have HK1 : Hid (KpRead w1 k u1 u2 u3) := hk.below HB1.out
 have HLZ : Hid (∀ x ∈ bl, x.2.1.size ≤ maxLen ∧ x.2.2.1.size ≤ maxLen) := hlz
 have HSK : Hid (KpSmall k) := hs
 clear hw1 hq1 hq hl hk hlz hs
 have e3 : w1.cell? ⟨q, 3, none⟩ = some (.slice o4 n4 c4) := (cell_of HQ1.out 3).trans rfl
 have d0 : w1.cell? ⟨q1, 0, none⟩ = some (.string k.p) := (cell_of HX1.out 0).trans rfl
 have d1 : w1.cell? ⟨q1, 1, none⟩ = some (u1) := (cell_of HX1.out 1).trans rfl
 have d2 : w1.cell? ⟨q1, 2, none⟩ = some (u2) := (cell_of HX1.out 2).trans rfl
 have d3 : w1.cell? ⟨q1, 3, none⟩ = some (.int .i64 k.st) := (cell_of HX1.out 3).trans rfl
 have d4 : w1.cell? ⟨q1, 4, none⟩ = some (u3) := (cell_of HX1.out 4).trans rfl
 have d5 : w1.cell? ⟨q1, 5, none⟩ = some (.string k.b) := (cell_of HX1.out 5).trans rfl
 have d6 : w1.cell? ⟨q1, 6, none⟩ = some (.int .i64 k.t) := (cell_of HX1.out 6).trans rfl
 go_wp2_with fail
 refine (implHitsAny_k o4 n4 c4 bl k u1 u2 u3 _ HL1.out hn HLZ.out HK1.out HSK.out).mono ?_
 rintro e w2 ⟨b, rfl, hb, bw⟩
 have HB2 : Hid (Below w.heap.size w w2) := HB1.out.trans (bw.mono HB1.out.size)
 have HBB : Hid (b = true ↔ AnyK bl k) := hb
 clear e3 d0 d1 d2 d3 d4 d5 d6 HX1 HB1 HQ1 HL1 HK1 HLZ HSK bw hb
 go_wp2_with fail
 go_ret
 exact ⟨b, rfl, HBB.out, HB2.out⟩
theorem indexKept_any (o3 : Option Addr) (n3 c3 : Nat) (kv : List (KpD × Value × Value × Value)) (ks : List KpD) (B q : Nat) (y0 y1 y2 y4 y5 y6 y7 y8 y9 : Value) (o4 : Option Addr) (n4 c4 : Nat) (bl : List (Int × ByteArray × ByteArray × Int)) (w : World) (hq : w.heap[q]? = some (.cells #[y0, y1, y2, .slice o4 n4 c4, y4, y5, y6, y7, y8, y9] 58)) (hl : BanA w o4 n4 bl) (hn : n4 ≤ 2000000) (hlz : ∀ x ∈ bl, x.2.1.size ≤ maxLen ∧ x.2.2.1.size ≤ maxLen) (h : KeptsO w B (.slice o3 n3 c3) kv) (hln : kv.length = n3) (hks : kv.map (·.1) = ks) (hs : ∀ x ∈ kv, KpSmall x.1) (hn3 : n3 ≤ 1048576) :
  Calls Tryz.prog 149 #[.slice o3 n3 c3, .func (.func 125) #[] #[.pointer (some ⟨q, 0, none⟩)]] w fun e w' => ∃ r : Int, e = .returned (.int .i64 r) ∧ (0 ≤ r ↔ ∃ i, i < n3 ∧ AnyK bl (kpAt ks i)) ∧ Below w.heap.size w w' := by
 have hcf : ∀ (args : Array Value) (W : World), (callFunc 125 args).run Tryz.prog W = .ok (.enter 125 args) W := enters_of Tryz.func125 (by kernel_rfl) rfl
 have HKP : Hid (∀ W, Below w.heap.size w W → KeptsO W B (.slice o3 n3 c3) kv) := fun W hb => KeptsO.below h hb
 have HLK : Hid (kv.length = n3) := hln
 have HKS : Hid (kv.map (·.1) = ks) := hks
 have HSM : Hid (∀ x ∈ kv, KpSmall x.1) := hs
 have HQ : Hid (∀ W, Below w.heap.size w W → W.heap[q]? = some (.cells #[y0, y1, y2, .slice o4 n4 c4, y4, y5, y6, y7, y8, y9] 58)) := fun W hb => blk_below hq hb
 have HBN : Hid (∀ W, Below w.heap.size w W → BanA W o4 n4 bl) := fun W hb => hl.below hb
 have HLZ : Hid (∀ x ∈ bl, x.2.1.size ≤ maxLen ∧ x.2.2.1.size ≤ maxLen) := hlz
 clear h hln hks hs hq hl hlz
 go_enter Tryz.func149, Tryz.ntmps149
 go_wp2
 go_loopw [8] (fun i wr => ∃ k : Nat, k ≤ n3 ∧ i = .int .i64 (k : Int) ∧ Hid (∀ j, j < k → ¬ AnyK bl (kpAt ks j)) ∧ Hid (Below w.heap.size w wr)) (fun i _ => n3 - (intOf i).toNat)
 case atStart => exact ⟨0, Nat.zero_le _, rfl, fun j hj => absurd hj (by omega), Below.refl _ _⟩
 case round =>
  obtain ⟨i, hi, rfl, HN, HBW⟩ := hrel
  by_cases hlt : i < n3
  ·
   have hlt2 : (i : Int) < (n3 : Int) := by omega
   obtain ⟨g3, p3, hV, _, hat⟩ := (HKP.out wr HBW.out).look i (by rw [HLK.out]; exact hlt)
   rw [HLK.out] at hV
   injection hV with hV1 hV2 hV3
   subst hV1 hV3
   clear hV2
   obtain ⟨x, hx⟩ := exq (kvAt kv i)
   have HMx : Hid (x ∈ kv) := by show _ ∈ _; rw [hx]; exact kvAt_mem kv i (by rw [HLK.out]; exact hlt)
   have HEx : Hid (kpAt ks i = x.1) := by show _ = _; rw [hx, ← HKS.out]; exact (kvAt_fst kv i (by rw [HLK.out]; exact hlt)).symm
   rw [← hx] at hat
   have HRx : Hid (KpRead wr x.1 x.2.1 x.2.2.1 x.2.2.2) := KeptsO.read (HKP.out wr HBW.out) HMx.out
   have HSx : Hid (KpSmall x.1) := HSM.out _ HMx.out
   clear hx
   obtain ⟨k, kz1, kz2, kz3⟩ := x
   have r0 := hat.c0
   have r1 := hat.c1
   have r2 := hat.c2
   have r3 := hat.c3
   have r4 := hat.c4
   have r5 := hat.c5
   have r6 := hat.c6
   have r7 := hat.c7
   have r8 := hat.c8
   dsimp only at r0 r1 r2 r3 r4 r5 r6 r7 r8 HEx HSx HRx
   clear hat
   go_wp2_with fail
   refine (knows1_any k kz1 kz2 kz3 q y0 y1 y2 y4 y5 y6 y7 y8 y9 o4 n4 c4 bl _ (HQ.out _ HBW.out) (HBN.out _ HBW.out) hn HLZ.out HRx.out HSx.out).mono ?_
   rintro e' w1 ⟨b, rfl, hb, bw⟩
   have HB2 : Hid (Below w.heap.size w w1) := HBW.out.trans (bw.mono HBW.out.size)
   have HBB : Hid (b = true ↔ AnyK bl k) := hb
   clear r0 r1 r2 r3 r4 r5 r6 r7 r8 bw hb
   cases b with
   | true =>
    have HY : Hid (∃ i, i < n3 ∧ AnyK bl (kpAt ks i)) := ⟨i, hlt, by rw [HEx.out]; exact HBB.out.1 rfl⟩
    go_wp2_with fail
    go_ret
    exact ⟨(i : Int), rfl, ⟨fun _ => HY.out, fun _ => by omega⟩, HB2.out⟩
   | false =>
    have HN2 : Hid (∀ j, j < i + 1 → ¬ AnyK bl (kpAt ks j)) := fun j hj => by
     by_cases ej : j = i
     ·
      subst ej
      rw [HEx.out]
      exact fun h => nomatch HBB.out.2 h
     · exact HN.out j (by omega)
    go_wp2_with fail
    go_roundw
    case rel => exact ⟨i + 1, by omega, by go_num, HN2, HB2⟩
    case measure => simp [intOf]; omega
  ·
   obtain rfl : i = n3 := by omega
   go_wp2_with fail
   go_ret
   exact ⟨-1, rfl, ⟨fun h => absurd h (by omega), fun ⟨j, hj, hA⟩ => absurd hA (HN.out j hj)⟩, HBW.out⟩
theorem containsKept_any (o3 : Option Addr) (n3 c3 : Nat) (kv : List (KpD × Value × Value × Value)) (ks : List KpD) (B q : Nat) (y0 y1 y2 y4 y5 y6 y7 y8 y9 : Value) (o4 : Option Addr) (n4 c4 : Nat) (bl : List (Int × ByteArray × ByteArray × Int)) (w : World) (hq : w.heap[q]? = some (.cells #[y0, y1, y2, .slice o4 n4 c4, y4, y5, y6, y7, y8, y9] 58)) (hl : BanA w o4 n4 bl) (hn : n4 ≤ 2000000) (hlz : ∀ x ∈ bl, x.2.1.size ≤ maxLen ∧ x.2.2.1.size ≤ maxLen) (h : KeptsO w B (.slice o3 n3 c3) kv) (hln : kv.length = n3) (hks : kv.map (·.1) = ks) (hs : ∀ x ∈ kv, KpSmall x.1) (hn3 : n3 ≤ 1048576) :
  Calls Tryz.prog 124 #[.slice o3 n3 c3, .func (.func 125) #[] #[.pointer (some ⟨q, 0, none⟩)]] w fun e w' => BoolIs (∃ i, i < n3 ∧ AnyK bl (kpAt ks i)) w e w' := by
 go_enter Tryz.func124, Tryz.ntmps124
 go_wp2_with fail
 refine (indexKept_any o3 n3 c3 kv ks B q y0 y1 y2 y4 y5 y6 y7 y8 y9 o4 n4 c4 bl _ hq hl hn hlz h hln hks hs hn3).mono ?_
 rintro e w1 ⟨r, rfl, hr, bw⟩
 have HRR : Hid (0 ≤ r ↔ ∃ i, i < n3 ∧ AnyK bl (kpAt ks i)) := hr
 have HBW : Hid (Below w.heap.size w w1) := bw
 clear hr bw hq hl hlz h hln hks hs
 by_cases h0 : 0 ≤ r
 ·
  have hd : decide ((0 : Int) ≤ r) = true := decide_eq_true h0
  have H0 : Hid (0 ≤ r) := h0
  go_wp2_with fail
  go_ret
  exact ⟨true, by first | rfl | (simp [H0.out]), ⟨fun _ => HRR.out.1 (by have := H0.out; omega), fun _ => rfl⟩, HBW.out⟩
 ·
  have hd : decide ((0 : Int) ≤ r) = false := decide_eq_false h0
  have H0 : Hid (¬ 0 ≤ r) := h0
  go_wp2_with fail
  go_ret
  exact ⟨false, by first | rfl | (simp [H0.out]), ⟨(fun h => nomatch h), fun h => absurd (HRR.out.2 h) (by have := H0.out; omega)⟩, HBW.out⟩
theorem knowsNoBanned_any (v1 v2 V VB F E R : Value) (kv : List (KpD × Value × Value × Value)) (fv : List FlV) (ev : List SeV) (rv : List RpV) (c : CaD) (B : Nat) (w : World) (h : CacheO w B v1 v2 V VB F E R kv fv ev rv c) (hz : CaSmall c) :
  Calls Tryz.prog 87 #[.agg #[v1, v2, V, VB, .int .i64 c.s.nx, .int .i64 c.s.sq, F, .int .i64 c.now, E, R]] w fun e w' => BoolIs (NoBanP c) w e w' := by
 obtain ⟨o1, c1, rfl⟩ := slice_of_owns h.shelf.disk.cells
 obtain ⟨o2, c2, rfl⟩ := slice_of_owns h.shelf.disk.pend
 obtain ⟨o3, c3, rfl⟩ := h.shelf.kept.len
 obtain ⟨o4, c4, rfl⟩ := slice_of_owns h.shelf.bans
 obtain ⟨o5, c5, rfl⟩ := h.fls.len
 obtain ⟨o6, c6, rfl⟩ := h.ses.len
 obtain ⟨o7, c7, rfl⟩ := h.rps.len
 obtain ⟨n3, hn3⟩ := exq kv.length
 obtain ⟨n4, hn4⟩ := exq (c.s.bl.length)
 obtain ⟨n5, hn5⟩ := exq fv.length
 obtain ⟨n6, hn6⟩ := exq ev.length
 obtain ⟨n7, hn7⟩ := exq rv.length
 rw [← hn3, ← hn4, ← hn5, ← hn6, ← hn7] at h ⊢
 have HLK : Hid (kv.length = n3) := hn3.symm
 have HLB : Hid (c.s.bl.length = n4) := hn4.symm
 have HLF : Hid (fv.length = n5) := hn5.symm
 have HLE : Hid (ev.length = n6) := hn6.symm
 have HLR : Hid (rv.length = n7) := hn7.symm
 have HLC : Hid (c.fl.length = n5 ∧ c.se.length = n6 ∧ c.sn.length = n7 ∧ c.s.ks.length = n3) := ⟨by rw [← h.hf, List.length_map, hn5], by rw [← h.he, List.length_map, hn6], by rw [← h.hr, List.length_map, hn7], by rw [← h.hk, List.length_map, hn3]⟩
 have HFD : Hid (fv.map (·.d) = c.fl) := h.hf
 have HED : Hid (ev.map (·.d) = c.se) := h.he
 have HKS : Hid (kv.map (·.1) = c.s.ks) := h.hk
 have HZ : Hid (CaSmall c) := hz
 have bn3 : n3 ≤ 1048576 := by rw [← HLC.out.2.2.2]; exact hz.s.k
 have bn4 : n4 ≤ 1048576 := by rw [← HLB.out]; exact hz.s.b
 have bn5 : n5 ≤ 1048576 := by rw [← HLC.out.1]; exact hz.nf
 have bn6 : n6 ≤ 1048576 := by rw [← HLC.out.2.1]; exact hz.ne
 have bn7 : n7 ≤ 1048576 := by rw [← HLC.out.2.2.1]; exact hz.nr
 have HCA : Hid (∀ W, Below w.heap.size w W → CacheO W B (.slice o1 c.s.cs.length c1) (.slice o2 c.s.ws.length c2) (.slice o3 n3 c3) (.slice o4 n4 c4) (.slice o5 n5 c5) (.slice o6 n6 c6) (.slice o7 n7 c7) kv fv ev rv c) := fun W hb => h.below hb
 have HKP : Hid (∀ W, Below w.heap.size w W → KeptsO W B (.slice o3 n3 c3) kv) := fun W hb => (h.below hb).shelf.kept
 have HBN : Hid (∀ W, Below w.heap.size w W → BanA W o4 n4 c.s.bl) := fun W hb => by
  have h1 := (h.below hb).shelf.bans
  rw [HLB.out] at h1
  exact ban_view h1
 have HC4 : Hid (n4 ≤ c4) := by
  have h1 := h.shelf.bans
  rw [HLB.out] at h1
  exact owns_cap h1
 clear hn3 hn4 hn5 hn6 hn7 h hz
 have hb0 : Below w.heap.size w w := Below.refl _ _
 go_enter Tryz.func87, Tryz.ntmps87
 go_upto_region 1 with fail
 obtain ⟨qv1, hqv1⟩ := exq ((w).heap.size)
 obtain ⟨w1, hW1⟩ := exq ((w).alloc (.cells #[.slice o1 c.s.cs.length c1, .slice o2 c.s.ws.length c2, .slice o3 n3 c3, .slice o4 n4 c4, .int .i64 c.s.nx, .int .i64 c.s.sq, .slice o5 n5 c5, .int .i64 c.now, .slice o6 n6 c6, .slice o7 n7 c7] 58))
 have hz1 : (w).heap.size = qv1 := hqv1.symm
 first | rw [← hW1, ← hqv1] | rw [← hW1]
 have hs1 := hsa hW1 hz1
 have bw := bal hW1
 have hb1 := hbt hb0 bw
 have HBv1_1 := hnew hW1 hz1
 clear hb0 bw hW1 hz1
 clear hs1 hqv1
 have cv1_2 := (k10c HBv1_1).2.2.1
 go_wp2_with fail
 refine (containsKept_any o3 n3 c3 kv c.s.ks B qv1 _ _ _ _ _ _ _ _ _ o4 n4 c4 c.s.bl _ HBv1_1.out (HBN.out _ hb1) (by omega) HZ.out.s.bm (HKP.out _ hb1) HLK.out HKS.out (fun x hx => HZ.out.s.kv HKS.out hx) bn3).mono ?_
 rintro e w2 ⟨uc, rfl, huc, bw⟩
 have hb2 := hbt hb1 bw
 have HBv1_2 := hblk HBv1_1 bw
 clear hb1 HBv1_1 bw
 clear cv1_2
 cases uc with
 | false =>
  have HNuc : Hid (¬ (∃ i, i < n3 ∧ AnyK c.s.bl (kpAt c.s.ks i))) := fun h => nomatch huc.2 h
  clear huc
  go_wp2_with fail
  go_ret
  exact BoolIs.yes (fun i hi hA => HNuc.out ⟨i, by rw [HLC.out.2.2.2] at hi; exact hi, hA⟩) hb2
 | true =>
  have HYuc : Hid (∃ i, i < n3 ∧ AnyK c.s.bl (kpAt c.s.ks i)) := huc.1 rfl
  clear huc
  go_wp2_with fail
  go_ret
  exact BoolIs.no (fun h => by obtain ⟨i, hi, hA⟩ := HYuc.out; exact h i (by rw [HLC.out.2.2.2]; exact hi) hA) hb2
theorem wasUnbanned_any (v1 v2 V VB F E R : Value) (kv : List (KpD × Value × Value × Value)) (fv : List FlV) (ev : List SeV) (rv : List RpV) (c : CaD) (B : Nat) (w : World) (h : CacheO w B v1 v2 V VB F E R kv fv ev rv c) (hz : CaSmall c) (a : RpD) (t3 t6 t11 t12 t14 : Value) (C : Nat) (hr : RowsO w C (rpR (⟨a, t3, t6, t11, t12, t14⟩ : RpV))) (ha : RpSmall a) :
  Calls Tryz.prog 86 #[.agg #[v1, v2, V, VB, .int .i64 c.s.nx, .int .i64 c.s.sq, F, .int .i64 c.now, E, R], .agg #[.int .i64 a.cli, .int .i64 a.qmt, .string a.qpa, t3, .string a.qbd, .int .i64 a.rst, t6, .string a.rbd, .int .i64 a.knd, .int .i64 a.tim, .string a.opa, t11, t12, .int .i64 a.ost, t14, .string a.obd, .int .i64 a.otm, .int .i64 a.bns]] w fun e w' => BoolIs (UnbanP c a) w e w' := by
 obtain ⟨o1, c1, rfl⟩ := slice_of_owns h.shelf.disk.cells
 obtain ⟨o2, c2, rfl⟩ := slice_of_owns h.shelf.disk.pend
 obtain ⟨o3, c3, rfl⟩ := h.shelf.kept.len
 obtain ⟨o4, c4, rfl⟩ := slice_of_owns h.shelf.bans
 obtain ⟨o5, c5, rfl⟩ := h.fls.len
 obtain ⟨o6, c6, rfl⟩ := h.ses.len
 obtain ⟨o7, c7, rfl⟩ := h.rps.len
 obtain ⟨n3, hn3⟩ := exq kv.length
 obtain ⟨n4, hn4⟩ := exq (c.s.bl.length)
 obtain ⟨n5, hn5⟩ := exq fv.length
 obtain ⟨n6, hn6⟩ := exq ev.length
 obtain ⟨n7, hn7⟩ := exq rv.length
 rw [← hn3, ← hn4, ← hn5, ← hn6, ← hn7] at h ⊢
 have HLK : Hid (kv.length = n3) := hn3.symm
 have HLB : Hid (c.s.bl.length = n4) := hn4.symm
 have HLF : Hid (fv.length = n5) := hn5.symm
 have HLE : Hid (ev.length = n6) := hn6.symm
 have HLR : Hid (rv.length = n7) := hn7.symm
 have HLC : Hid (c.fl.length = n5 ∧ c.se.length = n6 ∧ c.sn.length = n7 ∧ c.s.ks.length = n3) := ⟨by rw [← h.hf, List.length_map, hn5], by rw [← h.he, List.length_map, hn6], by rw [← h.hr, List.length_map, hn7], by rw [← h.hk, List.length_map, hn3]⟩
 have HFD : Hid (fv.map (·.d) = c.fl) := h.hf
 have HED : Hid (ev.map (·.d) = c.se) := h.he
 have HKS : Hid (kv.map (·.1) = c.s.ks) := h.hk
 have HZ : Hid (CaSmall c) := hz
 have bn3 : n3 ≤ 1048576 := by rw [← HLC.out.2.2.2]; exact hz.s.k
 have bn4 : n4 ≤ 1048576 := by rw [← HLB.out]; exact hz.s.b
 have bn5 : n5 ≤ 1048576 := by rw [← HLC.out.1]; exact hz.nf
 have bn6 : n6 ≤ 1048576 := by rw [← HLC.out.2.1]; exact hz.ne
 have bn7 : n7 ≤ 1048576 := by rw [← HLC.out.2.2.1]; exact hz.nr
 have HCA : Hid (∀ W, Below w.heap.size w W → CacheO W B (.slice o1 c.s.cs.length c1) (.slice o2 c.s.ws.length c2) (.slice o3 n3 c3) (.slice o4 n4 c4) (.slice o5 n5 c5) (.slice o6 n6 c6) (.slice o7 n7 c7) kv fv ev rv c) := fun W hb => h.below hb
 have HKP : Hid (∀ W, Below w.heap.size w W → KeptsO W B (.slice o3 n3 c3) kv) := fun W hb => (h.below hb).shelf.kept
 have HBN : Hid (∀ W, Below w.heap.size w W → BanA W o4 n4 c.s.bl) := fun W hb => by
  have h1 := (h.below hb).shelf.bans
  rw [HLB.out] at h1
  exact ban_view h1
 have HC4 : Hid (n4 ≤ c4) := by
  have h1 := h.shelf.bans
  rw [HLB.out] at h1
  exact owns_cap h1
 clear hn3 hn4 hn5 hn6 hn7 h hz
 obtain ⟨ka3, kac3, hu⟩ := slice_of_owns (hr.own (⟨171, 2, t3, a.qfs.length, flatF a.qfs⟩ : Rw) (by simp [rpR]))
 obtain rfl : t3 = .slice ka3 a.qfs.length kac3 := hu
 obtain ⟨ka6, kac6, hu⟩ := slice_of_owns (hr.own (⟨171, 2, t6, a.rfs.length, flatF a.rfs⟩ : Rw) (by simp [rpR]))
 obtain rfl : t6 = .slice ka6 a.rfs.length kac6 := hu
 obtain ⟨ka11, kac11, hu⟩ := slice_of_owns (hr.own (⟨9, 1, t11, a.oxs.length, a.oxs.map Value.string⟩ : Rw) (by simp [rpR]))
 obtain rfl : t11 = .slice ka11 a.oxs.length kac11 := hu
 obtain ⟨ka12, kac12, hu⟩ := slice_of_owns (hr.own (⟨9, 1, t12, a.oys.length, a.oys.map Value.string⟩ : Rw) (by simp [rpR]))
 obtain rfl : t12 = .slice ka12 a.oys.length kac12 := hu
 obtain ⟨ka14, kac14, hu⟩ := slice_of_owns (hr.own (⟨171, 2, t14, a.ofs.length, flatF a.ofs⟩ : Rw) (by simp [rpR]))
 obtain rfl : t14 = .slice ka14 a.ofs.length kac14 := hu
 have HRa : Hid (∀ W, Below w.heap.size w W → RowsO W C (rpR (⟨a, .slice ka3 a.qfs.length kac3, .slice ka6 a.rfs.length kac6, .slice ka11 a.oxs.length kac11, .slice ka12 a.oys.length kac12, .slice ka14 a.ofs.length kac14⟩ : RpV))) := fun W hb => hr.below hb
 have HSa : Hid (RpSmall a) := ha
 clear hr ha
 obtain ⟨m, hm⟩ := exq (bansN a.bns n4)
 have hmi : min (max a.bns 0) (n4 : Int) = (m : Int) := by rw [hm]; exact (bansN_impl _ _).symm
 have hm4 : m ≤ n4 := by rw [hm]; exact bansN_le _ _
 have hmc : m ≤ c4 := Nat.le_trans hm4 HC4.out
 have hmc2 : ¬ (c4 < m) := by omega
 have HMN : Hid (m = bansN a.bns c.s.bl.length) := by show _ = _; rw [HLB.out]; exact hm
 have HMI : Hid (min (max a.bns 0) (n4 : Int) = (m : Int)) := hmi
 clear hm hmi
 have hb0 : Below w.heap.size w w := Below.refl _ _
 go_enter Tryz.func86, Tryz.ntmps86
 go_upto_region 1 with fail
 obtain ⟨qv1, hqv1⟩ := exq ((w).heap.size)
 obtain ⟨w1, hW1⟩ := exq ((w).alloc (.cells #[.slice o1 c.s.cs.length c1, .slice o2 c.s.ws.length c2, .slice o3 n3 c3, .slice o4 n4 c4, .int .i64 c.s.nx, .int .i64 c.s.sq, .slice o5 n5 c5, .int .i64 c.now, .slice o6 n6 c6, .slice o7 n7 c7] 58))
 have hz1 : (w).heap.size = qv1 := hqv1.symm
 first | rw [← hW1, ← hqv1] | rw [← hW1]
 have hs1 := hsa hW1 hz1
 have bw := bal hW1
 have hb1 := hbt hb0 bw
 have HBv1_1 := hnew hW1 hz1
 clear hb0 bw hW1 hz1
 obtain ⟨qv2, hqv2⟩ := exq (qv1 + 1)
 obtain ⟨w2, hW2⟩ := exq ((w1).alloc (.cells #[.int .i64 a.cli, .int .i64 a.qmt, .string a.qpa, .slice ka3 a.qfs.length kac3, .string a.qbd, .int .i64 a.rst, .slice ka6 a.rfs.length kac6, .string a.rbd, .int .i64 a.knd, .int .i64 a.tim, .string a.opa, .slice ka11 a.oxs.length kac11, .slice ka12 a.oys.length kac12, .int .i64 a.ost, .slice ka14 a.ofs.length kac14, .string a.obd, .int .i64 a.otm, .int .i64 a.bns] 68))
 have hz2 : (w1).heap.size = qv2 := by rw [hqv2]; exact hs1
 first | rw [← hW2, ← hqv2] | rw [← hW2]
 have hs2 := hsa hW2 hz2
 have bw := bal hW2
 have hb2 := hbt hb1 bw
 have HBv1_2 := hblk HBv1_1 bw
 have HBv2_2 := hnew hW2 hz2
 clear hb1 HBv1_1 bw hW2 hz2
 clear hs2 hqv2 hs1 hqv1
 have cv1_3 := (k10c HBv1_2).2.2.2.1
 have cv2_17 : (w2).cell? ⟨qv2, 17, none⟩ = some (.int .i64 a.bns) := (cell_of HBv2_2.out 17).trans rfl
 go_upto_region 2 with fail
 clear cv1_3 cv2_17
 first | rw [HMI.out] | (have hmi2 := HMI.out; simp only [Int.min_def, Int.max_def] at hmi2; rw [hmi2]) | trace_state
 go_upto_region 2 with fail
 refine wp_region_held_drew (S := fun W => W.heap[qv1]? = some (.cells #[.slice o1 c.s.cs.length c1, .slice o2 c.s.ws.length c2, .slice o3 n3 c3, .slice o4 n4 c4, .int .i64 c.s.nx, .int .i64 c.s.sq, .slice o5 n5 c5, .int .i64 c.now, .slice o6 n6 c6, .slice o7 n7 c7] 58) ∧ W.heap[qv2]? = some (.cells #[.int .i64 a.cli, .int .i64 a.qmt, .string a.qpa, .slice ka3 a.qfs.length kac3, .string a.qbd, .int .i64 a.rst, .slice ka6 a.rfs.length kac6, .string a.rbd, .int .i64 a.knd, .int .i64 a.tim, .string a.opa, .slice ka11 a.oxs.length kac11, .slice ka12 a.oys.length kac12, .int .i64 a.ost, .slice ka14 a.ofs.length kac14, .string a.obd, .int .i64 a.otm, .int .i64 a.bns] 68)) (by kernel_rfl) ⟨HBv1_2.out, HBv2_2.out⟩ (fun _ => ?_)
 obtain ⟨w3, hX⟩ := exq w2.drew
 have bw := bdr hX
 rw [← hX]
 have hb3 := hbt hb2 bw
 have HBv1_3 := hblk HBv1_2 bw
 have HBv2_3 := hblk HBv2_2 bw
 have hS3 := And.intro HBv1_3.out HBv2_3.out
 clear hb2 HBv1_2 HBv2_2 bw hX
 refine tkP 0 (.pointer (some ⟨qv1, 0, none⟩)) 14 rfl rfl hS3 ?_
 go_frame
 refine tkP 1 (.pointer (some ⟨qv1, 3, none⟩)) 15 rfl rfl hS3 ?_
 go_frame
 refine tkL 2 (.slice o4 n4 c4) 16 rfl rfl (Or.inl ⟨by rfl, by intro W hW; obtain ⟨hhv1, hhv2⟩ := hW; have y3 := (cell_of hhv1 3).trans rfl; go_simp⟩) hS3 ?_
 go_frame
 refine tkP 3 (.int .i64 (m : Int)) 17 rfl rfl hS3 ?_
 go_frame
 refine tkP 4 (.slice o4 m c4) 18 rfl rfl hS3 ?_
 go_frame
 refine tkP 5 (.pointer (some ⟨qv2, 10, none⟩)) 19 rfl rfl hS3 ?_
 go_frame
 refine tkL 6 (.agg #[.string a.opa, .slice ka11 a.oxs.length kac11, .slice ka12 a.oys.length kac12, .int .i64 a.ost, .slice ka14 a.ofs.length kac14, .string a.obd, .int .i64 a.otm]) 20 rfl rfl (Or.inl ⟨by rfl, by intro W hW; obtain ⟨hhv1, hhv2⟩ := hW; have y10 := (cell_of hhv2 10).trans rfl; have y11 := (cell_of hhv2 11).trans rfl; have y12 := (cell_of hhv2 12).trans rfl; have y13 := (cell_of hhv2 13).trans rfl; have y14 := (cell_of hhv2 14).trans rfl; have y15 := (cell_of hhv2 15).trans rfl; have y16 := (cell_of hhv2 16).trans rfl; go_simp⟩) hS3 ?_
 go_frame
 refine rd1 7 rfl (fun K hK => ?_)
 go_simp
 refine (implHitsAny_r _ m c4 (c.s.bl.take m) a _ _ _ _ _ C _ ((HBN.out _ hb3).pre hm4) (by omega) (fun x hx => HZ.out.s.bm x (List.mem_of_mem_take hx)) (HRa.out _ hb3) HSa.out).mono ?_
 rintro e w4 ⟨ur, rfl, hur, bw⟩
 have hb4 := hbt hb3 bw
 have HBv1_4 := hblk HBv1_3 bw
 have HBv2_4 := hblk HBv2_3 bw
 clear hb3 HBv1_3 HBv2_3 bw
 have hS4 := And.intro HBv1_4.out HBv2_4.out
 refine hK.out _ _ hS4 (fun _ => ?_)
 clear hK K hS3
 cases ur with
 | false =>
  have HNur : Hid (¬ (AnyR (c.s.bl.take m) a)) := fun h => nomatch hur.2 h
  clear hur
  refine tkP 8 (.bool true) 22 rfl rfl hS4 ?_
  go_frame
  refine tkP 9 (.bool true) 4 rfl rfl hS4 ?_
  go_frame
  clear hS4
  refine wpAnyH_done (by kernel_rfl) ?_ _
  go_wp2_with fail
  go_ret
  exact BoolIs.yes (by unfold UnbanP; rw [← HMN.out]; exact HNur.out) hb4
 | true =>
  have HYur : Hid (AnyR (c.s.bl.take m) a) := hur.1 rfl
  clear hur
  refine tkP 8 (.bool false) 22 rfl rfl hS4 ?_
  go_frame
  refine tkP 9 (.bool false) 4 rfl rfl hS4 ?_
  go_frame
  clear hS4
  refine wpAnyH_done (by kernel_rfl) ?_ _
  go_wp2_with fail
  go_ret
  exact BoolIs.no (fun h => by unfold UnbanP at h; rw [← HMN.out] at h; exact h HYur.out) hb4
end Go.Proofs.YtbmhonfgffjpcaaGreat
namespace Go.Proofs.YtbmhonfgffjpcaaGreat
open Go.RowKit
open Go.Lib hiding intOf
theorem flightOk_any (d : FlD) (u2 u4 u6 u7 u9 : Value) (B : Nat) (w : World) (h : RowsO w B (flR (⟨d, u2, u4, u6, u7, u9⟩ : FlV))) (hs : FlSmall d) :
  Calls Tryz.prog 104 #[.agg #[.int .i64 d.qmt, .string d.qpa, u2, .string d.qbd, u4, .string d.opa, u6, u7, .int .i64 d.ost, u9, .string d.obd, .int .i64 d.otm, .bool d.has]] w fun e w' => BoolIs (FlOk d) w e w' := by
 obtain ⟨ku2, kuc2, hu⟩ := slice_of_owns (h.own (⟨171, 2, u2, d.qfs.length, flatF d.qfs⟩ : Rw) (by simp [flR]))
 obtain rfl : u2 = .slice ku2 d.qfs.length kuc2 := hu
 obtain ⟨ku4, kuc4, hu⟩ := slice_of_owns (h.own (⟨3, 1, u4, d.who.length, d.who.map (Value.int .i64)⟩ : Rw) (by simp [flR]))
 obtain rfl : u4 = .slice ku4 d.who.length kuc4 := hu
 obtain ⟨ku6, kuc6, hu⟩ := slice_of_owns (h.own (⟨9, 1, u6, d.oxs.length, d.oxs.map Value.string⟩ : Rw) (by simp [flR]))
 obtain rfl : u6 = .slice ku6 d.oxs.length kuc6 := hu
 obtain ⟨ku7, kuc7, hu⟩ := slice_of_owns (h.own (⟨9, 1, u7, d.oys.length, d.oys.map Value.string⟩ : Rw) (by simp [flR]))
 obtain rfl : u7 = .slice ku7 d.oys.length kuc7 := hu
 obtain ⟨ku9, kuc9, hu⟩ := slice_of_owns (h.own (⟨171, 2, u9, d.ofs.length, flatF d.ofs⟩ : Rw) (by simp [flR]))
 obtain rfl : u9 = .slice ku9 d.ofs.length kuc9 := hu
 have HRd : Hid (∀ W, Below w.heap.size w W → RowsO W B (flR (⟨d, .slice ku2 d.qfs.length kuc2, .slice ku4 d.who.length kuc4, .slice ku6 d.oxs.length kuc6, .slice ku7 d.oys.length kuc7, .slice ku9 d.ofs.length kuc9⟩ : FlV))) := fun W hb => h.below hb
 have HSd : Hid (FlSmall d) := hs
 have bwho : d.who.length ≤ 1048576 := hs.who
 clear h hs
 obtain ⟨hs, hhs⟩ := exq d.has
 rw [← hhs]
 have HHhs : Hid (hs = d.has) := hhs
 clear hhs
 have hb0 : Below w.heap.size w w := Below.refl _ _
 go_enter Tryz.func104, Tryz.ntmps104
 go_upto_region 1 with fail
 obtain ⟨qv1, hqv1⟩ := exq ((w).heap.size)
 obtain ⟨w1, hW1⟩ := exq ((w).alloc (.cells #[.int .i64 d.qmt, .string d.qpa, .slice ku2 d.qfs.length kuc2, .string d.qbd, .slice ku4 d.who.length kuc4, .string d.opa, .slice ku6 d.oxs.length kuc6, .slice ku7 d.oys.length kuc7, .int .i64 d.ost, .slice ku9 d.ofs.length kuc9, .string d.obd, .int .i64 d.otm, .bool hs] 129))
 have hz1 : (w).heap.size = qv1 := hqv1.symm
 first | rw [← hW1, ← hqv1] | rw [← hW1]
 have hs1 := hsa hW1 hz1
 have bw := bal hW1
 have hb1 := hbt hb0 bw
 have HBv1_1 := hnew hW1 hz1
 clear hb0 bw hW1 hz1
 clear hs1 hqv1
 have cv1_0 : (w1).cell? ⟨qv1, 0, none⟩ = some (.int .i64 d.qmt) := (cell_of HBv1_1.out 0).trans rfl
 have cv1_1 : (w1).cell? ⟨qv1, 1, none⟩ = some (.string d.qpa) := (cell_of HBv1_1.out 1).trans rfl
 have cv1_2 : (w1).cell? ⟨qv1, 2, none⟩ = some (.slice ku2 d.qfs.length kuc2) := (cell_of HBv1_1.out 2).trans rfl
 have cv1_3 : (w1).cell? ⟨qv1, 3, none⟩ = some (.string d.qbd) := (cell_of HBv1_1.out 3).trans rfl
 go_wp2_with fail
 refine (implReqOk_f d _ _ _ _ _ B _ (HRd.out _ hb1) HSd.out).mono ?_
 rintro e w2 ⟨ur, rfl, hur, bw⟩
 have hb2 := hbt hb1 bw
 have HBv1_2 := hblk HBv1_1 bw
 clear hb1 HBv1_1 bw
 clear cv1_0 cv1_1 cv1_2 cv1_3
 cases ur with
 | false =>
  have HNur : Hid (¬ (ReqF d)) := fun h => nomatch hur.2 h
  clear hur
  go_wp2_with fail
  go_ret
  exact BoolIs.no (fun h => HNur.out h.1) hb2
 | true =>
  have HYur : Hid (ReqF d) := hur.1 rfl
  clear hur
  by_cases hc1 : 1 ≤ (d.who.length : Int)
  ·
   have Hlo : Hid (1 ≤ (d.who.length : Int)) := hc1
   by_cases hc2 : (d.who.length : Int) ≤ 5
   ·
    have Hhi : Hid ((d.who.length : Int) ≤ 5) := hc2
    cases hs with
    | false =>
     have cv1_4 : (w2).cell? ⟨qv1, 4, none⟩ = some (.slice ku4 d.who.length kuc4) := (cell_of HBv1_2.out 4).trans rfl
     have cv1_12 : (w2).cell? ⟨qv1, 12, none⟩ = some (.bool false) := (cell_of HBv1_2.out 12).trans rfl
     go_wp2_with fail
     go_ret
     exact BoolIs.yes ⟨HYur.out, ⟨Hlo.out, Hhi.out⟩, fun h => by have e := HHhs.out; rw [h] at e; cases e⟩ hb2
    | true =>
     have cv1_4 : (w2).cell? ⟨qv1, 4, none⟩ = some (.slice ku4 d.who.length kuc4) := (cell_of HBv1_2.out 4).trans rfl
     have cv1_5 : (w2).cell? ⟨qv1, 5, none⟩ = some (.string d.opa) := (cell_of HBv1_2.out 5).trans rfl
     have cv1_6 : (w2).cell? ⟨qv1, 6, none⟩ = some (.slice ku6 d.oxs.length kuc6) := (cell_of HBv1_2.out 6).trans rfl
     have cv1_7 : (w2).cell? ⟨qv1, 7, none⟩ = some (.slice ku7 d.oys.length kuc7) := (cell_of HBv1_2.out 7).trans rfl
     have cv1_8 : (w2).cell? ⟨qv1, 8, none⟩ = some (.int .i64 d.ost) := (cell_of HBv1_2.out 8).trans rfl
     have cv1_9 : (w2).cell? ⟨qv1, 9, none⟩ = some (.slice ku9 d.ofs.length kuc9) := (cell_of HBv1_2.out 9).trans rfl
     have cv1_10 : (w2).cell? ⟨qv1, 10, none⟩ = some (.string d.obd) := (cell_of HBv1_2.out 10).trans rfl
     have cv1_11 : (w2).cell? ⟨qv1, 11, none⟩ = some (.int .i64 d.otm) := (cell_of HBv1_2.out 11).trans rfl
     have cv1_12 : (w2).cell? ⟨qv1, 12, none⟩ = some (.bool true) := (cell_of HBv1_2.out 12).trans rfl
     go_wp2_with fail
     refine (implObjOk_f d _ _ _ _ _ B _ (HRd.out _ hb2) HSd.out).mono ?_
     rintro e w3 ⟨uo, rfl, huo, bw⟩
     have hb3 := hbt hb2 bw
     have HBv1_3 := hblk HBv1_2 bw
     clear hb2 HBv1_2 bw
     clear cv1_4 cv1_5 cv1_6 cv1_7 cv1_8 cv1_9 cv1_10 cv1_11 cv1_12
     go_wp2_with fail
     go_ret
     exact ⟨uo, rfl, ⟨fun h => ⟨HYur.out, ⟨Hlo.out, Hhi.out⟩, fun _ => huo.1 h⟩, fun h => huo.2 (h.2.2 HHhs.out.symm)⟩, hb3⟩
   ·
    have Hhi : Hid (¬ ((d.who.length : Int) ≤ 5)) := hc2
    have cv1_4 : (w2).cell? ⟨qv1, 4, none⟩ = some (.slice ku4 d.who.length kuc4) := (cell_of HBv1_2.out 4).trans rfl
    go_wp2_with fail
    go_ret
    exact BoolIs.no (fun h => absurd h.2.1.2 (by have := Hhi.out; omega)) hb2
  ·
   have Hlo : Hid (¬ (1 ≤ (d.who.length : Int))) := hc1
   have cv1_4 : (w2).cell? ⟨qv1, 4, none⟩ = some (.slice ku4 d.who.length kuc4) := (cell_of HBv1_2.out 4).trans rfl
   go_wp2_with fail
   go_ret
   exact BoolIs.no (fun h => absurd h.2.1.1 (by have := Hlo.out; omega)) hb2
theorem alike1_any (d e : FlD) (u2 u4 u6 u7 u9 t2 t4 t6 t7 t9 : Value) (B C q : Nat) (w : World) (h : RowsO w B (flR (⟨d, u2, u4, u6, u7, u9⟩ : FlV))) (h2 : RowsO w C (flR (⟨e, t2, t4, t6, t7, t9⟩ : FlV))) (hd : FlSmall d) (he : FlSmall e) (hq : w.heap[q]? = some (.cells #[.int .i64 e.qmt, .string e.qpa, t2, .string e.qbd] 62)) :
  Calls Tryz.prog 138 #[.agg #[.int .i64 d.qmt, .string d.qpa, u2, .string d.qbd, u4, .string d.opa, u6, u7, .int .i64 d.ost, u9, .string d.obd, .int .i64 d.otm, .bool d.has], .pointer (some ⟨q, 0, none⟩)] w fun e' w' => BoolIs (AlikeF d e) w e' w' := by
 go_enter Tryz.func138, Tryz.ntmps138
 go_upto_region 1 with fail
 obtain ⟨q1, hq1⟩ := exq (w.heap.size)
 obtain ⟨w1, hw1⟩ := exq (w.alloc (.cells #[.int .i64 d.qmt, .string d.qpa, u2, .string d.qbd, u4, .string d.opa, u6, u7, .int .i64 d.ost, u9, .string d.obd, .int .i64 d.otm, .bool d.has] 129))
 rw [← hw1, ← hq1]
 have HX1 : Hid (w1.heap[q1]? = some (.cells #[.int .i64 d.qmt, .string d.qpa, u2, .string d.qbd, u4, .string d.opa, u6, u7, .int .i64 d.ost, u9, .string d.obd, .int .i64 d.otm, .bool d.has] 129)) := by show _ = _; rw [hw1, hq1]; exact heap_alloc_new _ _
 have bw1 : Below w.heap.size w w1 := by rw [hw1]; exact (Below.refl _ _).alloc (Nat.le_refl _) _
 have HQ1 : Hid (w1.heap[q]? = some (.cells #[.int .i64 e.qmt, .string e.qpa, t2, .string e.qbd] 62)) := blk_below hq bw1
 have H1 : Hid (RowsO w1 B (flR (⟨d, u2, u4, u6, u7, u9⟩ : FlV))) := h.below bw1
 have H2 : Hid (RowsO w1 C (flR (⟨e, t2, t4, t6, t7, t9⟩ : FlV))) := h2.below bw1
 have HB1 : Hid (Below w.heap.size w w1) := bw1
 clear hw1 bw1 hq1 hq h h2
 have c0 : w1.cell? ⟨q1, 0, none⟩ = some (.int .i64 d.qmt) := (cell_of HX1.out 0).trans rfl
 have c1 : w1.cell? ⟨q1, 1, none⟩ = some (.string d.qpa) := (cell_of HX1.out 1).trans rfl
 have c2 : w1.cell? ⟨q1, 2, none⟩ = some u2 := (cell_of HX1.out 2).trans rfl
 have c3 : w1.cell? ⟨q1, 3, none⟩ = some (.string d.qbd) := (cell_of HX1.out 3).trans rfl
 have k0 : w1.cell? ⟨q, 0, none⟩ = some (.int .i64 e.qmt) := (cell_of HQ1.out 0).trans rfl
 have k1 : w1.cell? ⟨q, 1, none⟩ = some (.string e.qpa) := (cell_of HQ1.out 1).trans rfl
 have k2 : w1.cell? ⟨q, 2, none⟩ = some t2 := (cell_of HQ1.out 2).trans rfl
 have k3 : w1.cell? ⟨q, 3, none⟩ = some (.string e.qbd) := (cell_of HQ1.out 3).trans rfl
 go_wp2_with fail
 refine (implAlike_f d e u2 u4 u6 u7 u9 t2 t4 t6 t7 t9 B C _ H1.out H2.out hd he).mono ?_
 rintro e' w2 ⟨b, rfl, hb, bw⟩
 have HB2 : Hid (Below w.heap.size w w2) := HB1.out.trans (bw.mono HB1.out.size)
 have HBB : Hid (b = true ↔ AlikeF d e) := hb
 clear c0 c1 c2 c3 k0 k1 k2 k3 HX1 HQ1 H1 H2 HB1 bw hb
 go_wp2_with fail
 go_ret
 exact ⟨b, rfl, HBB.out, HB2.out⟩
/-- A call answers a place, or less than none: whether one of the first is alike. -/
def PlaceIs (fl : List FlD) (m : Nat) (e : FlD) (w : World) (e' : Ending) (w' : World) : Prop := ∃ r : Int, e' = .returned (.int .i64 r) ∧ (0 ≤ r ↔ ∃ k, k < m ∧ AlikeF (flAt fl k) e) ∧ Below w.heap.size w w'
theorem indexFl_any (V : Value) (fv : List FlV) (fl : List FlD) (o5 : Option Addr) (m cp q : Nat) (e : FlD) (t2 t4 t6 t7 t9 : Value) (B C : Nat) (w : World) (hV : ∃ c, V = .slice o5 fv.length c) (h : FlsO w B V fv) (hfd : fv.map (·.d) = fl) (hs : ∀ x ∈ fv, FlSmall x.d) (hm : m ≤ fv.length) (hm2 : m ≤ 1048576) (h2 : RowsO w C (flR (⟨e, t2, t4, t6, t7, t9⟩ : FlV))) (he : FlSmall e) (hq : w.heap[q]? = some (.cells #[.int .i64 e.qmt, .string e.qpa, t2, .string e.qbd] 62)) :
  Calls Tryz.prog 137 #[.slice o5 m cp, .func (.func 138) #[] #[.pointer (some ⟨q, 0, none⟩)]] w fun e' w' => PlaceIs fl m e w e' w' := by
 have hcf : ∀ (args : Array Value) (W : World), (callFunc 138 args).run Tryz.prog W = .ok (.enter 138 args) W := enters_of Tryz.func138 (by kernel_rfl) rfl
 have HFL : Hid (∀ W, Below w.heap.size w W → FlsO W B V fv) := fun W hb => h.below hb
 have HFD : Hid (fv.map (·.d) = fl) := hfd
 have HFS : Hid (∀ x ∈ fv, FlSmall x.d) := hs
 have HM : Hid (m ≤ fv.length) := hm
 have HV : Hid (∃ c, V = .slice o5 fv.length c) := hV
 have HR2 : Hid (∀ W, Below w.heap.size w W → RowsO W C (flR (⟨e, t2, t4, t6, t7, t9⟩ : FlV))) := fun W hb => h2.below hb
 have HQ : Hid (∀ W, Below w.heap.size w W → W.heap[q]? = some (.cells #[.int .i64 e.qmt, .string e.qpa, t2, .string e.qbd] 62)) := fun W hb => blk_below hq hb
 clear h hfd hs hm hV h2 hq
 go_enter Tryz.func137, Tryz.ntmps137
 go_wp2
 go_loopw [8] (fun i wr => ∃ k : Nat, k ≤ m ∧ i = .int .i64 (k : Int) ∧ Hid (∀ j, j < k → ¬ AlikeF (flAt fl j) e) ∧ Hid (Below w.heap.size w wr)) (fun i _ => m - (intOf i).toNat)
 case atStart => exact ⟨0, Nat.zero_le _, rfl, fun j hj => absurd hj (by omega), Below.refl _ _⟩
 case round =>
  obtain ⟨k, hk, rfl, HN, HBW⟩ := hrel
  by_cases hlt : k < m
  ·
   have hlt2 : (k : Int) < (m : Int) := by omega
   obtain ⟨g5, p5, hV, _, hat⟩ := (HFL.out wr HBW.out).look k (Nat.lt_of_lt_of_le hlt HM.out)
   obtain ⟨cc, hcc⟩ := HV.out
   rw [hcc] at hV
   injection hV with hV1 _ _
   subst hV1
   obtain ⟨x, hx⟩ := exq (flvAt fv k)
   have HMx : Hid (x ∈ fv) := by show _ ∈ _; rw [hx]; exact getD_mem0 _ fv k (Nat.lt_of_lt_of_le hlt HM.out)
   have HEx : Hid (flAt fl k = x.d) := by show _ = _; rw [hx, ← HFD.out]; exact getD_map0 _ _ _ fv k (Nat.lt_of_lt_of_le hlt HM.out)
   rw [← hx] at hat
   have HRx : Hid (∀ W, Below w.heap.size w W → RowsO W B (flR x)) := fun W hb => (HFL.out W hb).item HMx.out
   have HSx : Hid (FlSmall x.d) := HFS.out _ HMx.out
   clear hx hcc
   obtain ⟨d, u2v, u4v, u6v, u7v, u9v⟩ := x
   have r0 := hat.c0
   have r1 := hat.c1
   have r2 := hat.c2
   have r3 := hat.c3
   have r4 := hat.c4
   have r5 := hat.c5
   have r6 := hat.c6
   have r7 := hat.c7
   have r8 := hat.c8
   have r9 := hat.c9
   have r10 := hat.c10
   have r11 := hat.c11
   have r12 := hat.c12
   dsimp only at r0 r1 r2 r3 r4 r5 r6 r7 r8 r9 r10 r11 r12 HEx HSx
   clear hat
   go_wp2_with fail
   refine (alike1_any d e u2v u4v u6v u7v u9v t2 t4 t6 t7 t9 B C q _ (HRx.out _ HBW.out) (HR2.out _ HBW.out) HSx.out he (HQ.out _ HBW.out)).mono ?_
   rintro e' w1 ⟨b, rfl, hb, bw⟩
   have HB2 : Hid (Below w.heap.size w w1) := HBW.out.trans (bw.mono HBW.out.size)
   have HBB : Hid (b = true ↔ AlikeF d e) := hb
   clear r0 r1 r2 r3 r4 r5 r6 r7 r8 r9 r10 r11 r12 bw hb
   cases b with
   | true =>
    have HY : Hid (∃ k, k < m ∧ AlikeF (flAt fl k) e) := ⟨k, hlt, by rw [HEx.out]; exact HBB.out.1 rfl⟩
    go_wp2_with fail
    go_ret
    exact ⟨(k : Int), rfl, ⟨fun _ => HY.out, fun _ => by omega⟩, HB2.out⟩
   | false =>
    have HN2 : Hid (∀ j, j < k + 1 → ¬ AlikeF (flAt fl j) e) := fun j hj => by
     by_cases ej : j = k
     ·
      subst ej
      rw [HEx.out]
      exact fun h => nomatch HBB.out.2 h
     · exact HN.out j (by omega)
    go_wp2_with fail
    go_roundw
    case rel => exact ⟨k + 1, by omega, by go_num, HN2, HB2⟩
    case measure => simp [intOf]; omega
  ·
   obtain rfl : k = m := by omega
   go_wp2_with fail
   go_ret
   exact ⟨-1, rfl, ⟨fun h => absurd h (by omega), fun ⟨j, hj, hA⟩ => absurd hA (HN.out j hj)⟩, HBW.out⟩
theorem alikePlace_any (V : Value) (fv : List FlV) (fl : List FlD) (o5 : Option Addr) (m cp : Nat) (e : FlD) (t2 t4 t6 t7 t9 : Value) (B C : Nat) (w : World) (hV : ∃ c, V = .slice o5 fv.length c) (h : FlsO w B V fv) (hfd : fv.map (·.d) = fl) (hs : ∀ x ∈ fv, FlSmall x.d) (hm : m ≤ fv.length) (hm2 : m ≤ 1048576) (h2 : RowsO w C (flR (⟨e, t2, t4, t6, t7, t9⟩ : FlV))) (he : FlSmall e) :
  Calls Tryz.prog 105 #[.slice o5 m cp, .agg #[.int .i64 e.qmt, .string e.qpa, t2, .string e.qbd]] w fun e' w' => PlaceIs fl m e w e' w' := by
 go_enter Tryz.func105, Tryz.ntmps105
 go_upto_region 1 with fail
 obtain ⟨q1, hq1⟩ := exq (w.heap.size)
 obtain ⟨w1, hw1⟩ := exq (w.alloc (.cells #[.int .i64 e.qmt, .string e.qpa, t2, .string e.qbd] 62))
 rw [← hw1, ← hq1]
 have HX1 : Hid (w1.heap[q1]? = some (.cells #[.int .i64 e.qmt, .string e.qpa, t2, .string e.qbd] 62)) := by show _ = _; rw [hw1, hq1]; exact heap_alloc_new _ _
 have HB1 : Hid (Below w.heap.size w w1) := by show Below _ _ _; rw [hw1]; exact (Below.refl _ _).alloc (Nat.le_refl _) _
 have H1 : Hid (FlsO w1 B V fv) := h.below HB1.out
 have H2 : Hid (RowsO w1 C (flR (⟨e, t2, t4, t6, t7, t9⟩ : FlV))) := h2.below HB1.out
 clear hw1 hq1 h h2
 go_wp2_with fail
 refine (indexFl_any V fv fl o5 m cp q1 e t2 t4 t6 t7 t9 B C _ hV H1.out hfd hs hm hm2 H2.out he HX1.out).mono ?_
 rintro e' w2 ⟨r, rfl, hr, bw⟩
 have HB2 : Hid (Below w.heap.size w w2) := HB1.out.trans (bw.mono HB1.out.size)
 have HRR : Hid (0 ≤ r ↔ ∃ k, k < m ∧ AlikeF (flAt fl k) e) := hr
 clear HX1 HB1 H1 H2 bw hr hV hfd hs
 go_wp2_with fail
 go_ret
 exact ⟨r, rfl, HRR.out, HB2.out⟩
end Go.Proofs.YtbmhonfgffjpcaaGreat
namespace Go.Proofs.YtbmhonfgffjpcaaGreat
open Go.RowKit
open Go.Lib hiding intOf
/-- One that is known, as a value. -/
def kpX (x : KpD × Value × Value × Value) : Value := .agg #[.string x.1.p, x.2.1, x.2.2.1, .int .i64 x.1.st, x.2.2.2, .string x.1.b, .int .i64 x.1.t, .int .i64 x.1.a, .int .i64 x.1.q]
/-- An element of the map is told as itself. -/
def mpR (v : Value) : Option (DataW Value × List MemPlace) := some (.held v, [])
/-- No two in one cell. -/
def ApartA (kv : List (KpD × Value × Value × Value)) : Prop := kv.Pairwise (fun x y => x.1.a ≠ y.1.a)
/-- The map holds just these, each at its cell. -/
def MapIs (D : DataW Value) (kv : List (KpD × Value × Value × Value)) : Prop := (∀ a : Int, Maps.has D (.int .i64 a) = true ↔ ∃ x ∈ kv, x.1.a = a) ∧ ∀ x ∈ kv, ∀ z, D.atKey (.int .i64 x.1.a) z = .held (kpX x)
theorem lit_ne {a b : Int} (h : a ≠ b) : (Lit.int .i64 a) ≠ Lit.int .i64 b := fun e => h (by injection e)
theorem MapIs.nil : MapIs (.map []) [] := ⟨fun a => by simp [Maps.has], fun x hx => by simp at hx⟩
theorem has_put_int {D : DataW Value} (hD : Maps.IsMap D) (a b : Int) (d : DataW Value) : Maps.has (D.put (.int .i64 b) d) (.int .i64 a) = (decide (a = b) || Maps.has D (.int .i64 a)) := by
 by_cases h : a = b
 ·
  subst h
  rw [Maps.has_put_same hD (show WideAt.IsKeyLit (.int .i64 _) from trivial)]
  simp
 ·
  rw [Maps.has_put_other (lit_ne h), decide_eq_false h]
  rfl
/-- One more at a cell that is free. -/
theorem MapIs.put {D : DataW Value} {kv : List (KpD × Value × Value × Value)} (h : MapIs D kv) (hD : Maps.IsMap D) (y : KpD × Value × Value × Value) (hy : ∀ x ∈ kv, x.1.a ≠ y.1.a) : MapIs (D.put (.int .i64 y.1.a) (.held (kpX y))) (kv ++ [y]) := by
 refine ⟨fun a => ?_, fun x hx z => ?_⟩
 ·
  rw [has_put_int hD, Bool.or_eq_true, decide_eq_true_iff, h.1 a]
  constructor
  ·
   rintro (rfl | ⟨x, hx, e⟩)
   · exact ⟨y, by simp, rfl⟩
   · exact ⟨x, by simp [hx], e⟩
  ·
   rintro ⟨x, hx, e⟩
   rcases List.mem_append.1 hx with hx | hx
   · exact .inr ⟨x, hx, e⟩
   ·
    rw [List.mem_singleton.1 hx] at e
    exact .inl e.symm
 ·
  rcases List.mem_append.1 hx with hx | hx
  ·
   rw [Maps.atKey_put_other (lit_ne (hy x hx))]
   exact h.2 x hx z
  ·
   rw [List.mem_singleton.1 hx]
   exact Maps.atKey_put_same hD (show WideAt.IsKeyLit (.int .i64 _) from trivial) _ _
/-- What a map tells of how many there are. -/
structure MapN (D : DataW Value) (kv : List (KpD × Value × Value × Value)) : Prop where
 tidy : Maps.Tidy D
 has : ∀ a : Int, Maps.has D (.int .i64 a) = true ↔ ∃ x ∈ kv, x.1.a = a
 le : Maps.size D ≤ kv.length
 eq : Maps.size D = kv.length ↔ ApartA kv
 is : ApartA kv → MapIs D kv
theorem MapN.nil : MapN (.map []) [] := ⟨Maps.tidy_empty, MapIs.nil.1, Nat.le_refl _, ⟨fun _ => List.Pairwise.nil, fun _ => rfl⟩, fun _ => MapIs.nil⟩
theorem apart_snoc {kv : List (KpD × Value × Value × Value)} {y : KpD × Value × Value × Value} : ApartA (kv ++ [y]) ↔ ApartA kv ∧ ∀ x ∈ kv, x.1.a ≠ y.1.a := by
 unfold ApartA
 rw [List.pairwise_append]
 simp
theorem MapN.put {D : DataW Value} {kv : List (KpD × Value × Value × Value)} (h : MapN D kv) (y : KpD × Value × Value × Value) : MapN (D.put (.int .i64 y.1.a) (.held (kpX y))) (kv ++ [y]) := by
 have hD := h.tidy.isMap
 have hs := Maps.size_put (k := .int .i64 y.1.a) h.tidy (.held (kpX y))
 have hle := h.le
 refine ⟨h.tidy.put (show WideAt.IsKeyLit (.int .i64 _) from trivial) _, fun a => ?_, ?_, ?_, fun ha => ?_⟩
 ·
  rw [has_put_int hD, Bool.or_eq_true, decide_eq_true_iff, h.has a]
  constructor
  ·
   rintro (rfl | ⟨x, hx, e⟩)
   · exact ⟨y, by simp, rfl⟩
   · exact ⟨x, by simp [hx], e⟩
  ·
   rintro ⟨x, hx, e⟩
   rcases List.mem_append.1 hx with hx | hx
   · exact .inr ⟨x, hx, e⟩
   ·
    rw [List.mem_singleton.1 hx] at e
    exact .inl e.symm
 ·
  rw [hs, List.length_append, List.length_singleton]
  split <;> omega
 ·
  rw [hs, List.length_append, List.length_singleton, apart_snoc, ← h.eq]
  by_cases e : Maps.has D (.int .i64 y.1.a) = true
  ·
   rw [if_pos e]
   obtain ⟨x, hx, ex⟩ := (h.has _).1 e
   constructor
   · intro h1; omega
   · rintro ⟨_, h2⟩; exact absurd ex (h2 x hx)
  ·
   rw [if_neg e]
   constructor
   · intro h1; exact ⟨by omega, fun x hx ex => e ((h.has _).2 ⟨x, hx, ex⟩)⟩
   · rintro ⟨h1, _⟩; omega
 ·
  obtain ⟨h1, h2⟩ := apart_snoc.1 ha
  exact (h.is h1).put hD y h2
theorem run_makeMap_hint {P : Program} {t k e : TypeId} (hu : P.underlying t = some (.map k e)) (n : Int) (w : World) : (Instr.makeMap t (some (.int .i64 n))).run P w = .ok (.map (some w.heap.size)) (w.alloc (.map #[] 0)) := by
 simp [Instr.makeMap, run_underlying hu, asInt, asIntOf, Result.andThen]
theorem map_below {P : Program} {k : TypeId} {R : Value → Option (DataW Value × List MemPlace)} {w w' : World} {b n : Nat} {D : DataW Value} (h : w.ownsMap P k R b n D) (hb : Below w.heap.size w w') : w'.ownsMap P k R b n D := by
 have hlt := h.lt
 obtain ⟨es, clock, h1, h2⟩ := h
 exact ⟨es, clock, (hb.block b hlt).trans h1, h2⟩
theorem map_ne {P : Program} {k : TypeId} {R : Value → Option (DataW Value × List MemPlace)} {w : World} {b n q : Nat} {D : DataW Value} {cs : Array Value} {T : TypeId} {fr : Nat × Nat} (h : w.ownsMap P k R b n D) (hq : w.heap[q]? = some (.cells cs T fr)) : b ≠ q := by
 obtain ⟨es, clock, h1, _⟩ := h
 intro e
 subst e
 rw [h1] at hq
 cases hq
theorem map_blk {P : Program} {k : TypeId} {R : Value → Option (DataW Value × List MemPlace)} {w w' : World} {b n q : Nat} {D : DataW Value} {cs : Array Value} {T : TypeId} {fr : Nat × Nat} (h : w.ownsMap P k R b n D) (hq : w.heap[q]? = some (.cells cs T fr)) (hg : w.grownBy w' (some b)) : w'.heap[q]? = some (.cells cs T fr) :=
 (hg.block q (Array.getElem?_eq_some_iff.1 hq).1 (fun e => map_ne h hq (Option.some.inj e).symm)).trans hq
/-- The keys' type. -/
theorem keyInt : Maps.Keyed Tryz.prog 3 := Maps.int_keyed Tryz.underlying3
theorem key_wf {a : Int} (h0 : 0 ≤ a) (h1 : a ≤ 1000) : keyOf Tryz.prog 3 (.int .i64 a) = some (.int .i64 a) := Maps.keyOf_int_mk Tryz.underlying3 (WalkArith.wf_i64 (by omega))
/-- A map of what is known, in a block of one's own. -/
def KnownO (w : World) (b n : Nat) (D : DataW Value) : Prop := w.ownsMap Tryz.prog 3 mpR b n D
/-- A call answers a map of its own that holds these. -/
def KnownIs (kv : List (KpD × Value × Value × Value)) (w : World) (e : Ending) (w' : World) : Prop := ∃ (b n : Nat) (D : DataW Value), e = .returned (.map (some b)) ∧ n ≤ kv.length ∧ KnownO w' b n D ∧ MapN D kv ∧ w.heap.size ≤ b ∧ Below w.heap.size w w'
end Go.Proofs.YtbmhonfgffjpcaaGreat
namespace Go.Proofs.YtbmhonfgffjpcaaGreat
open Go.RowKit
open Go.Lib hiding intOf
/-- Texts as an array's cells. -/
def cellsA (l : List ByteArray) : Array Value := (l.map Value.string).toArray
/-- Twenty empty texts. -/
def noneA : List ByteArray := List.replicate 20 ⟨#[]⟩
/-- The cells with one written. -/
def withP (l : List ByteArray) (x : Int) (t : ByteArray) : List ByteArray := if 0 ≤ x ∧ x < 20 then l.set x.toNat t else l
/-- A call answers an array of texts. -/
def ArrIs (l : List ByteArray) (w : World) (e : Ending) (w' : World) : Prop := e = .returned (.agg (cellsA l)) ∧ Below w.heap.size w w'
theorem cellsA_size (l : List ByteArray) : (cellsA l).size = l.length := by simp [cellsA]
theorem cellsA_at (l : List ByteArray) (i : Nat) (h : i < l.length) : (cellsA l)[i]? = some (.string (textAt l i)) := by
 unfold cellsA
 rw [List.getElem?_toArray, List.getElem?_map, getElem_textAt l i h]
 rfl
theorem cellsA_set (l : List ByteArray) (i : Nat) (t : ByteArray) : (cellsA l).setIfInBounds i (.string t) = cellsA (l.set i t) := by
 unfold cellsA
 rw [List.setIfInBounds_toArray, List.map_set]
theorem noneA_len : noneA.length = 20 := rfl
theorem noneA_cells : cellsA noneA = #[.string ⟨#[]⟩, .string ⟨#[]⟩, .string ⟨#[]⟩, .string ⟨#[]⟩, .string ⟨#[]⟩, .string ⟨#[]⟩, .string ⟨#[]⟩, .string ⟨#[]⟩, .string ⟨#[]⟩, .string ⟨#[]⟩, .string ⟨#[]⟩, .string ⟨#[]⟩, .string ⟨#[]⟩, .string ⟨#[]⟩, .string ⟨#[]⟩, .string ⟨#[]⟩, .string ⟨#[]⟩, .string ⟨#[]⟩, .string ⟨#[]⟩, .string ⟨#[]⟩] := rfl
theorem withP_len (l : List ByteArray) (x : Int) (t : ByteArray) : (withP l x t).length = l.length := by
 unfold withP
 split
 · exact List.length_set
 · rfl
theorem infoA {l : List ByteArray} (h : l.length = 20) : (Tryz.prog.info? 219).map (·.size) = some (cellsA l).size := by
 rw [cellsA_size, h]
 kernel_rfl
theorem cellsA_one (l : List ByteArray) : (cellsA l).all (·.oneCell') = true := by
 unfold cellsA
 rw [List.all_toArray, List.all_eq_true]
 intro v hv
 obtain ⟨a, _, rfl⟩ := List.mem_map.1 hv
 rfl
theorem below_setRow {B : Nat} {a w : World} (h : Below B a w) (g : Nat) (cs : Array Value) (hg : B ≤ g) : Below B a (w.setRow g cs) :=
 h.trans ⟨rfl, rfl, rfl, by simp, fun k hk => setRow_other w g k cs (by omega)⟩
theorem new1 {w : World} {A B C : Obj} : (((w.alloc A).alloc B).alloc C).heap[w.heap.size]? = some A := blk_alloc (blk_alloc (heap_alloc_new w A) B) C
theorem new2 {w : World} {A B C : Obj} : (((w.alloc A).alloc B).alloc C).heap[w.heap.size + 1]? = some B := blk_alloc (heap_alloc2_new w A B) C
theorem new3 {w : World} {A B C : Obj} : (((w.alloc A).alloc B).alloc C).heap[w.heap.size + 1 + 1]? = some C := by
 have h := heap_alloc_new ((w.alloc A).alloc B) C
 have e : ((w.alloc A).alloc B).heap.size = w.heap.size + 1 + 1 := by simp
 rwa [e] at h
theorem new_below {w : World} {A B C : Obj} : Below w.heap.size w (((w.alloc A).alloc B).alloc C) :=
 (((Below.refl _ _).alloc (Nat.le_refl _) _).alloc (by simp) _).alloc (by simp; omega) _
theorem with_any (l : List ByteArray) (hl : l.length = 20) (x : Int) (t : ByteArray) (w : World) :
  Calls Tryz.prog 152 #[.agg (cellsA l), .agg #[.int .i64 x, .string t]] w fun e w' => ArrIs (withP l x t) w e w' := by
 have HL : Hid (l.length = 20) := hl
 have HLW : Hid ((withP l x t).length = 20) := (withP_len l x t).trans hl
 clear hl
 go_enter Tryz.func152, Tryz.ntmps152
 go_upto_region 1 with fail
 obtain ⟨w3, hw3⟩ := exq (((w.alloc (.cells (cellsA l) 219)).alloc (.cells #[.int .i64 x, .string t] 199)).alloc (.cells #[.string ⟨#[]⟩, .string ⟨#[]⟩, .string ⟨#[]⟩, .string ⟨#[]⟩, .string ⟨#[]⟩, .string ⟨#[]⟩, .string ⟨#[]⟩, .string ⟨#[]⟩, .string ⟨#[]⟩, .string ⟨#[]⟩, .string ⟨#[]⟩, .string ⟨#[]⟩, .string ⟨#[]⟩, .string ⟨#[]⟩, .string ⟨#[]⟩, .string ⟨#[]⟩, .string ⟨#[]⟩, .string ⟨#[]⟩, .string ⟨#[]⟩, .string ⟨#[]⟩] 219))
 rw [← hw3]
 have HBW : Hid (Below w.heap.size w w3) := by rw [hw3]; exact new_below
 have hA : w3.heap[w.heap.size]? = some (.cells (cellsA l) 219) := by rw [hw3]; exact new1
 have hB : w3.heap[w.heap.size + 1]? = some (.cells #[.int .i64 x, .string t] 199) := by rw [hw3]; exact new2
 have hC : w3.heap[w.heap.size + 1 + 1]? = some (.cells (cellsA noneA) 219) := by rw [hw3]; exact new3
 obtain ⟨q, hq⟩ := exq (w.heap.size)
 have HQ : Hid (w.heap.size ≤ q) := by rw [hq]; exact Nat.le_refl _
 rw [← hq] at hA hB hC
 rw [← hq]
 have HA : Hid (w3.heap[q]? = some (.cells (cellsA l) 219)) := hA
 have HC : Hid (w3.heap[q + 1 + 1]? = some (.cells (cellsA noneA) 219)) := hC
 have c0 := (cell_of hB 0)
 have c1 := (cell_of hB 1)
 simp only [List.getElem?_toArray, List.getElem?_cons_zero, List.getElem?_cons_succ] at c0 c1
 clear hw3 hA hB hC hq
 by_cases h0 : 0 ≤ x
 ·
  by_cases h1 : x < 20
  ·
   have HE : Hid (withP l x t = l.set x.toNat t) := by unfold withP; rw [Hid, if_pos ⟨h0, h1⟩]
   have c2 : w3.cell? ⟨q, x.toNat, none⟩ = some (.string (textAt l x.toNat)) := (cell_of HA.out _).trans (cellsA_at l _ (by rw [HL.out]; omega))
   have c3 := frozen_of HA.out x.toNat
   go_upto_region 3 with fail
   obtain ⟨w4, hw4⟩ := exq (w3.setCell ⟨q, x.toNat, none⟩ (.string t))
   rw [← hw4]
   have HA4 : Hid (w4.heap[q]? = some (.cells (cellsA (withP l x t)) 219)) := by
    rw [Hid, hw4, HE.out, ← cellsA_set]
    exact heap_setCell_same w3 q _ _ 219 _ HA.out
   have HC4 : Hid (w4.heap[q + 1 + 1]? = some (.cells (cellsA noneA) 219)) := by
    rw [Hid, hw4, heap_setCell_other w3 _ _ _ (by simp; omega)]
    exact HC.out
   have HB4 : Hid (Below w.heap.size w w4) := by rw [hw4]; exact HBW.out.setCell HQ.out _
   clear hw4 HA HC HBW c0 c1 c2 c3 h0 h1
   go_wp2_with (first | refine wpList_load_row rfl 219 _ rfl q rfl 219 _ (0, 0) _ HA4.out Tryz.underlying219 rfl (infoA HLW.out) ?_ | refine wpList_store_row rfl 219 _ _ rfl (q + 1 + 1) _ rfl rfl 219 _ HC4.out (infoA HLW.out) (by rw [cellsA_size, cellsA_size, HLW.out, noneA_len]) (cellsA_one _) ?_)
   exact bodyPost_ret (v := .agg (cellsA (withP l x t))) (results_cell_row Tryz.results152 _ _ (q + 1 + 1) 219 _ (0, 0) _ rfl (setRow_heap _ _ _ _ _ _ HC4.out) Tryz.underlying219 rfl (infoA HLW.out)) rfl ⟨rfl, below_setRow HB4.out _ _ (Nat.le_trans HQ.out (by omega))⟩
  ·
   have HE : Hid (withP l x t = l) := by unfold withP; rw [Hid, if_neg (fun h => h1 h.2)]
   go_upto_region 3 with fail
   clear c0 c1 h0 h1
   rw [← HE.out] at HA
   go_wp2_with (first | refine wpList_load_row rfl 219 _ rfl q rfl 219 _ (0, 0) _ HA.out Tryz.underlying219 rfl (infoA HLW.out) ?_ | refine wpList_store_row rfl 219 _ _ rfl (q + 1 + 1) _ rfl rfl 219 _ HC.out (infoA HLW.out) (by rw [cellsA_size, cellsA_size, HLW.out, noneA_len]) (cellsA_one _) ?_)
   exact bodyPost_ret (v := .agg (cellsA (withP l x t))) (results_cell_row Tryz.results152 _ _ (q + 1 + 1) 219 _ (0, 0) _ rfl (setRow_heap _ _ _ _ _ _ HC.out) Tryz.underlying219 rfl (infoA HLW.out)) rfl ⟨rfl, below_setRow HBW.out _ _ (Nat.le_trans HQ.out (by omega))⟩
 ·
  have HE : Hid (withP l x t = l) := by unfold withP; rw [Hid, if_neg (fun h => h0 h.1)]
  go_upto_region 3 with fail
  clear c0 c1 h0
  rw [← HE.out] at HA
  go_wp2_with (first | refine wpList_load_row rfl 219 _ rfl q rfl 219 _ (0, 0) _ HA.out Tryz.underlying219 rfl (infoA HLW.out) ?_ | refine wpList_store_row rfl 219 _ _ rfl (q + 1 + 1) _ rfl rfl 219 _ HC.out (infoA HLW.out) (by rw [cellsA_size, cellsA_size, HLW.out, noneA_len]) (cellsA_one _) ?_)
  exact bodyPost_ret (v := .agg (cellsA (withP l x t))) (results_cell_row Tryz.results152 _ _ (q + 1 + 1) 219 _ (0, 0) _ rfl (setRow_heap _ _ _ _ _ _ HC.out) Tryz.underlying219 rfl (infoA HLW.out)) rfl ⟨rfl, below_setRow HBW.out _ _ (Nat.le_trans HQ.out (by omega))⟩
end Go.Proofs.YtbmhonfgffjpcaaGreat
namespace Go.Proofs.YtbmhonfgffjpcaaGreat
open Go.RowKit
open Go.Lib hiding intOf
/-- Every write is to a cell. -/
def AllIn (ws : List (Int × ByteArray)) : Prop := ∀ x ∈ ws, 0 ≤ x.1 ∧ x.1 ≤ 19
theorem guardA : Tryz.prog.eqGuardType Tryz.prog.depth 219 = false := by kernel_rfl
theorem equalA (xs ys : List ByteArray) (hx : xs.length = 20) (hy : ys.length = 20) (w : World) :
  (Op.equalIn 10000 219 (.agg (cellsA xs)) (.agg (cellsA ys))).run Tryz.prog w = .ok ((List.range' 0 20 1).all (fun i => (textAt xs i).toList == (textAt ys i).toList)) w := by
 rw [show (10000 : Nat) = 9999 + 1 from rfl, Op.equalIn]
 simp only [Sem.run_bind, run_underlying Tryz.underlying219, Result.andThen_ok, Tryz.sizeOf9, Std.Legacy.Range.forIn_eq_forIn_range', Std.Legacy.Range.size, Nat.sub_zero, Nat.add_sub_cancel, Nat.div_one]
 have hl : ∀ i ∈ List.range' 0 20 1, i < 20 := fun i hi => by simpa using (List.mem_range'_1.1 hi).2
 generalize List.range' 0 20 1 = l at hl ⊢
 induction l with
 | nil => simp
 | cons i l ih =>
  have hi : i < 20 := hl i (by simp)
  have px : ∀ zs : List ByteArray, zs.length = 20 → (part 9 (cellsA zs) (i * 1)).run Tryz.prog w = .ok (.string (textAt zs i)) w := fun zs hz => by
   simp [part, Tryz.isAgg9, cellsA_at zs i (by omega)]
  have pe : (Op.equalIn 9999 9 (.string (textAt xs i)) (.string (textAt ys i))).run Tryz.prog w = .ok ((textAt xs i).toList == (textAt ys i).toList) w := run_equalIn_string w 9998 9 _ _ Tryz.underlying9
  simp only [List.forIn_cons, Sem.run_bind, px xs hx, px ys hy, pe, Result.andThen_ok, List.all_cons]
  cases hb : ((textAt xs i).toList == (textAt ys i).toList)
  · simp
  ·
   simp only [Bool.not_true, Bool.false_eq_true, if_false, Sem.run_pure, Result.andThen_ok, Bool.true_and]
   exact ih fun j hj => hl j (by simp [hj])
theorem neqA (xs ys : List ByteArray) (hx : xs.length = 20) (hy : ys.length = 20) (w : World) :
  (binOp .neq 219 (.agg (cellsA xs)) (.agg (cellsA ys))).run Tryz.prog w = .ok (.bool (!((List.range' 0 20 1).all (fun i => (textAt xs i).toList == (textAt ys i).toList)))) w := by
 rw [run_neq_struct, equalA xs ys hx hy]
 rfl
theorem neq_in (x : Int) (h : 0 ≤ x ∧ x ≤ 19) (w : World) : (binOp .neq 219 (.agg (cellsA (withP noneA x ⟨#[120]⟩))) (.agg #[.string ⟨#[]⟩, .string ⟨#[]⟩, .string ⟨#[]⟩, .string ⟨#[]⟩, .string ⟨#[]⟩, .string ⟨#[]⟩, .string ⟨#[]⟩, .string ⟨#[]⟩, .string ⟨#[]⟩, .string ⟨#[]⟩, .string ⟨#[]⟩, .string ⟨#[]⟩, .string ⟨#[]⟩, .string ⟨#[]⟩, .string ⟨#[]⟩, .string ⟨#[]⟩, .string ⟨#[]⟩, .string ⟨#[]⟩, .string ⟨#[]⟩, .string ⟨#[]⟩])).run Tryz.prog w = .ok (.bool true) w := by
 have h1 := neqA (withP noneA x ⟨#[120]⟩) noneA (withP_len _ _ _) rfl w
 rw [noneA_cells] at h1
 rw [h1]
 have h2 : textAt (withP noneA x ⟨#[120]⟩) x.toNat = ⟨#[120]⟩ := by
  unfold withP
  rw [if_pos ⟨h.1, by omega⟩, textAt_set, if_pos ⟨rfl, by rw [noneA_len]; omega⟩]
 have h3 : textAt noneA x.toNat = ⟨#[]⟩ := by
  unfold textAt noneA
  rw [List.getD_eq_getElem?_getD, List.getElem?_replicate, if_pos (by omega)]
  rfl
 have h4 : ((List.range' 0 20 1).all (fun i => (textAt (withP noneA x ⟨#[120]⟩) i).toList == (textAt noneA i).toList)) = false := by
  rw [List.all_eq_false]
  refine ⟨x.toNat, List.mem_range'_1.2 ⟨by omega, by omega⟩, ?_⟩
  rw [h2, h3, ← beq_toListBytes]
  decide
 rw [h4]
 rfl
theorem neq_out (x : Int) (h : ¬ (0 ≤ x ∧ x ≤ 19)) (w : World) : (binOp .neq 219 (.agg (cellsA (withP noneA x ⟨#[120]⟩))) (.agg #[.string ⟨#[]⟩, .string ⟨#[]⟩, .string ⟨#[]⟩, .string ⟨#[]⟩, .string ⟨#[]⟩, .string ⟨#[]⟩, .string ⟨#[]⟩, .string ⟨#[]⟩, .string ⟨#[]⟩, .string ⟨#[]⟩, .string ⟨#[]⟩, .string ⟨#[]⟩, .string ⟨#[]⟩, .string ⟨#[]⟩, .string ⟨#[]⟩, .string ⟨#[]⟩, .string ⟨#[]⟩, .string ⟨#[]⟩, .string ⟨#[]⟩, .string ⟨#[]⟩])).run Tryz.prog w = .ok (.bool false) w := by
 have e : withP noneA x ⟨#[120]⟩ = noneA := by unfold withP; rw [if_neg (fun h2 => h ⟨h2.1, by omega⟩)]
 have h1 := neqA noneA noneA rfl rfl w
 rw [e]
 rw [noneA_cells] at h1 ⊢
 rw [h1]
 have h4 : ((List.range' 0 20 1).all (fun i => (textAt noneA i).toList == (textAt noneA i).toList)) = true := by
  rw [List.all_eq_true]
  exact fun i _ => by simp
 rw [h4]
 rfl
theorem isCell_any (x : Int) (w : World) :
  Calls Tryz.prog 132 #[.int .i64 x] w fun e w' => BoolIs (0 ≤ x ∧ x ≤ 19) w e w' := by
 have hgb := guardA
 by_cases h : 0 ≤ x ∧ x ≤ 19
 ·
  have hqe := neq_in x h
  have HH : Hid (0 ≤ x ∧ x ≤ 19) := h
  clear h
  go_enter Tryz.func132, Tryz.ntmps132
  go_wp2_with fail
  refine (with_any noneA rfl x ⟨#[120]⟩ _).mono ?_
  rintro e w1 ⟨rfl, bw⟩
  have HBW : Hid (Below w.heap.size w w1) := bw
  clear bw
  go_wp2_with fail
  go_ret
  exact ⟨true, rfl, ⟨fun _ => HH.out, fun _ => rfl⟩, HBW.out⟩
 ·
  have hqe := neq_out x h
  have HH : Hid (¬ (0 ≤ x ∧ x ≤ 19)) := h
  clear h
  go_enter Tryz.func132, Tryz.ntmps132
  go_wp2_with fail
  refine (with_any noneA rfl x ⟨#[120]⟩ _).mono ?_
  rintro e w1 ⟨rfl, bw⟩
  have HBW : Hid (Below w.heap.size w w1) := bw
  clear bw
  go_wp2_with fail
  go_ret
  exact BoolIs.no HH.out HBW.out
theorem allToCells_any (o : Option Addr) (n c : Nat) (ws : List (Int × ByteArray)) (w : World) (h : WriteA w o n ws) (hn : n ≤ 2000000) :
  Calls Tryz.prog 131 #[.slice o n c] w fun e w' => BoolIs (AllIn ws) w e w' := by
 have HW : Hid (WriteA w o n ws) := h
 clear h
 go_enter Tryz.func131, Tryz.ntmps131
 go_wp2_with fail
 go_loopw [7] (fun i wr => ∃ j : Nat, j ≤ n ∧ i = .int .i64 (j : Int) ∧ Hid (Below w.heap.size w wr) ∧ Hid (∀ x ∈ ws.take j, 0 ≤ x.1 ∧ x.1 ≤ 19)) (fun i _ => n - (intOf i).toNat)
 case atStart => exact ⟨0, Nat.zero_le _, rfl, Below.refl _ _, fun x hx => by simp at hx⟩
 case round =>
  obtain ⟨j, hj, rfl, HB, HN⟩ := hrel
  by_cases hlt : (j : Int) < (n : Int)
  ·
   have hjx : j < ws.length := by rw [HW.out.1]; omega
   obtain ⟨g, rfl, hg, r0, r1⟩ := (HW.out.below HB.out).2 j (by omega)
   obtain ⟨y, hy⟩ := exq (writeAt ws j)
   have HM : Hid (y ∈ ws) := by show _ ∈ _; rw [hy]; exact writeAt_mem ws j hjx
   have HTK : Hid (ws.take (j + 1) = ws.take j ++ [y]) := by show _ = _; rw [hy]; exact take_writeAt ws j hjx
   rw [← hy] at r0 r1
   obtain ⟨y0, y1⟩ := y
   simp only at r0 r1
   clear hy hjx
   go_wp2_with fail
   refine (isCell_any y0 _).mono ?_
   rintro e w4 ⟨b, rfl, hb, bw⟩
   have HBW : Hid (Below w.heap.size w w4) := (HB.out.alloc HB.out.size _).trans (bw.mono (Nat.le_trans HB.out.size (by simp)))
   clear bw r0 r1
   cases b with
   | true =>
    have HY : Hid (0 ≤ y0 ∧ y0 ≤ 19) := hb.1 rfl
    clear hb
    go_wp2_with fail
    go_roundw
    case rel =>
     refine ⟨j + 1, by omega, by go_num, HBW, fun x hx => ?_⟩
     rw [HTK.out] at hx
     rcases List.mem_append.1 hx with hx | hx
     · exact HN.out x hx
     · rw [List.mem_singleton.1 hx]; exact HY.out
    case measure => simp [intOf]; omega
   | false =>
    have HY : Hid (¬ (0 ≤ y0 ∧ y0 ≤ 19)) := fun h => nomatch hb.2 h
    clear hb
    go_wp2_with fail
    go_ret
    exact BoolIs.no (fun h => HY.out (h _ HM.out)) HBW.out
  ·
   have HAL : Hid (AllIn ws) := fun x hx => HN.out x (by rw [List.take_of_length_le (by rw [HW.out.1]; omega)]; exact hx)
   clear HN
   go_wp2_with fail
   go_ret
   exact ⟨true, rfl, ⟨fun _ => HAL.out, fun _ => rfl⟩, HB.out⟩
end Go.Proofs.YtbmhonfgffjpcaaGreat
namespace Go.Proofs.YtbmhonfgffjpcaaGreat
open Go.RowKit
open Go.Lib hiding intOf
theorem isObjectCell_any (x : Int) (w : World) :
  Calls Tryz.prog 101 #[.int .i64 x] w fun e w' => BoolIs (5 ≤ x ∧ x ≤ 19) w e w' := by
 have hb0 : Below w.heap.size w w := Below.refl _ _
 go_enter Tryz.func101, Tryz.ntmps101
 by_cases hc1 : 5 ≤ x
 ·
  have H5 : Hid (5 ≤ x) := hc1
  go_wp2_with fail
  refine (isCell_any x _).mono ?_
  rintro e w1 ⟨uc, rfl, huc, bw⟩
  have hb1 := hbt hb0 bw
  clear hb0 bw
  go_wp2_with fail
  go_ret
  cases uc with
  | true => exact BoolIs.yes ⟨H5.out, (huc.1 rfl).2⟩ hb1
  | false => exact BoolIs.no (fun h => nomatch huc.2 ⟨by omega, h.2⟩) hb1
 ·
  have H5 : Hid (¬ 5 ≤ x) := hc1
  go_wp2_with fail
  go_ret
  exact BoolIs.no (fun h => by have h5 := H5.out; omega) hb0
theorem knownOf_any (V : Value) (kv : List (KpD × Value × Value × Value)) (B : Nat) (w : World) (h : KeptsO w B V kv) (hn : kv.length ≤ 1048576) (ha : ∀ x ∈ kv, 0 ≤ x.1.a ∧ x.1.a ≤ 1000) :
  Calls Tryz.prog 134 #[V] w fun e w' => KnownIs kv w e w' := by
 obtain ⟨o3, c3, e3⟩ := slice_of_owns h.row
 subst e3
 obtain ⟨n3, hn3⟩ := exq kv.length
 rw [← hn3] at h ⊢
 obtain ⟨ks, hks⟩ := exq (kv.map (·.1))
 have HKS : Hid (kv.map (·.1) = ks) := hks.symm
 have HLK : Hid (kv.length = n3) := hn3.symm
 have bn3 : n3 ≤ 1048576 := by rw [hn3]; exact hn
 have HKP : Hid (∀ W, Below w.heap.size w W → KeptsO W B (.slice o3 n3 c3) kv) := fun W hb => KeptsO.below h hb
 clear hn3 hks h hn
 have HAB : Hid (∀ x ∈ kv, 0 ≤ x.1.a ∧ x.1.a ≤ 1000) := ha
 clear ha
 have hmm : ∀ W : World, (Instr.makeMap 203 (some (.int .i64 (n3 : Int)))).run Tryz.prog W = .ok (.map (some W.heap.size)) (W.alloc (.map #[] 0)) := fun W => run_makeMap_hint Tryz.underlying203 _ W
 have hb0 : Below w.heap.size w w := Below.refl _ _
 go_enter Tryz.func134, Tryz.ntmps134
 go_upto_region 2 with fail
 obtain ⟨qm1, hqm1⟩ := exq ((w).heap.size)
 obtain ⟨w1, hW1⟩ := exq ((w).alloc (.map #[] 0))
 first | rw [← hW1, ← hqm1] | rw [← hW1]
 have bw := bal hW1
 have hb1 := hbt hb0 bw
 have HGm1 : Hid (w.heap.size ≤ qm1) := by show _ ≤ _; rw [hqm1]; exact hb0.size
 have EMm1_1 : Hid (KnownO w1 qm1 0 (.map [])) := by unfold KnownO; show World.ownsMap _ _ _ _ _ _ _; rw [hW1, hqm1]; exact World.ownsMap_made _ _ _ _
 clear bw hW1 hqm1 hb0
 go_wp2_with fail
 go_loopw [11] (fun i wr => ∃ (j : Nat) (D : DataW Value), j ≤ n3 ∧ i = .int .i64 (j : Int) ∧ Hid (KnownO wr qm1 j D ∧ MapN D (kv.take j) ∧ Below w.heap.size w (wr))) (fun i _ => n3 - (intOf i).toNat)
 case atStart => exact ⟨0, .map [], Nat.zero_le _, rfl, EMm1_1.out, by rw [List.take_zero]; exact MapN.nil, hb1⟩
 case round =>
  obtain ⟨j, D, hj, rfl, HW⟩ := hrel
  by_cases hlt : (j : Int) < (n3 : Int)
  ·
   have hb2 := HW.out.2.2
   have HMN := HW.out.2.1
   have HMNH : Hid (MapN D (kv.take j)) := HMN
   clear HMN
   have EMm1_2 : Hid (KnownO wr qm1 j D) := HW.out.1
   clear HW hb1 EMm1_1
   obtain ⟨g3, p3, hV, _, _⟩ := (HKP.out _ hb2).look j (by rw [HLK.out]; omega)
   rw [HLK.out] at hV
   injection hV with hV1 hV2 hV3
   subst hV1 hV3
   clear hV2
   obtain ⟨xX, hxX⟩ := exq (kvAt kv j)
   have HMx : Hid (xX ∈ kv) := by show _ ∈ _; rw [hxX]; exact kvAt_mem kv j (by rw [HLK.out]; omega)
   have HEx : Hid (kpAt ks j = xX.1) := by show _ = _; rw [hxX, ← HKS.out]; exact (kvAt_fst kv j (by rw [HLK.out]; omega)).symm
   have HTKx : Hid (kv.take (j + 1) = kv.take j ++ [xX]) := by show _ = _; rw [hxX]; exact kvAt_take kv j (by rw [HLK.out]; omega)
   have HKx : Hid (∀ W, Below w.heap.size w W → KpAt W g3 j xX) := fun W hb => by
    obtain ⟨g', p', hV, _, hc⟩ := (HKP.out W hb).look j (by rw [HLK.out]; omega)
    injection hV with hV1 _ _
    cases hV1
    rw [hxX]
    exact hc
   clear hxX
   obtain ⟨x, kuv1, kuv2, kuv3⟩ := xX
   obtain ⟨ku1, kuc1, hu⟩ := slice_of_owns ((HKP.out _ hb2).names HMx.out)
   have hu' : kuv1 = .slice ku1 x.xs.length kuc1 := hu
   subst hu'
   clear hu
   obtain ⟨ku2, kuc2, hu⟩ := slice_of_owns ((HKP.out _ hb2).vals HMx.out)
   have hu' : kuv2 = .slice ku2 x.ys.length kuc2 := hu
   subst hu'
   clear hu
   obtain ⟨ku3, kuc3, hu⟩ := slice_of_owns ((HKP.out _ hb2).flds HMx.out)
   have hu' : kuv3 = .slice ku3 x.fs.length kuc3 := hu
   subst hu'
   clear hu
   have r0x := (HKx.out _ hb2).c0
   have r1x := (HKx.out _ hb2).c1
   have r2x := (HKx.out _ hb2).c2
   have r3x := (HKx.out _ hb2).c3
   have r4x := (HKx.out _ hb2).c4
   have r5x := (HKx.out _ hb2).c5
   have r6x := (HKx.out _ hb2).c6
   have r7x := (HKx.out _ hb2).c7
   have r8x := (HKx.out _ hb2).c8
   dsimp only at r0x r1x r2x r3x r4x r5x r6x r7x r8x
   go_upto_region 5 with fail
   obtain ⟨qv1, hqv1⟩ := exq ((wr).heap.size)
   obtain ⟨w3, hW3⟩ := exq ((wr).alloc (.cells #[.string x.p, .slice ku1 x.xs.length kuc1, .slice ku2 x.ys.length kuc2, .int .i64 x.st, .slice ku3 x.fs.length kuc3, .string x.b, .int .i64 x.t, .int .i64 x.a, .int .i64 x.q] 103))
   have hz3 : (wr).heap.size = qv1 := hqv1.symm
   first | rw [← hW3, ← hqv1] | rw [← hW3]
   have hs3 := hsa hW3 hz3
   have bw := bal hW3
   have hb3 := hbt hb2 bw
   have EMm1_3 : Hid (KnownO w3 qm1 j (D)) := map_below EMm1_2.out bw
   have HBv1_3 := hnew hW3 hz3
   clear hb2 EMm1_2 bw hW3 hz3
   clear hs3 hqv1
   clear r0x r1x r2x r3x r4x r5x r6x r7x r8x
   have cv1_0 := (k9c HBv1_3).1
   have cv1_1 := (k9c HBv1_3).2.1
   have cv1_2 := (k9c HBv1_3).2.2.1
   have cv1_3 := (k9c HBv1_3).2.2.2.1
   have cv1_4 := (k9c HBv1_3).2.2.2.2.1
   have cv1_5 := (k9c HBv1_3).2.2.2.2.2.1
   have cv1_6 := (k9c HBv1_3).2.2.2.2.2.2.1
   have cv1_7 := (k9c HBv1_3).2.2.2.2.2.2.2.1
   have cv1_8 := (k9c HBv1_3).2.2.2.2.2.2.2.2
   have hmp := EMm1_3.out
   unfold KnownO at hmp
   go_wp2_with (first | (at_mapUpdate; refine wpList_mapUpdate_own _ rfl _ _ _ 203 rfl 3 103 keyInt Tryz.underlying203 mpR qm1 (j) (D) rfl hmp (by unfold maxLen; omega) _ _ (.int .i64 x.a) rfl rfl (key_wf (HAB.out _ HMx.out).1 (HAB.out _ HMx.out).2) (.held (.agg #[.string x.p, .slice ku1 x.xs.length kuc1, .slice ku2 x.ys.length kuc2, .int .i64 x.st, .slice ku3 x.fs.length kuc3, .string x.b, .int .i64 x.t, .int .i64 x.a, .int .i64 x.q])) [] rfl ?_) | go_in)
   intro w4 hown1 hgrow
   clear cv1_0 cv1_1 cv1_2 cv1_3 cv1_4 cv1_5 cv1_6 cv1_7 cv1_8
   have hb4 : Below w.heap.size w (w4) := hb3.grown hgrow hb3.size (by intro g hg; cases hg; exact HGm1.out)
   have HBv1_4 : Hid ((w4).heap[qv1]? = some (.cells #[.string x.p, .slice ku1 x.xs.length kuc1, .slice ku2 x.ys.length kuc2, .int .i64 x.st, .slice ku3 x.fs.length kuc3, .string x.b, .int .i64 x.t, .int .i64 x.a, .int .i64 x.q] 103)) := map_blk hmp HBv1_3.out hgrow
   have EMm1_4 : Hid (KnownO w4 qm1 (j + 1) (((D).put (.int .i64 x.a) (.held (.agg #[.string x.p, .slice ku1 x.xs.length kuc1, .slice ku2 x.ys.length kuc2, .int .i64 x.st, .slice ku3 x.fs.length kuc3, .string x.b, .int .i64 x.t, .int .i64 x.a, .int .i64 x.q]))))) := hown1
   clear hown1 hgrow hmp hb3 HBv1_3 EMm1_3
   have HN2 : Hid (MapN (D.put (.int .i64 x.a) (.held (kpX (x, .slice ku1 x.xs.length kuc1, .slice ku2 x.ys.length kuc2, .slice ku3 x.fs.length kuc3)))) (kv.take (j + 1))) := by
    show MapN _ _
    rw [HTKx.out]
    exact HMNH.out.put (x, .slice ku1 x.xs.length kuc1, .slice ku2 x.ys.length kuc2, .slice ku3 x.fs.length kuc3)
   go_wp2_with fail
   go_roundw
   case rel => exact ⟨j + 1, _, by omega, by go_num, EMm1_4.out, HN2.out, hb4⟩
   case measure => simp [intOf]; omega
  ·
   have hb2 := HW.out.2.2
   have HMN := HW.out.2.1
   have HMNH : Hid (MapN D (kv.take j)) := HMN
   clear HMN
   have EMm1_2 : Hid (KnownO wr qm1 j D) := HW.out.1
   clear HW hb1 EMm1_1
   go_wp2_with fail
   go_ret
   have HMN2 : MapN D kv := by
    have h := HMNH.out
    rw [List.take_of_length_le (by rw [HLK.out]; omega)] at h
    exact h
   exact ⟨qm1, j, D, rfl, by rw [HLK.out]; omega, EMm1_2.out, HMN2, HGm1.out, hb2⟩
end Go.Proofs.YtbmhonfgffjpcaaGreat
namespace Go.Proofs.YtbmhonfgffjpcaaGreat
open Go.RowKit
open Go.Lib hiding intOf
theorem implDiskOk_len (o1 : Option Addr) (n1 c1 : Nat) (v2 : Value) (n2 : Nat) (ws : List (Int × ByteArray)) (B : Nat) (w : World) (h : w.ownsRow B 199 2 v2 n2 (flatWrite ws)) (hn2 : n2 ≤ 2000000) :
  Calls Tryz.prog 100 #[.agg #[.slice o1 n1 c1, v2]] w fun e w' => BoolIs (DiskN n1 ws) w e w' := by
 obtain ⟨o2, c2, rfl⟩ := slice_of_owns h
 have HV : Hid (WriteA w o2 n2 ws) := write_view h
 have HLN : Hid (ws.length = n2) := write_len h
 clear h
 by_cases h1 : n1 = 20
 ·
  subst h1
  by_cases h2 : n2 ≤ 16
  ·
   have h3 : (n2 : Int) ≤ 16 := by omega
   go_enter Tryz.func100, Tryz.ntmps100
   go_wp2_with fail
   refine (allToCells_any o2 n2 c2 ws _ (HV.out.below ((Below.refl _ _).alloc (Nat.le_refl _) _)) hn2).mono ?_
   rintro e w1 ⟨b, rfl, hb, bw⟩
   have HB : Hid (b = true ↔ AllIn ws) := hb
   have HBW : Hid (Below w.heap.size w w1) := ((Below.refl _ _).alloc (Nat.le_refl _) _).trans (bw.mono (by simp))
   have HN : Hid (n2 ≤ 16) := h2
   clear hb bw
   go_wp2_with fail
   go_ret
   exact ⟨b, rfl, ⟨fun e => ⟨rfl, by rw [HLN.out]; exact HN.out, HB.out.1 e⟩, fun h => HB.out.2 h.2.2⟩, HBW.out⟩
  ·
   have h3 : ¬ (n2 : Int) ≤ 16 := by omega
   have HNO : Hid (¬ ws.length ≤ 16) := by rw [HLN.out]; exact h2
   go_enter Tryz.func100, Tryz.ntmps100
   go_wp2_with fail
   go_ret
   exact BoolIs.no (fun h => HNO.out h.2.1) ((Below.refl _ _).alloc (Nat.le_refl _) _)
 ·
  have h3 : ¬ (n1 : Int) = 20 := by omega
  have HNO : Hid (¬ n1 = 20) := h1
  go_enter Tryz.func100, Tryz.ntmps100
  go_wp2_with fail
  go_ret
  exact BoolIs.no (fun h => HNO.out h.1) ((Below.refl _ _).alloc (Nat.le_refl _) _)
theorem implDiskOk_any (v1 v2 : Value) (n1 : Nat) (cs : List ByteArray) (n2 : Nat) (ws : List (Int × ByteArray)) (B : Nat) (w : World) (h : DiskO w B v1 n1 cs v2 n2 ws) (_hn1 : n1 ≤ 2000000) (hn2 : n2 ≤ 2000000) :
  Calls Tryz.prog 100 #[.agg #[v1, v2]] w fun e w' => BoolIs (DiskP cs ws) w e w' := by
 obtain ⟨oCx, pCx, rfl⟩ := slice_of_owns h.cells
 have hl : cs.length = n1 := by have := h.cells.1; rw [List.length_map] at this; omega
 have h1 := implDiskOk_len oCx n1 pCx v2 n2 ws B w h.pend hn2
 rw [← hl] at h1
 rw [← hl]
 exact h1
end Go.Proofs.YtbmhonfgffjpcaaGreat
