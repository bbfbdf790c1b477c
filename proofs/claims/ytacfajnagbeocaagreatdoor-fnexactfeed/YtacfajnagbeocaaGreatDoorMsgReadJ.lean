/- 'methodOf', 'readRest', 'read', 'ReqRead', 'RespRead' of the program: contracts over the translation. -/
import Derived.Test.YtacfajnagbeocaaGreatDoorMsgReadI
import Derived.Test.YtacfajnagbeocaaGreatDoorMsgTextI
import Derived.Test.YtacfajnagbeocaaGreatDoorMsgResp
namespace Go.Proofs.YtacfajnagbeocaaGreatDoor
open Go.RowKit
open Go.Lib hiding intOf

theorem methOf_hit {a : ByteArray} {k : Nat} (h1 : 1 ≤ k) (h4 : k ≤ 4) (hb : ∀ j : Nat, 1 ≤ j → j < k → methB (j : Int) ≠ a) (h : methB (k : Int) = a) : methOf a = (k : Int) := by
  subst h
  exact methOf_of (by omega)
theorem methOf_miss {a : ByteArray} (hb : ∀ j : Nat, 1 ≤ j → j < 5 → methB (j : Int) ≠ a) : methOf a = 0 := by
  have h1 : methB 1 ≠ a := hb 1 (by omega) (by omega)
  have h2 : methB 2 ≠ a := hb 2 (by omega) (by omega)
  have h3 : methB 3 ≠ a := hb 3 (by omega) (by omega)
  have h4 : methB 4 ≠ a := hb 4 (by omega) (by omega)
  unfold methOf
  rw [if_neg h1, if_neg h2, if_neg h3, if_neg h4]
set_option maxHeartbeats 400000 in
theorem methodOf_any (a : ByteArray) (w : World) :
    Calls Tryz.prog 64 #[.string a] w fun e w' => e = .returned (.int .i64 (methOf a)) ∧ w' = w := by
  go_enter Tryz.func64, Tryz.ntmps64
  go_wp2
  go_loop [3] (fun i => ∃ k : Nat, 1 ≤ k ∧ k ≤ 5 ∧ i = .int .i64 (k : Int) ∧ Hid (∀ j : Nat, 1 ≤ j → j < k → methB (j : Int) ≠ a)) (fun i => 5 - (intOf i).toNat)
  case atStart => exact ⟨1, Nat.le_refl _, by omega, rfl, fun j h1 h2 => absurd h2 (by omega)⟩
  case round =>
    obtain ⟨k, hk1, hk5, rfl, hb⟩ := hrel
    by_cases hlt : (k : Int) ≤ 4
    · go_wp2_with fail
      refine (methodName_any (k : Int) _).mono ?_
      rintro e w1 ⟨rfl, rfl⟩
      by_cases he : methB (k : Int) = a
      · have HM : Hid (methOf a = (k : Int)) := methOf_hit hk1 (by omega) hb.out he
        have ht : ((methB (k : Int)).toList == a.toList) = true := (text_beq _ _).2 he
        generalize methB (k : Int) = mt at ht ⊢
        clear he
        go_wp2_with fail
        go_ret
        exact ⟨by rw [HM.out]; rfl, rfl⟩
      · have ht := text_beq_no he
        have HE : Hid (methB (k : Int) ≠ a) := he
        generalize methB (k : Int) = mt at ht ⊢
        clear he
        go_wp2_with fail
        go_round
        case rel =>
          refine ⟨k + 1, by omega, by omega, by go_num, ?_⟩
          intro j h1 h2
          by_cases e : j = k
          · subst e; exact HE.out
          · exact hb.out j h1 (by omega)
        case measure => simp [intOf]; omega
    · have HM : Hid (methOf a = 0) := methOf_miss (fun j h1 h2 => hb.out j h1 (by omega))
      go_wp2_with fail
      go_ret
      exact ⟨by rw [HM.out]; rfl, rfl⟩

/-- A cell of the message behind its fields is set. -/
theorem RdSt.set {w : World} {B b q : Nat} {T : TypeId} {bd : ByteArray} {tl : List Value} {fs : List (ByteArray × ByteArray)} {left : ByteArray} {fv : Value} {W : World} {bd' : ByteArray} {tl' : List Value} (h : RdSt w B b q T bd tl fs left fv W) (hT : TypeOk T) (hq : B ≤ q) (o : Nat) (v : Value) (e : (⟨fv :: .string bd :: tl⟩ : Array Value).setIfInBounds o v = ⟨fv :: .string bd' :: tl'⟩) : RdSt w B b q T bd' tl' fs left fv (W.setCell ⟨q, o, none⟩ v) := by
  have hne := h.bq
  refine ⟨?_, ?_, ?_, h.low.setCell (p := ⟨q, o, none⟩) hq _⟩
  · have := h.rd
    unfold Reader at this ⊢
    rw [heap_setCell_other _ _ b _ (fun e => hne e.symm)]; exact this
  · rw [heap_set _ _ _ _ _ _ _ h.qc, e]
  · exact owns_same h.own (fun j hj => heap_setCell_other _ _ j _ (fun e => by
      subst e
      exact own_not h.own hT h.qc hj))
theorem RdSt.rdc {w : World} {B b q : Nat} {T : TypeId} {bd : ByteArray} {tl : List Value} {fs : List (ByteArray × ByteArray)} {left : ByteArray} {fv : Value} {W : World} (h : RdSt w B b q T bd tl fs left fv W) : W.cell? ⟨b, 0, none⟩ = some (.string left) := h.rd.cell

set_option maxHeartbeats 1000000 in
theorem readRest_any (w0 : World) (B b q : Nat) (T : TypeId) (bd : ByteArray) (tl : List Value) (s : ByteArray) (fv : Value) (w : World) (hst : RdSt w0 B b q T bd tl [] s fv w) (hT : TypeOk T) (hB : B ≤ w.heap.size) (hbB : B ≤ b) (hqB : B ≤ q) (hl : s.size ≤ 4000000) (hlen : LenOk w0) (hlB : 0 < B) :
    Calls Tryz.prog 66 #[.pointer (some ⟨q, 0, none⟩), .pointer (some ⟨b, 0, none⟩)] w fun e w' => e = .returned (.tuple #[]) ∧ ∃ fv' left, RdSt w0 B b q T (restBody s) tl (restFs s) left fv' w' := by
  have HSTART : Hid (RdSt w0 B b q T bd tl (lineTo ([], s) 0).1 (lineTo ([], s) 0).2 fv w) := hst
  have HLEN : Hid (LenOk w0) := hlen
  clear hst hlen
  go_enter Tryz.func66, Tryz.ntmps66
  go_wp2
  go_loopw [4] (fun i wr => ∃ k : Nat, k ≤ 9 ∧ i = .int .i64 (k : Int) ∧ B ≤ wr.heap.size ∧ Hid (∃ fv', RdSt w0 B b q T bd tl (lineTo ([], s) k).1 (lineTo ([], s) k).2 fv' wr)) (fun i _ => 9 - (intOf i).toNat)
  case atStart => exact ⟨0, by omega, rfl, hB, ⟨fv, HSTART.out⟩⟩
  case round =>
    obtain ⟨k, hk, rfl, hB9, hx⟩ := hrel
    obtain ⟨fv9, hst9⟩ := hx.out
    obtain ⟨z1, z2, _⟩ := lineTo_size s k
    obtain ⟨x9, hx9⟩ : ∃ x, x = lineTo ([], s) k := ⟨_, rfl⟩
    rw [← hx9] at hst9 z1 z2
    obtain ⟨fs9, lf⟩ := x9
    have z1 : fs9.length ≤ k := z1
    have z2 : lf.size ≤ s.size := z2
    have hst9 : RdSt w0 B b q T bd tl fs9 lf fv9 wr := hst9
    have HX : Hid (lineTo ([], s) k = (fs9, lf)) := hx9.symm
    clear hx hx9
    by_cases hlt : (k : Int) < 9
    · go_wp2_with fail
      refine (headIsOver_any b lf _ hst9.rd).mono ?_
      rintro e w1 ⟨rfl, rfl⟩
      by_cases hh : hasP lf lnE = true
      · rw [hh]
        have H9 : Hid (lineTo ([], s) 9 = (fs9, lf)) := by
          show _ = _
          have := line_stuck ([], s) k (by rw [HX.out]; exact hh) (9 - k)
          rw [show k + (9 - k) = 9 by omega, HX.out] at this
          exact this
        clear hh
        go_wp2_with fail
        refine (pass_any b lf lnE _ hst9.rd).mono ?_
        rintro e w1 ⟨rfl, ht1⟩
        have hst10 := hst9.took hB9 hbB ht1
        have hB10 : B ≤ w1.heap.size := Nat.le_trans hB9 ht1.2.size
        have y1 := trimP_size lf lnE
        have HBD : Hid (trimP lf lnE = restBody s) := by
          show _ = _
          unfold restBody
          rw [H9.out]
        have HFS : Hid (fs9 = restFs s) := by
          show _ = _
          unfold restFs
          rw [H9.out]
        generalize trimP lf lnE = body at *
        have hrc := hst10.rdc
        clear hst9 ht1 hB9
        go_wp2_with fail
        refine (clone_any body _ (by omega)).mono ?_
        rintro e w2 ⟨rfl, bb2⟩
        have hst11 := hst10.below hB10 bb2
        obtain ⟨_, hc1, _, hf1⟩ := hst11.qcell
        have HS : Hid (RdSt w0 B b q T body tl fs9 body fv9 (w2.setCell ⟨q, 1, none⟩ (.string body))) := hst11.set hT hqB 1 (.string body) rfl
        clear hst10 hst11 bb2 hrc hB10
        go_wp2_with fail
        exact bodyPost_end (v := .tuple #[]) (by simp [results, Tryz.results66, go_sem]) rfl ⟨rfl, fv9, body, by rw [← HBD.out, ← HFS.out]; exact HS.out⟩
      · have HS : Hid (lineTo ([], s) (k + 1) = (lineFs fs9 lf, lineLeft lf)) := by
          show _ = _
          rw [lineTo, HX.out]
          unfold lineStep
          rw [if_neg hh]
          rfl
        have hf : hasP lf lnE = false := by simpa using hh
        rw [hf]
        clear hh hf
        go_wp2_with fail
        refine (readLine_any w0 B b q T bd tl fs9 lf fv9 _ hst9 hT hB9 hbB hqB (by omega) (by omega) HLEN.out hlB).mono ?_
        rintro e w2 ⟨rfl, fv2, hst2⟩
        have HS2 : Hid (RdSt w0 B b q T bd tl (lineFs fs9 lf) (lineLeft lf) fv2 w2) := hst2
        have hB2 : B ≤ w2.heap.size := by
          have := (Array.getElem?_eq_some_iff.1 hst2.qc).1
          omega
        clear hst2 hst9
        go_wp2_with fail
        go_roundw
        case rel => exact ⟨k + 1, by omega, by go_num, hB2, ⟨fv2, by rw [HS.out]; exact HS2.out⟩⟩
        case measure => simp [intOf]; omega
    · obtain rfl : k = 9 := by omega
      have H9 := HX
      go_wp2_with fail
      refine (pass_any b lf lnE _ hst9.rd).mono ?_
      rintro e w1 ⟨rfl, ht1⟩
      have hst10 := hst9.took hB9 hbB ht1
      have hB10 : B ≤ w1.heap.size := Nat.le_trans hB9 ht1.2.size
      have y1 := trimP_size lf lnE
      have HBD : Hid (trimP lf lnE = restBody s) := by
        show _ = _
        unfold restBody
        rw [H9.out]
      have HFS : Hid (fs9 = restFs s) := by
        show _ = _
        unfold restFs
        rw [H9.out]
      generalize trimP lf lnE = body at *
      have hrc := hst10.rdc
      clear hst9 ht1 hB9
      go_wp2_with fail
      refine (clone_any body _ (by omega)).mono ?_
      rintro e w2 ⟨rfl, bb2⟩
      have hst11 := hst10.below hB10 bb2
      obtain ⟨_, hc1, _, hf1⟩ := hst11.qcell
      have HS : Hid (RdSt w0 B b q T body tl fs9 body fv9 (w2.setCell ⟨q, 1, none⟩ (.string body))) := hst11.set hT hqB 1 (.string body) rfl
      clear hst10 hst11 bb2 hrc hB10
      go_wp2_with fail
      exact bodyPost_end (v := .tuple #[]) (by simp [results, Tryz.results66, go_sem]) rfl ⟨rfl, fv9, body, by rw [← HBD.out, ← HFS.out]; exact HS.out⟩

set_option maxHeartbeats 1000000 in
theorem reqReadP_any (w0 : World) (B b q : Nat) (s : ByteArray) (w : World) (hst : RdSt w0 B b q 85 ⟨#[]⟩ [.int .i64 0, .string ⟨#[]⟩] [] s (.slice none 0 0) w) (hT : TypeOk 85) (hB : B ≤ w.heap.size) (hbB : B ≤ b) (hqB : B ≤ q) (hl : s.size ≤ 4000000) (hlen : LenOk w0) (hlB : 0 < B) :
    Calls Tryz.prog 52 #[.pointer (some ⟨q, 0, none⟩), .pointer (some ⟨b, 0, none⟩)] w fun e w' => e = .returned (.tuple #[]) ∧ ∃ fv left, RdSt w0 B b q 85 (restBody (reqRest s)) [.int .i64 (methOf (cutA s blE)), .string (cutA (cutB s blE) blE)] (restFs (reqRest s)) left fv w' := by
  have HT : Hid (TypeOk 85) := hT
  have HLEN : Hid (LenOk w0) := hlen
  clear hT hlen
  have hlen0 := HLEN.out.below hst.low hlB
  go_enter Tryz.func52, Tryz.ntmps52
  go_wp2_with fail
  refine (upTo_any b s blE _ hst.rd hl hlen0).mono ?_
  rintro e w1 ⟨rfl, ht1⟩
  have hst1 := hst.took hB hbB ht1
  have hB1 : B ≤ w1.heap.size := Nat.le_trans hB ht1.2.size
  clear hst ht1 hlen0 hB
  go_wp2_with fail
  refine (methodOf_any (cutA s blE) _).mono ?_
  rintro e w2 ⟨rfl, rfl⟩
  have z1 := cutB_size s blE
  obtain ⟨m, hm⟩ : ∃ x, x = methOf (cutA s blE) := ⟨_, rfl⟩
  rw [← hm]
  have HM : Hid (m = methOf (cutA s blE)) := hm
  clear hm
  obtain ⟨r1, hr1⟩ : ∃ x, x = cutB s blE := ⟨_, rfl⟩
  have HR1 : Hid (r1 = cutB s blE) := hr1
  rw [← hr1] at hst1 z1
  clear hr1
  have hst2 := hst1.set HT.out hqB 2 (.int .i64 m) rfl
  have hcell2 : w2.cell? ⟨q, 2, none⟩ = some (.int .i64 0) ∧ w2.frozen? ⟨q, 2, none⟩ = false := by
    have := hst1.qc
    constructor <;> simp [World.cell?, World.frozen?, this]
  obtain ⟨c2, f2⟩ := hcell2
  have HS2 : Hid (RdSt w0 B b q 85 ⟨#[]⟩ [.int .i64 m, .string ⟨#[]⟩] [] r1 (.slice none 0 0) (w2.setCell ⟨q, 2, none⟩ (.int .i64 m))) := hst2
  have HR : Hid (Reader (w2.setCell ⟨q, 2, none⟩ (.int .i64 m)) b r1) := hst2.rd
  have HL2 : Hid (LenOk (w2.setCell ⟨q, 2, none⟩ (.int .i64 m))) := HLEN.out.below hst2.low hlB
  have hB2 : B ≤ (w2.setCell ⟨q, 2, none⟩ (.int .i64 m)).heap.size := by simp; omega
  clear hst1 hst2
  go_wp2_with fail
  refine (upTo_any b r1 blE _ HR.out (by omega) HL2.out).mono ?_
  rintro e w3 ⟨rfl, ht3⟩
  have hst3 := HS2.out.took hB2 hbB ht3
  have hB3 : B ≤ w3.heap.size := Nat.le_trans hB2 ht3.2.size
  have z2 := cutB_size r1 blE
  have z3 := cutA_size r1 blE
  obtain ⟨r2, hr2⟩ : ∃ x, x = cutB r1 blE := ⟨_, rfl⟩
  obtain ⟨p, hp⟩ : ∃ x, x = cutA r1 blE := ⟨_, rfl⟩
  have HR2 : Hid (r2 = cutB r1 blE) := hr2
  have HP : Hid (p = cutA r1 blE) := hp
  rw [← hr2] at hst3 z2
  rw [← hp] at z3
  rw [← hp]
  clear hr2 hp ht3 HS2 HR HL2 hB2 c2 f2
  go_wp2_with fail
  refine (clone_any p _ (by omega)).mono ?_
  rintro e w4 ⟨rfl, bb4⟩
  have hst4 := hst3.below hB3 bb4
  have hB4 : B ≤ w4.heap.size := Nat.le_trans hB3 bb4.size
  have hcell3 : w4.cell? ⟨q, 3, none⟩ = some (.string ⟨#[]⟩) ∧ w4.frozen? ⟨q, 3, none⟩ = false := by
    have := hst4.qc
    constructor <;> simp [World.cell?, World.frozen?, this]
  obtain ⟨c3, f3⟩ := hcell3
  have hst5 := hst4.set HT.out hqB 3 (.string p) rfl
  have HS5 : Hid (RdSt w0 B b q 85 ⟨#[]⟩ [.int .i64 m, .string p] [] r2 (.slice none 0 0) (w4.setCell ⟨q, 3, none⟩ (.string p))) := hst5
  have hB5 : B ≤ (w4.setCell ⟨q, 3, none⟩ (.string p)).heap.size := by simp; omega
  clear hst3 hst4 hst5 bb4 hB3 hB4
  go_wp2_with fail
  refine (pass_any b r2 httpLn _ HS5.out.rd).mono ?_
  rintro e w6 ⟨rfl, ht6⟩
  have hst6 := HS5.out.took hB5 hbB ht6
  have hB6 : B ≤ w6.heap.size := Nat.le_trans hB5 ht6.2.size
  have z4 := trimP_size r2 httpLn
  obtain ⟨r3, hr3⟩ : ∃ x, x = trimP r2 httpLn := ⟨_, rfl⟩
  have HR3 : Hid (r3 = reqRest s) := by
    show _ = _
    rw [hr3, HR2.out, HR1.out]
    rfl
  have HP2 : Hid (p = cutA (cutB s blE) blE) := by
    show _ = _
    rw [HP.out, HR1.out]
  rw [← hr3] at hst6 z4
  clear hr3 ht6 HS5 hB5 c3 f3
  go_wp2_with fail
  refine (readRest_any w0 B b q _ _ _ r3 _ _ hst6 HT.out hB6 hbB hqB (by omega) HLEN.out hlB).mono ?_
  rintro e w7 ⟨rfl, fv, lf, hst7⟩
  rw [HP2.out, HR3.out, HM.out] at hst7
  have HS7 : Hid _ := hst7
  clear hst7 hst6
  go_wp2_with fail
  exact bodyPost_end (v := .tuple #[]) (by simp [results, Tryz.results52, go_sem]) rfl ⟨rfl, fv, lf, HS7.out⟩

theorem restFs_size (r : ByteArray) : (restFs r).length ≤ 9 ∧ ∀ i, i < (restFs r).length → (nameAt (restFs r) i).size ≤ r.size ∧ (valAt (restFs r) i).size ≤ r.size := by
  have h : (restFs r).length ≤ 9 ∧ (lineTo ([], r) 9).2.size ≤ r.size ∧ ∀ f ∈ restFs r, f.1.size ≤ r.size ∧ f.2.size ≤ r.size := lineTo_size r 9
  generalize restFs r = l at *
  refine ⟨h.1, fun i hi => ?_⟩
  have e := pair_of l i hi
  have := h.2.2 (l[i]) (List.getElem_mem _)
  rw [← e] at this
  exact this
theorem restBody_size (r : ByteArray) : (restBody r).size ≤ r.size := by
  obtain ⟨_, h2, _⟩ := lineTo_size r 9
  exact Nat.le_trans (trimP_size _ _) h2
theorem owns_set {w : World} {base : Nat} {t : TypeId} {size : Nat} {v x : Value} {n : Nat} {xs : List Value} {R o : Nat} {cs : Array Value} {T : TypeId} {fr : Nat × Nat} (h : w.ownsRow base t size v n xs) (hT : T ≠ t) (hR : w.heap[R]? = some (.cells cs T fr)) : (w.setCell ⟨R, o, none⟩ x).ownsRow base t size v n xs ∧ ∃ cs', (w.setCell ⟨R, o, none⟩ x).heap[R]? = some (.cells cs' T fr) :=
  ⟨owns_same h (fun j hj => heap_setCell_other _ _ j _ (fun e => by
    subst e
    exact own_not h hT hR hj)), _, heap_set _ _ _ _ _ _ _ hR⟩

set_option maxHeartbeats 1000000 in
set_option maxRecDepth 100000 in
theorem implReqRead_any (s : ByteArray) (w : World) (hs : s.size ≤ 3000000) (htab : TabOk w) (hlen : LenOk w) :
    Calls Tryz.prog 39 #[.string s] w fun e w' => ReqIs s w e w' := by
  have hlt := hlen.lt
  have hlen0 : LenOk (w.alloc (.cells #[.int .i64 0, .string ⟨#[]⟩, .slice none 0 0, .string ⟨#[]⟩] 37)) := hlen.below ((Below.refl _ _).alloc (Nat.le_refl _) _) hlt
  have hlow : Below (w.heap.size + 1) (w.alloc (.cells #[.int .i64 0, .string ⟨#[]⟩, .slice none 0 0, .string ⟨#[]⟩] 37)) (((w.alloc (.cells #[.int .i64 0, .string ⟨#[]⟩, .slice none 0 0, .string ⟨#[]⟩] 37)).alloc (.cells #[.slice none 0 0, .string ⟨#[]⟩, .int .i64 0, .string ⟨#[]⟩] 85)).alloc (.cells #[.string s] 67)) := ((Below.refl _ _).alloc (by simp) _).alloc (by simp) _
  have hst0 : RdSt (w.alloc (.cells #[.int .i64 0, .string ⟨#[]⟩, .slice none 0 0, .string ⟨#[]⟩] 37)) (w.heap.size + 1) (w.heap.size + 1 + 1) (w.heap.size + 1) 85 ⟨#[]⟩ [.int .i64 0, .string ⟨#[]⟩] [] s (.slice none 0 0) (((w.alloc (.cells #[.int .i64 0, .string ⟨#[]⟩, .slice none 0 0, .string ⟨#[]⟩] 37)).alloc (.cells #[.slice none 0 0, .string ⟨#[]⟩, .int .i64 0, .string ⟨#[]⟩] 85)).alloc (.cells #[.string s] 67)) := by
    refine ⟨?_, ?_, ⟨rfl, .inl ⟨rfl, rfl⟩⟩, hlow⟩
    · have := heap_alloc_new ((w.alloc (.cells #[.int .i64 0, .string ⟨#[]⟩, .slice none 0 0, .string ⟨#[]⟩] 37)).alloc (.cells #[.slice none 0 0, .string ⟨#[]⟩, .int .i64 0, .string ⟨#[]⟩] 85)) (.cells #[.string s] 67)
      unfold Reader
      simpa using this
    · have h1 := heap_alloc_new (w.alloc (.cells #[.int .i64 0, .string ⟨#[]⟩, .slice none 0 0, .string ⟨#[]⟩] 37)) (.cells #[.slice none 0 0, .string ⟨#[]⟩, .int .i64 0, .string ⟨#[]⟩] 85)
      rw [heap_alloc_old _ _ (by simp)]
      simpa using h1
  go_enter Tryz.func39, Tryz.ntmps39
  go_wp2_with fail
  refine (reqReadP_any _ (w.heap.size + 1) _ _ s _ hst0 (by unfold TypeOk; decide) (by simp) (by omega) (Nat.le_refl _) (by omega) hlen0 (by omega)).mono ?_
  rintro e w1 ⟨rfl, fv, lf, hst⟩
  obtain ⟨R, hR⟩ : ∃ x, x = w.heap.size := ⟨_, rfl⟩
  obtain ⟨q, hq⟩ : ∃ x, x = w.heap.size + 1 := ⟨_, rfl⟩
  have hRw : w.heap.size ≤ R := by omega
  obtain ⟨m, hm⟩ : ∃ x, x = methOf (cutA s blE) := ⟨_, rfl⟩
  obtain ⟨p, hp⟩ : ∃ x, x = cutA (cutB s blE) blE := ⟨_, rfl⟩
  rw [← hm, ← hp] at hst
  obtain ⟨fs, hfs⟩ : ∃ x, x = restFs (reqRest s) := ⟨_, rfl⟩
  obtain ⟨bd, hbd⟩ : ∃ x, x = restBody (reqRest s) := ⟨_, rfl⟩
  rw [← hfs, ← hbd] at hst
  obtain ⟨y1, y2⟩ := restFs_size (reqRest s)
  have y3 := restBody_size (reqRest s)
  have y4 : (reqRest s).size ≤ s.size := by
    unfold reqRest
    exact Nat.le_trans (trimP_size _ _) (Nat.le_trans (cutB_size _ _) (cutB_size _ _))
  have hps : p.size ≤ maxLen := by
    have z1 := cutA_size (cutB s blE) blE
    have z2 := cutB_size s blE
    rw [← hp] at z1
    unfold maxLen
    omega
  rw [← hfs] at y1 y2
  rw [← hbd] at y3
  have hbs : bd.size ≤ maxLen := by unfold maxLen; omega
  obtain ⟨n, hn⟩ : ∃ x, x = fs.length := ⟨_, rfl⟩
  have hwk : WalkF n fs := fun i hi => by
    have := y2 i (by omega)
    unfold maxLen
    omega
  have HC : Hid (∀ m' p' fs' b', IsReq s m' p' fs' b' → m = m' ∧ p = p' ∧ fs = fs' ∧ bd = b') := fun m' p' fs' b' h => by
    obtain ⟨e1, e2, e3, e4⟩ := req_read h
    exact ⟨by rw [hm, e1], by rw [hp, e2], by rw [hfs, e3], by rw [hbd, e4]⟩
  have hown := hst.own
  rw [← hn] at hown
  obtain ⟨oa, cp, rfl⟩ := slice_of_owns hown
  have hqc := hst.qc
  rw [← hq] at hqc
  have hb01 := hst.low
  have hb1 : Below w.heap.size w w1 := ((Below.refl _ w).alloc (Nat.le_refl _) _).trans (hb01.mono (by omega))
  have hqlt : q < w1.heap.size := (Array.getElem?_eq_some_iff.1 hqc).1
  have hR1 : w1.heap[R]? = some (.cells #[.int .i64 0, .string ⟨#[]⟩, .slice none 0 0, .string ⟨#[]⟩] 37) := by
    rw [hR, hb01.block _ (by omega)]
    exact heap_alloc_new w _
  have HZ : Hid (∀ W, Below w1.heap.size w1 W → W.heap[R]? = some (.cells #[.int .i64 0, .string ⟨#[]⟩, .slice none 0 0, .string ⟨#[]⟩] 37) ∧ Below w.heap.size w W) := fun W h =>
    ⟨by rw [h.block _ (by omega)]; exact hR1, hb1.trans (h.mono hb1.size)⟩
  have HQ : Hid (∀ W, Below w1.heap.size w1 W → (W.cell? ⟨q, 0, none⟩ = some (.slice oa n cp) ∧ W.cell? ⟨q, 1, none⟩ = some (.string bd) ∧ W.cell? ⟨q, 2, none⟩ = some (.int .i64 m) ∧ W.cell? ⟨q, 3, none⟩ = some (.string p)) ∧ FieldsV W w.heap.size (.slice oa n cp) n fs ∧ W.ownsRow w.heap.size 63 2 (.slice oa n cp) n (flatF fs)) := fun W h => by
    have hh : W.heap[q]? = _ := (h.block q hqlt).trans hqc
    have ho : W.ownsRow w.heap.size 63 2 (.slice oa n cp) n (flatF fs) := owns_wide (owns_same hown (fun j hj => h.block j (owns_block_lt hown hj).2)) (by omega)
    exact ⟨⟨by simp [World.cell?, hh], by simp [World.cell?, hh], by simp [World.cell?, hh], by simp [World.cell?, hh]⟩, FieldsV.of_owns ho, ho⟩
  have HTAB : Hid (TabOk w) := htab
  have HN : Hid (n = fs.length) := hn
  have HB1 : Hid (Below w1.heap.size w1 w1) := Below.refl _ _
  rw [← hq, ← hR]
  have n9 : n ≤ 9 := by omega
  clear hst hown hqc hb01 hb1 hR1 hst0 hlow hlen hlen0 htab hn hfs hbd y1 y2 y3 y4 hR hq hs hlt hm hp
  obtain ⟨⟨d0, d1, d2, d3⟩, hv1, _⟩ := HQ.out w1 HB1.out
  go_wp2_with fail
  refine (reqOk_any m p _ bd n w.heap.size fs _ hv1 (by omega) hwk hps hbs).mono ?_
  rintro e w2 ⟨b1, rfl, kb1, bb2⟩
  have HB2 : Hid (Below w1.heap.size w1 w2) := bb2
  clear d0 d1 d2 d3 hv1 bb2
  obtain ⟨⟨d0, d1, d2, d3⟩, hv2, _⟩ := HQ.out w2 HB2.out
  cases b1
  · have HNO : Hid (∀ m p fs b, ¬ IsReq s m p fs b) := fun m' p' fs' b' h => by
      obtain ⟨e1, e2, e3, e4⟩ := HC.out m' p' fs' b' h
      subst e1 e2 e3 e4
      have := kb1.2 h.1
      cases this
    obtain ⟨z, hbz⟩ := HZ.out w2 HB2.out
    obtain ⟨⟨c0, c1, c2, c3⟩, f0, f1, f2, f3⟩ := four_facts z
    obtain ⟨⟨k0, k1, k2, k3⟩, _⟩ := four_facts (four_set z (.int .i64 0) (.string ⟨#[]⟩) (.slice none 0 0) (.string ⟨#[]⟩))
    have HB4 : Hid (Below w.heap.size w (fourSet w2 R (.int .i64 0) (.string ⟨#[]⟩) (.slice none 0 0) (.string ⟨#[]⟩))) := below_four hbz hRw
    unfold fourSet at k0 k1 k2 k3
    clear z hbz kb1 hv2 hwk hps hbs
    go_wp2_with fail
    exact bodyPost_ret (v := .tuple #[.agg #[.int .i64 0, .string ⟨#[]⟩, .slice none 0 0, .string ⟨#[]⟩], .bool false]) (by simp [results, Tryz.results39, go_sem, k0, k1, k2, k3]) rfl (.inr ⟨rfl, HNO.out, HB4.out⟩)
  · have HP : Hid (ReqP m p fs bd) := kb1.1 rfl
    have hT2 : TabOk w2 := HTAB.out.below (HZ.out w2 HB2.out).2
    clear kb1
    go_wp2_with fail
    refine (reqText_any m p _ bd n w.heap.size fs _ hv2 (by omega) hwk hps hbs hT2).mono ?_
    rintro e w3 ⟨u, rfl, ku, _, bb3⟩
    have HU : Hid (u = reqT m p fs bd) := ku HP.out
    have HB3 : Hid (Below w1.heap.size w1 w3) := HB2.out.trans (bb3.mono HB2.out.size)
    clear d0 d1 d2 d3 hv2 bb3 ku hT2 hwk hps hbs
    obtain ⟨⟨d0, d1, d2, d3⟩, _, hown3⟩ := HQ.out w3 HB3.out
    by_cases hus : u = s
    · have HIS : Hid (IsReq s m p fs bd) := ⟨HP.out, by rw [← HU.out]; exact hus⟩
      have hts : (u.toList == s.toList) = true := (text_beq _ _).2 hus
      clear hus hown3
      go_wp2_with fail
      refine (face_any m p oa n cp bd _).mono ?_
      rintro e w4 ⟨rfl, bb4⟩
      have hB4 : Below w1.heap.size w1 w4 := HB3.out.trans (bb4.mono HB3.out.size)
      obtain ⟨_, _, hown4⟩ := HQ.out w4 hB4
      obtain ⟨z, hbz⟩ := HZ.out w4 hB4
      obtain ⟨⟨c0, c1, c2, c3⟩, f0, f1, f2, f3⟩ := four_facts z
      obtain ⟨⟨k0, k1, k2, k3⟩, _⟩ := four_facts (four_set z (.int .i64 m) (.string p) (.slice oa n cp) (.string bd))
      have HB4 : Hid (Below w.heap.size w (fourSet w4 R (.int .i64 m) (.string p) (.slice oa n cp) (.string bd))) := below_four hbz hRw
      have HOWN : Hid ((fourSet w4 R (.int .i64 m) (.string p) (.slice oa n cp) (.string bd)).ownsRow w.heap.size 63 2 (.slice oa n cp) fs.length (flatF fs)) := by
        show World.ownsRow _ _ _ _ _ _ _
        unfold fourSet
        rw [← HN.out]
        obtain ⟨o1, _, r1⟩ := owns_set (o := 0) (x := .int .i64 m) hown4 (by decide) z
        obtain ⟨o2, _, r2⟩ := owns_set (o := 1) (x := .string p) o1 (by decide) r1
        obtain ⟨o3, _, r3⟩ := owns_set (o := 2) (x := .slice oa n cp) o2 (by decide) r2
        exact (owns_set (o := 3) o3 (by decide) r3).1
      unfold fourSet at k0 k1 k2 k3
      clear z hbz hown4 hB4 bb4 d0 d1 d2 d3
      go_wp2_with fail
      exact bodyPost_ret (v := .tuple #[.agg #[.int .i64 m, .string p, .slice oa n cp, .string bd], .bool true]) (by simp [results, Tryz.results39, go_sem, k0, k1, k2, k3]) rfl (.inl ⟨m, p, fs, bd, _, rfl, HIS.out, HOWN.out, HB4.out⟩)
    · have HNO : Hid (∀ m p fs b, ¬ IsReq s m p fs b) := fun m' p' fs' b' h => by
        obtain ⟨e1, e2, e3, e4⟩ := HC.out m' p' fs' b' h
        subst e1 e2 e3 e4
        exact hus (HU.out.trans h.2)
      have hts := text_beq_no hus
      obtain ⟨z, hbz⟩ := HZ.out w3 HB3.out
      obtain ⟨⟨c0, c1, c2, c3⟩, f0, f1, f2, f3⟩ := four_facts z
      obtain ⟨⟨k0, k1, k2, k3⟩, _⟩ := four_facts (four_set z (.int .i64 0) (.string ⟨#[]⟩) (.slice none 0 0) (.string ⟨#[]⟩))
      have HB4 : Hid (Below w.heap.size w (fourSet w3 R (.int .i64 0) (.string ⟨#[]⟩) (.slice none 0 0) (.string ⟨#[]⟩))) := below_four hbz hRw
      unfold fourSet at k0 k1 k2 k3
      clear z hbz hus hown3
      go_wp2_with fail
      exact bodyPost_ret (v := .tuple #[.agg #[.int .i64 0, .string ⟨#[]⟩, .slice none 0 0, .string ⟨#[]⟩], .bool false]) (by simp [results, Tryz.results39, go_sem, k0, k1, k2, k3]) rfl (.inr ⟨rfl, HNO.out, HB4.out⟩)

end Go.Proofs.YtacfajnagbeocaaGreatDoor
