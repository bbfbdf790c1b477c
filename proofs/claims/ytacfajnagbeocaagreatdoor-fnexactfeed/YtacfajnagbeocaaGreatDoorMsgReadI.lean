/- 'upTo', 'pass', 'headIsOver', 'readLine', 'readRest' of the program: contracts over the translation. -/
import Derived.Test.YtacfajnagbeocaaGreatDoorMsgCut
import Derived.Test.YtacfajnagbeocaaGreatDoorMsgReq
import Derived.Test.YtacfajnagbeocaaGreatDoorFieldImpl
import Derived.Test.YtacfajnagbeocaaGreatDoorFieldOpen
import Derived.Test.YtacfajnagbeocaaGreatDoorShelf
import Derived.Deep.AppendLies
import Derived.Deep.RegionLaw
namespace Go.Proofs.YtacfajnagbeocaaGreatDoor
open Go.RowKit
open Go.Lib hiding intOf

/-- The word that strings.Index reads holds some int. -/
def LenOk (w : World) : Prop := ∃ m : Int, w.cell? ⟨0, 0, none⟩ = some (.int .i64 m)
theorem LenOk.lt {w : World} (h : LenOk w) : 0 < w.heap.size := by
  obtain ⟨m, hm⟩ := h
  exact World.block_lt_of_cell? w _ hm
theorem LenOk.below {B : Nat} {w w' : World} (h : LenOk w) (hb : Below B w w') (hB : 0 < B) : LenOk w' := by
  obtain ⟨m, hm⟩ := h
  exact ⟨m, by rw [hb.cell (p := ⟨0, 0, none⟩) hB]; exact hm⟩

/-- A reader: what is left to be read. -/
def Reader (w : World) (b : Nat) (left : ByteArray) : Prop := w.heap[b]? = some (.cells #[.string left] 67)
theorem Reader.cell {w : World} {b : Nat} {left : ByteArray} (h : Reader w b left) : w.cell? ⟨b, 0, none⟩ = some (.string left) := by
  unfold Reader at h
  simp [World.cell?, h]
theorem Reader.frozen {w : World} {b : Nat} {left : ByteArray} (h : Reader w b left) : w.frozen? ⟨b, 0, none⟩ = false := by
  unfold Reader at h
  simp [World.frozen?, h]
theorem Reader.put {w : World} {b : Nat} {left : ByteArray} (h : Reader w b left) (x : ByteArray) : Reader (w.setCell ⟨b, 0, none⟩ (.string x)) b x := by
  unfold Reader at h ⊢
  rw [heap_set _ _ _ _ _ _ _ h]
  rfl
/-- What a reader took: what is left, and nothing else has turned. -/
def Took (b : Nat) (left : ByteArray) (w w' : World) : Prop := Reader w' b left ∧ w.grownBy w' (some b)

set_option maxHeartbeats 400000 in
theorem upTo_any (b : Nat) (left sep : ByteArray) (w : World) (h : Reader w b left) (hl : left.size ≤ 4000000) (hm : LenOk w) :
    Calls Tryz.prog 36 #[.pointer (some ⟨b, 0, none⟩), .string sep] w fun e w' => e = .returned (.string (cutA left sep)) ∧ Took b (cutB left sep) w w' := by
  obtain ⟨m, hm⟩ := hm
  have hc := h.cell
  obtain ⟨x, hx⟩ : ∃ x, x = cutA left sep := ⟨_, rfl⟩
  obtain ⟨y, hy⟩ : ∃ y, y = cutB left sep := ⟨_, rfl⟩
  have HX : Hid ((⟨(Lib.cut left.data.toList sep.data.toList).1.toArray⟩ : ByteArray) = x) := hx.symm
  have HY : Hid ((⟨(Lib.cut left.data.toList sep.data.toList).2.1.toArray⟩ : ByteArray) = y) := hy.symm
  rw [← hx, ← hy]
  clear hx hy
  go_enter Tryz.func36, Tryz.ntmps36
  go_wp2_with fail
  refine (Tryz.strings_Cut left sep m _ (by omega) hm).mono ?_
  rintro e w1 ⟨rfl, k, rfl⟩
  rw [HX.out, HY.out]
  generalize (Lib.cut left.data.toList sep.data.toList).2.2 = t
  have h1 : Reader (w.drewN k) b left := h
  have hg : w.grownBy (w.drewN k) (some b) := ⟨rfl, rfl, rfl, Nat.le_refl _, fun _ _ _ => rfl⟩
  have hc1 := h1.cell
  have hf1 := h1.frozen
  have HT : Hid (Took b y w ((w.drewN k).setCell ⟨b, 0, none⟩ (.string y))) := ⟨h1.put y, grown_then hg (grown_set _ _ _ _)⟩
  clear hc h hm h1 hg
  go_wp2_with fail
  go_ret
  exact ⟨rfl, HT.out⟩

set_option maxHeartbeats 400000 in
theorem pass_any (b : Nat) (left word : ByteArray) (w : World) (h : Reader w b left) :
    Calls Tryz.prog 65 #[.pointer (some ⟨b, 0, none⟩), .string word] w fun e w' => e = .returned (.tuple #[]) ∧ Took b (trimP left word) w w' := by
  have hc := h.cell
  have hf := h.frozen
  have HT : Hid (Took b (trimP left word) w (w.setCell ⟨b, 0, none⟩ (.string (trimP left word)))) := ⟨h.put _, grown_set _ _ _ _⟩
  obtain ⟨y, hy⟩ : ∃ y, y = trimP left word := ⟨_, rfl⟩
  have HY : Hid ((⟨(Lib.trimPrefix left.data.toList word.data.toList).toArray⟩ : ByteArray) = y) := hy.symm
  rw [← hy] at HT ⊢
  clear hy h
  go_enter Tryz.func65, Tryz.ntmps65
  go_wp2_with fail
  refine (Tryz.strings_TrimPrefix left word _).mono ?_
  rintro e w1 ⟨rfl, rfl⟩
  rw [HY.out]
  go_wp2_with fail
  exact bodyPost_end (v := .tuple #[]) (by simp [results, Tryz.results65, go_sem]) rfl ⟨rfl, HT.out⟩

set_option maxHeartbeats 400000 in
theorem headIsOver_any (b : Nat) (left : ByteArray) (w : World) (h : Reader w b left) :
    Calls Tryz.prog 80 #[.pointer (some ⟨b, 0, none⟩)] w fun e w' => e = .returned (.bool (hasP left lnE)) ∧ w' = w := by
  have hc := h.cell
  obtain ⟨t, ht⟩ : ∃ t, t = hasP left lnE := ⟨_, rfl⟩
  rw [← ht]
  go_enter Tryz.func80, Tryz.ntmps80
  go_wp2_with fail
  refine (Tryz.strings_HasPrefix left lnE _).mono ?_
  rintro e w1 ⟨rfl, rfl⟩
  have HT : Hid (Lib.hasPrefix left.data.toList lnE.data.toList = t) := ht.symm
  rw [HT.out]
  clear ht
  go_wp2_with fail
  go_ret
  exact ⟨rfl, rfl⟩

/-- A message that is being read: what is left, and the fields so far. -/
structure RdSt (w : World) (B b q : Nat) (T : TypeId) (bd : ByteArray) (tl : List Value) (fs : List (ByteArray × ByteArray)) (left : ByteArray) (fv : Value) (W : World) : Prop where
  rd : Reader W b left
  qc : W.heap[q]? = some (.cells ⟨fv :: .string bd :: tl⟩ T)
  own : W.ownsRow B 63 2 fv fs.length (flatF fs)
  low : Below B w W
/-- A message's block is no row of fields. -/
def TypeOk (T : TypeId) : Prop := T ≠ 63
theorem own_not {w : World} {base : Nat} {t : TypeId} {size : Nat} {v : Value} {n : Nat} {xs : List Value} {j : Nat} {cs : Array Value} {T : TypeId} {fr : Nat × Nat} (h : w.ownsRow base t size v n xs) (hT : T ≠ t) (hj : w.heap[j]? = some (.cells cs T fr)) : v.ownBlock ≠ some j := by
  intro e
  rcases h.2 with ⟨rfl, _⟩ | ⟨g, cap, cur, rfl, _, h1, _⟩
  · cases e
  · cases e
    rw [h1] at hj
    cases hj
    exact hT rfl
theorem owns_block_lt {w : World} {base : Nat} {t : TypeId} {size : Nat} {v : Value} {n : Nat} {xs : List Value} {j : Nat} (h : w.ownsRow base t size v n xs) (hj : v.ownBlock = some j) : base ≤ j ∧ j < w.heap.size := by
  rcases h.2 with ⟨rfl, _⟩ | ⟨g, cap, cur, rfl, h0, h1, _⟩
  · cases hj
  · cases hj
    exact ⟨h0, (Array.getElem?_eq_some_iff.1 h1).1⟩
theorem RdSt.bq {w : World} {B b q : Nat} {T : TypeId} {bd : ByteArray} {tl : List Value} {fs : List (ByteArray × ByteArray)} {left : ByteArray} {fv : Value} {W : World} (h : RdSt w B b q T bd tl fs left fv W) : q ≠ b := by
  intro e
  subst e
  have := h.rd
  unfold Reader at this
  rw [h.qc] at this
  cases this
/-- The reader took a piece: all else stands. -/
theorem RdSt.took {w : World} {B b q : Nat} {T : TypeId} {bd : ByteArray} {tl : List Value} {fs : List (ByteArray × ByteArray)} {left left' : ByteArray} {fv : Value} {W W' : World} (h : RdSt w B b q T bd tl fs left fv W) (hB : B ≤ W.heap.size) (hb : B ≤ b) (ht : Took b left' W W') : RdSt w B b q T bd tl fs left' fv W' := by
  have hq := h.bq
  have hqlt : q < W.heap.size := (Array.getElem?_eq_some_iff.1 h.qc).1
  refine ⟨ht.1, ?_, ?_, h.low.trans (below_grown ht.2 hB hb)⟩
  · rw [ht.2.block q hqlt (by simpa using hq)]; exact h.qc
  · refine owns_same h.own (fun j hj => ?_)
    have hlt := (owns_block_lt h.own hj).2
    refine ht.2.block j hlt ?_
    intro e
    cases e
    have := h.rd
    unfold Reader at this
    exact own_not h.own (by decide) this hj
/-- Memory was made: all stands. -/
theorem RdSt.below {w : World} {B b q : Nat} {T : TypeId} {bd : ByteArray} {tl : List Value} {fs : List (ByteArray × ByteArray)} {left : ByteArray} {fv : Value} {W W' : World} (h : RdSt w B b q T bd tl fs left fv W) (hB : B ≤ W.heap.size) (hb : Below W.heap.size W W') : RdSt w B b q T bd tl fs left fv W' := by
  have hqlt : q < W.heap.size := (Array.getElem?_eq_some_iff.1 h.qc).1
  have hblt : b < W.heap.size := (Array.getElem?_eq_some_iff.1 h.rd).1
  refine ⟨?_, ?_, ?_, h.low.trans (hb.mono hB)⟩
  · have := h.rd
    unfold Reader at this ⊢
    rw [hb.block b hblt]; exact this
  · rw [hb.block q hqlt]; exact h.qc
  · exact owns_same h.own (fun j hj => hb.block j (owns_block_lt h.own hj).2)
theorem RdSt.qcell {w : World} {B b q : Nat} {T : TypeId} {bd : ByteArray} {tl : List Value} {fs : List (ByteArray × ByteArray)} {left : ByteArray} {fv : Value} {W : World} (h : RdSt w B b q T bd tl fs left fv W) : W.cell? ⟨q, 0, none⟩ = some fv ∧ W.cell? ⟨q, 1, none⟩ = some (.string bd) ∧ W.frozen? ⟨q, 0, none⟩ = false ∧ W.frozen? ⟨q, 1, none⟩ = false := by
  have := h.qc
  refine ⟨?_, ?_, ?_, ?_⟩ <;> simp [World.cell?, World.frozen?, this]
/-- A field more, appended and laid into the message. -/
theorem RdSt.more {w : World} {B b q : Nat} {T : TypeId} {bd : ByteArray} {tl : List Value} {fs : List (ByteArray × ByteArray)} {left nm vl : ByteArray} {fv : Value} {W W' : World} {v' : Value} {o : Obj} (h : RdSt w B b q T bd tl fs left fv W) (hT : TypeOk T) (hB : B ≤ W.heap.size) (hq : B ≤ q)
    (hg : (W.alloc o).grownBy W' fv.ownBlock) (hown : W'.ownsRow B 63 2 v' (fs.length + 1) (flatF fs ++ [.string nm, .string vl])) :
    (W'.heap[q]? = some (.cells ⟨fv :: .string bd :: tl⟩ T)) ∧ RdSt w B b q T bd tl (fs ++ [(nm, vl)]) left v' (W'.setCell ⟨q, 0, none⟩ v') := by
  have hqlt : q < W.heap.size := (Array.getElem?_eq_some_iff.1 h.qc).1
  have hblt : b < W.heap.size := (Array.getElem?_eq_some_iff.1 h.rd).1
  have hne := h.bq
  have k1 : W'.heap[q]? = some (.cells ⟨fv :: .string bd :: tl⟩ T) := by
    rw [hg.block q (by simp; omega) (fun e => own_not h.own hT h.qc e.symm), heap_alloc_old W _ hqlt]; exact h.qc
  have k2 : W'.heap[b]? = some (.cells #[.string left] 67) := by
    have hr := h.rd
    unfold Reader at hr
    rw [hg.block b (by simp; omega) (fun e => own_not h.own (by decide) hr e.symm), heap_alloc_old W _ hblt]; exact hr
  have hz : ∀ g, fv.ownBlock = some g → B ≤ g := fun g hg => (owns_block_lt h.own hg).1
  have low1 : Below B w W' := (h.low.alloc hB o).grown hg (by simp; omega) hz
  refine ⟨k1, ⟨?_, ?_, ?_, low1.setCell (p := ⟨q, 0, none⟩) hq _⟩⟩
  · show _ = _
    rw [heap_setCell_other _ _ b _ (fun e => hne e.symm)]; exact k2
  · rw [heap_set _ _ _ _ _ _ _ k1]; rfl
  · rw [flatF_append, flatF_one, List.length_append]
    refine owns_same hown (fun j hj => ?_)
    rw [heap_setCell_other _ _ j _ (fun e => by
      subst e
      exact own_not hown hT k1 hj)]

def lineFs (fs : List (ByteArray × ByteArray)) (left : ByteArray) : List (ByteArray × ByteArray) := if cutA left nmE = clen then fs else fs ++ [(cutA left nmE, cutA (cutB left nmE) lnE)]
def lineLeft (left : ByteArray) : ByteArray := cutB (cutB left nmE) lnE
set_option maxHeartbeats 1000000 in
set_option maxRecDepth 100000 in
theorem readLine_any (w0 : World) (B b q : Nat) (T : TypeId) (bd : ByteArray) (tl : List Value) (fs : List (ByteArray × ByteArray)) (left : ByteArray) (fv : Value) (w : World) (hst : RdSt w0 B b q T bd tl fs left fv w) (hT : TypeOk T) (hB : B ≤ w.heap.size) (hbB : B ≤ b) (hqB : B ≤ q) (hl : left.size ≤ 4000000) (hn : fs.length ≤ 1000) (hlen : LenOk w0) (hlB : 0 < B) :
    Calls Tryz.prog 81 #[.pointer (some ⟨q, 0, none⟩), .pointer (some ⟨b, 0, none⟩)] w fun e w' => e = .returned (.tuple #[]) ∧ ∃ fv', RdSt w0 B b q T bd tl (lineFs fs left) (lineLeft left) fv' w' := by
  obtain ⟨i0, hi, hz0, hz1, hz2⟩ := info_parts info33
  have hlen0 := hlen.below hst.low hlB
  have z1 := cutA_size left nmE
  have z2 := cutB_size left nmE
  have z3 := cutA_size (cutB left nmE) lnE
  go_enter Tryz.func81, Tryz.ntmps81
  go_wp2_with fail
  refine (upTo_any b left nmE _ hst.rd hl hlen0).mono ?_
  rintro e w1 ⟨rfl, ht1⟩
  have hst1 := hst.took hB hbB ht1
  have hB1 : B ≤ w1.heap.size := Nat.le_trans hB ht1.2.size
  have hlen1 := hlen.below hst1.low hlB
  clear hst ht1 hlen0 hB
  go_wp2_with fail
  refine (upTo_any b (cutB left nmE) lnE _ hst1.rd (by omega) hlen1).mono ?_
  rintro e w2 ⟨rfl, ht2⟩
  have hst2 := hst1.took hB1 hbB ht2
  have hB2 : B ≤ w2.heap.size := Nat.le_trans hB1 ht2.2.size
  clear hst1 ht2 hlen1 hB1
  obtain ⟨nm, hnm⟩ : ∃ x, x = cutA left nmE := ⟨_, rfl⟩
  obtain ⟨vl, hvl⟩ : ∃ x, x = cutA (cutB left nmE) lnE := ⟨_, rfl⟩
  obtain ⟨lf, hlf⟩ : ∃ x, x = cutB (cutB left nmE) lnE := ⟨_, rfl⟩
  rw [← hnm] at z1
  rw [← hvl] at z3
  rw [← hlf] at hst2
  rw [← hnm, ← hvl]
  have HLF : Hid (lineLeft left = lf) := hlf.symm
  by_cases hcl : nm = clen
  · have HFS : Hid (lineFs fs left = fs) := by
      show _ = _
      unfold lineFs
      rw [← hnm, if_pos hcl]
    have ht : (nm.toList == clen.toList) = true := (text_beq _ _).2 hcl
    rw [clen_list] at ht
    have HS2 : Hid (RdSt w0 B b q T bd tl fs lf fv w2) := hst2
    clear hnm hvl hlf hst2 hcl
    go_wp2_with fail
    exact bodyPost_end (v := .tuple #[]) (by simp [results, Tryz.results81, go_sem]) rfl ⟨rfl, fv, by rw [HFS.out, HLF.out]; exact HS2.out⟩
  · have HFS : Hid (lineFs fs left = fs ++ [(nm, vl)]) := by
      show _ = _
      unfold lineFs
      rw [← hnm, if_neg hcl, ← hvl]
    have ht := text_beq_no hcl
    rw [clen_list] at ht
    have HS2 : Hid (RdSt w0 B b q T bd tl fs lf fv w2) := hst2
    clear hnm hvl hlf hst2 hcl
    obtain ⟨oa, cp, rfl⟩ := slice_of_owns HS2.out.own
    obtain ⟨n, hn0⟩ : ∃ n, n = fs.length := ⟨_, rfl⟩
    have HN : Hid (n = fs.length) := hn0
    rw [← hn0] at HS2 hn
    clear hn0
    have HA : Hid (∀ W, Below w2.drew.heap.size w2.drew W → Hid (RdSt w0 B b q T bd tl fs lf (.slice oa n cp) W) ∧ Hid (W.ownsRow B 63 2 (.slice oa n cp) n (flatF fs)) ∧ W.cell? ⟨q, 0, none⟩ = some (.slice oa n cp) ∧ (∀ o, (W.alloc o).cell? ⟨q, 0, none⟩ = some (.slice oa n cp)) ∧ Hid (B ≤ W.heap.size) ∧ Hid (∀ o, B ≤ (W.alloc o).heap.size)) := fun W hW => by
      have hd : RdSt w0 B b q T bd tl fs lf (.slice oa n cp) w2.drew := HS2.out.below hB2 ((Below.refl _ _).drew)
      have h3 := hd.below hB2 hW
      have h4 : B ≤ W.heap.size := Nat.le_trans hB2 hW.size
      refine ⟨h3, by have := h3.own; rw [← HN.out] at this; exact this, h3.qcell.1, fun o => ?_, h4, fun o => by simp; omega⟩
      exact (h3.below h4 ((Below.refl _ _).alloc (Nat.le_refl _) o)).qcell.1
    have HM : Hid (∀ W3 W4 g cap, Hid (RdSt w0 B b q T bd tl fs lf (.slice oa n cp) W3) → Hid (B ≤ W3.heap.size) → (W3.alloc (.cells #[.string nm, .string vl] 63)).grownBy W4 (Value.slice oa n cp).ownBlock → W4.ownsRow B 63 2 (.slice (some ⟨g, 0, none⟩) (n + 1) cap) (n + 1) (flatF fs ++ [.string nm, .string vl]) → W4.cell? ⟨q, 0, none⟩ = some (.slice oa n cp) ∧ W4.frozen? ⟨q, 0, none⟩ = false ∧ Hid (RdSt w0 B b q T bd tl (fs ++ [(nm, vl)]) lf (.slice (some ⟨g, 0, none⟩) (n + 1) cap) (W4.setCell ⟨q, 0, none⟩ (.slice (some ⟨g, 0, none⟩) (n + 1) cap)))) := fun W3 W4 g cap h3 h4 hg ho => by
      obtain ⟨k1, k2⟩ := h3.out.more hT h4.out hqB hg (v' := .slice (some ⟨g, 0, none⟩) (n + 1) cap) (nm := nm) (vl := vl) (by rw [← HN.out]; exact ho)
      exact ⟨by simp [World.cell?, k1], by simp [World.frozen?, k1], k2⟩
    have hc2 : w2.cell? ⟨q, 0, none⟩ = some (.slice oa n cp) := HS2.out.qcell.1
    have h63 : n + 1 ≤ maxLen := by unfold maxLen; omega
    have h47 : (n + 1) * 32 ≤ 140737488355328 := by omega
    have y1 : nm.size ≤ 281474976710656 := by omega
    have y2 : vl.size ≤ 281474976710656 := by omega
    clear HS2 hT hlen z1 z2 z3 hl hn
    go_wp2_with fail
    go_region_law (first | (go_simp; go_at_call 89; refine (newField_any nm vl _ y1 y2).mono ?_; rintro e w3 ⟨rfl, bb3⟩; obtain ⟨HS3, HO3, hc3, hca3, HB3, HBA3⟩ := HA.out w3 bb3; clear bb3) | ((refine step_append_lies _ (by rfl) _ _ _ (by rfl) B 63 i0 (.agg #[.string ⟨#[]⟩, .string ⟨#[]⟩]) 2 32 Tryz.underlying81 hi hz0 hz1 hz2 rfl (by omega) (.slice oa n cp) n (flatF fs) (by rfl) (HO3.out.alloc _) ⟨w3.heap.size, 0, none⟩ 1 1 [.string nm, .string vl] (by rfl) (by rfl) (World.news_of_block (cs := #[.string nm, .string vl]) (t := 63) (fr := (0, 0)) (heap_alloc_new w3 _)) (by simp [Value.oneCell']) (by omega) h63 h47 (HBA3.out _) (w3.heap.size + 1) (by simp) ?_; intro g4 cap4 w4 hown4 hgrow4 hat4 hlt4; obtain ⟨hc4, hf4, HS4⟩ := HM.out w3 w4 g4 cap4 HS3 HB3 hgrow4 hown4; clear hown4 hgrow4 hat4 hlt4)))
    all_goals
      go_wp2_with fail
      exact bodyPost_end (v := .tuple #[]) (by simp [results, Tryz.results81, go_sem]) rfl ⟨rfl, _, by rw [HFS.out, HLF.out]; exact HS4.out⟩

end Go.Proofs.YtacfajnagbeocaaGreatDoor
