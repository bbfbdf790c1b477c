/- What the proof of FnObjects leans on: contracts of the program's and the specification's functions, and plain facts (part 5 of 8). -/
import Derived.Test.YtdlhicdfldecgaaGreatDoorFnObjectsD
namespace Go.Proofs.YtdlhicdfldecgaaGreatDoor
open Go.RowKit
open Go.Lib hiding intOf

/-- The word that strings.Index reads holds some int. -/
def LenOk (w : World) : Prop := ∃ m : Int, w.cell? ⟨1, 0, none⟩ = some (.int .i64 m)
theorem LenOk.lt {w : World} (h : LenOk w) : 1 < w.heap.size := by
  obtain ⟨m, hm⟩ := h
  exact World.block_lt_of_cell? w _ hm
theorem LenOk.below {B : Nat} {w w' : World} (h : LenOk w) (hb : Below B w w') (hB : 1 < B) : LenOk w' := by
  obtain ⟨m, hm⟩ := h
  exact ⟨m, by rw [hb.cell (p := ⟨1, 0, none⟩) hB]; exact hm⟩

/-- A reader: what is left to be read. -/
def Reader (w : World) (b : Nat) (left : ByteArray) : Prop := w.heap[b]? = some (.cells #[.string left] 65)
theorem Reader.cell {w : World} {b : Nat} {left : ByteArray} (h : Reader w b left) : w.cell? ⟨b, 0, none⟩ = some (.string left) := by
  unfold Reader at h
  simp [World.cell?, h]
theorem Reader.frozen {w : World} {b : Nat} {left : ByteArray} (h : Reader w b left) : w.frozen? ⟨b, 0, none⟩ = false := by
  unfold Reader at h
  simp [World.frozen?, h]
theorem Reader.put {w : World} {b : Nat} {left : ByteArray} (h : Reader w b left) (x : ByteArray) : Reader (w.setCell ⟨b, 0, none⟩ (.string x)) b x := by
  unfold Reader at h ⊢
  rw [heap_set _ _ _ _ _ _ _ h]
  rfl
/-- What a reader took: what is left, and nothing else has turned. -/
def Took (b : Nat) (left : ByteArray) (w w' : World) : Prop := Reader w' b left ∧ w.grownBy w' (some b)

set_option maxHeartbeats 400000 in
theorem upTo_any (b : Nat) (left sep : ByteArray) (w : World) (h : Reader w b left) (hl : left.size ≤ 4000000) (hm : LenOk w) :
    Calls Tryz.prog 138 #[.pointer (some ⟨b, 0, none⟩), .string sep] w fun e w' => e = .returned (.string (cutA left sep)) ∧ Took b (cutB left sep) w w' := by
  obtain ⟨m, hm⟩ := hm
  have hc := h.cell
  obtain ⟨x, hx⟩ : ∃ x, x = cutA left sep := ⟨_, rfl⟩
  obtain ⟨y, hy⟩ : ∃ y, y = cutB left sep := ⟨_, rfl⟩
  have HX : Hid ((⟨(Lib.cut left.data.toList sep.data.toList).1.toArray⟩ : ByteArray) = x) := hx.symm
  have HY : Hid ((⟨(Lib.cut left.data.toList sep.data.toList).2.1.toArray⟩ : ByteArray) = y) := hy.symm
  rw [← hx, ← hy]
  clear hx hy
  go_enter Tryz.func138, Tryz.ntmps138
  go_wp2_with fail
  refine (Tryz.strings_Cut left sep m _ (by omega) hm).mono ?_
  rintro e w1 ⟨rfl, k, rfl⟩
  rw [HX.out, HY.out]
  generalize (Lib.cut left.data.toList sep.data.toList).2.2 = t
  have h1 : Reader (w.drewN k) b left := h
  have hg : w.grownBy (w.drewN k) (some b) := ⟨rfl, rfl, rfl, Nat.le_refl _, fun _ _ _ => rfl⟩
  have hc1 := h1.cell
  have hf1 := h1.frozen
  have HT : Hid (Took b y w ((w.drewN k).setCell ⟨b, 0, none⟩ (.string y))) := ⟨h1.put y, grown_then hg (grown_set _ _ _ _)⟩
  clear hc h hm h1 hg
  go_wp2_with fail
  go_ret
  exact ⟨rfl, HT.out⟩

set_option maxHeartbeats 400000 in
theorem pass_any (b : Nat) (left word : ByteArray) (w : World) (h : Reader w b left) :
    Calls Tryz.prog 137 #[.pointer (some ⟨b, 0, none⟩), .string word] w fun e w' => e = .returned (.tuple #[]) ∧ Took b (trimP left word) w w' := by
  have hc := h.cell
  have hf := h.frozen
  have HT : Hid (Took b (trimP left word) w (w.setCell ⟨b, 0, none⟩ (.string (trimP left word)))) := ⟨h.put _, grown_set _ _ _ _⟩
  obtain ⟨y, hy⟩ : ∃ y, y = trimP left word := ⟨_, rfl⟩
  have HY : Hid ((⟨(Lib.trimPrefix left.data.toList word.data.toList).toArray⟩ : ByteArray) = y) := hy.symm
  rw [← hy] at HT ⊢
  clear hy h
  go_enter Tryz.func137, Tryz.ntmps137
  go_wp2_with fail
  refine (Tryz.strings_TrimPrefix left word _).mono ?_
  rintro e w1 ⟨rfl, rfl⟩
  rw [HY.out]
  go_wp2_with fail
  exact bodyPost_end (v := .tuple #[]) (by simp [results, Tryz.results137, go_sem]) rfl ⟨rfl, HT.out⟩

set_option maxHeartbeats 400000 in
theorem headIsOver_any (b : Nat) (left : ByteArray) (w : World) (h : Reader w b left) :
    Calls Tryz.prog 188 #[.pointer (some ⟨b, 0, none⟩)] w fun e w' => e = .returned (.bool (hasP left lnE)) ∧ w' = w := by
  have hc := h.cell
  obtain ⟨t, ht⟩ : ∃ t, t = hasP left lnE := ⟨_, rfl⟩
  rw [← ht]
  go_enter Tryz.func188, Tryz.ntmps188
  go_wp2_with fail
  refine (Tryz.strings_HasPrefix left lnE _).mono ?_
  rintro e w1 ⟨rfl, rfl⟩
  have HT : Hid (Lib.hasPrefix left.data.toList lnE.data.toList = t) := ht.symm
  rw [HT.out]
  clear ht
  go_wp2_with fail
  go_ret
  exact ⟨rfl, rfl⟩

/-- A message that is being read: what is left, and the fields so far. -/
structure RdSt (w : World) (B b q : Nat) (T : TypeId) (bd : ByteArray) (tl : List Value) (fs : List (ByteArray × ByteArray)) (left : ByteArray) (fv : Value) (W : World) : Prop where
  rd : Reader W b left
  qc : W.heap[q]? = some (.cells ⟨fv :: .string bd :: tl⟩ T)
  own : W.ownsRow B 131 2 fv fs.length (flatF fs)
  low : Below B w W
/-- A message's block is no row of fields. -/
def TypeOk (T : TypeId) : Prop := T ≠ 131
theorem own_not {w : World} {base : Nat} {t : TypeId} {size : Nat} {v : Value} {n : Nat} {xs : List Value} {j : Nat} {cs : Array Value} {T : TypeId} {fr : Nat × Nat} (h : w.ownsRow base t size v n xs) (hT : T ≠ t) (hj : w.heap[j]? = some (.cells cs T fr)) : v.ownBlock ≠ some j := by
  intro e
  rcases h.2 with ⟨rfl, _⟩ | ⟨g, cap, cur, rfl, _, h1, _⟩
  · cases e
  · cases e
    rw [h1] at hj
    cases hj
    exact hT rfl
theorem owns_block_lt {w : World} {base : Nat} {t : TypeId} {size : Nat} {v : Value} {n : Nat} {xs : List Value} {j : Nat} (h : w.ownsRow base t size v n xs) (hj : v.ownBlock = some j) : base ≤ j ∧ j < w.heap.size := by
  rcases h.2 with ⟨rfl, _⟩ | ⟨g, cap, cur, rfl, h0, h1, _⟩
  · cases hj
  · cases hj
    exact ⟨h0, (Array.getElem?_eq_some_iff.1 h1).1⟩
theorem RdSt.bq {w : World} {B b q : Nat} {T : TypeId} {bd : ByteArray} {tl : List Value} {fs : List (ByteArray × ByteArray)} {left : ByteArray} {fv : Value} {W : World} (h : RdSt w B b q T bd tl fs left fv W) : q ≠ b := by
  intro e
  subst e
  have := h.rd
  unfold Reader at this
  rw [h.qc] at this
  cases this
/-- The reader took a piece: all else stands. -/
theorem RdSt.took {w : World} {B b q : Nat} {T : TypeId} {bd : ByteArray} {tl : List Value} {fs : List (ByteArray × ByteArray)} {left left' : ByteArray} {fv : Value} {W W' : World} (h : RdSt w B b q T bd tl fs left fv W) (hB : B ≤ W.heap.size) (hb : B ≤ b) (ht : Took b left' W W') : RdSt w B b q T bd tl fs left' fv W' := by
  have hq := h.bq
  have hqlt : q < W.heap.size := (Array.getElem?_eq_some_iff.1 h.qc).1
  refine ⟨ht.1, ?_, ?_, h.low.trans (below_grown ht.2 hB hb)⟩
  · rw [ht.2.block q hqlt (by simpa using hq)]; exact h.qc
  · refine owns_same h.own (fun j hj => ?_)
    have hlt := (owns_block_lt h.own hj).2
    refine ht.2.block j hlt ?_
    intro e
    cases e
    have := h.rd
    unfold Reader at this
    exact own_not h.own (by decide) this hj
/-- Memory was made: all stands. -/
theorem RdSt.below {w : World} {B b q : Nat} {T : TypeId} {bd : ByteArray} {tl : List Value} {fs : List (ByteArray × ByteArray)} {left : ByteArray} {fv : Value} {W W' : World} (h : RdSt w B b q T bd tl fs left fv W) (hB : B ≤ W.heap.size) (hb : Below W.heap.size W W') : RdSt w B b q T bd tl fs left fv W' := by
  have hqlt : q < W.heap.size := (Array.getElem?_eq_some_iff.1 h.qc).1
  have hblt : b < W.heap.size := (Array.getElem?_eq_some_iff.1 h.rd).1
  refine ⟨?_, ?_, ?_, h.low.trans (hb.mono hB)⟩
  · have := h.rd
    unfold Reader at this ⊢
    rw [hb.block b hblt]; exact this
  · rw [hb.block q hqlt]; exact h.qc
  · exact owns_same h.own (fun j hj => hb.block j (owns_block_lt h.own hj).2)
theorem RdSt.qcell {w : World} {B b q : Nat} {T : TypeId} {bd : ByteArray} {tl : List Value} {fs : List (ByteArray × ByteArray)} {left : ByteArray} {fv : Value} {W : World} (h : RdSt w B b q T bd tl fs left fv W) : W.cell? ⟨q, 0, none⟩ = some fv ∧ W.cell? ⟨q, 1, none⟩ = some (.string bd) ∧ W.frozen? ⟨q, 0, none⟩ = false ∧ W.frozen? ⟨q, 1, none⟩ = false := by
  have := h.qc
  refine ⟨?_, ?_, ?_, ?_⟩ <;> simp [World.cell?, World.frozen?, this]
/-- A field more, appended and laid into the message. -/
theorem RdSt.more {w : World} {B b q : Nat} {T : TypeId} {bd : ByteArray} {tl : List Value} {fs : List (ByteArray × ByteArray)} {left nm vl : ByteArray} {fv : Value} {W W' : World} {v' : Value} {o : Obj} (h : RdSt w B b q T bd tl fs left fv W) (hT : TypeOk T) (hB : B ≤ W.heap.size) (hq : B ≤ q)
    (hg : (W.alloc o).grownBy W' fv.ownBlock) (hown : W'.ownsRow B 131 2 v' (fs.length + 1) (flatF fs ++ [.string nm, .string vl])) :
    (W'.heap[q]? = some (.cells ⟨fv :: .string bd :: tl⟩ T)) ∧ RdSt w B b q T bd tl (fs ++ [(nm, vl)]) left v' (W'.setCell ⟨q, 0, none⟩ v') := by
  have hqlt : q < W.heap.size := (Array.getElem?_eq_some_iff.1 h.qc).1
  have hblt : b < W.heap.size := (Array.getElem?_eq_some_iff.1 h.rd).1
  have hne := h.bq
  have k1 : W'.heap[q]? = some (.cells ⟨fv :: .string bd :: tl⟩ T) := by
    rw [hg.block q (by simp; omega) (fun e => own_not h.own hT h.qc e.symm), heap_alloc_old W _ hqlt]; exact h.qc
  have k2 : W'.heap[b]? = some (.cells #[.string left] 65) := by
    have hr := h.rd
    unfold Reader at hr
    rw [hg.block b (by simp; omega) (fun e => own_not h.own (by decide) hr e.symm), heap_alloc_old W _ hblt]; exact hr
  have hz : ∀ g, fv.ownBlock = some g → B ≤ g := fun g hg => (owns_block_lt h.own hg).1
  have low1 : Below B w W' := (h.low.alloc hB o).grown hg (by simp; omega) hz
  refine ⟨k1, ⟨?_, ?_, ?_, low1.setCell (p := ⟨q, 0, none⟩) hq _⟩⟩
  · show _ = _
    rw [heap_setCell_other _ _ b _ (fun e => hne e.symm)]; exact k2
  · rw [heap_set _ _ _ _ _ _ _ k1]; rfl
  · rw [flatF_append, flatF_one, List.length_append]
    refine owns_same hown (fun j hj => ?_)
    rw [heap_setCell_other _ _ j _ (fun e => by
      subst e
      exact own_not hown hT k1 hj)]

def lineFs (fs : List (ByteArray × ByteArray)) (left : ByteArray) : List (ByteArray × ByteArray) := if cutA left nmE = clen then fs else fs ++ [(cutA left nmE, cutA (cutB left nmE) lnE)]
def lineLeft (left : ByteArray) : ByteArray := cutB (cutB left nmE) lnE
set_option maxHeartbeats 1000000 in
set_option maxRecDepth 100000 in
theorem readLine_any (w0 : World) (B b q : Nat) (T : TypeId) (bd : ByteArray) (tl : List Value) (fs : List (ByteArray × ByteArray)) (left : ByteArray) (fv : Value) (w : World) (hst : RdSt w0 B b q T bd tl fs left fv w) (hT : TypeOk T) (hB : B ≤ w.heap.size) (hbB : B ≤ b) (hqB : B ≤ q) (hl : left.size ≤ 4000000) (hn : fs.length ≤ 1000) (hlen : LenOk w0) (hlB : 1 < B) :
    Calls Tryz.prog 189 #[.pointer (some ⟨q, 0, none⟩), .pointer (some ⟨b, 0, none⟩)] w fun e w' => e = .returned (.tuple #[]) ∧ ∃ fv', RdSt w0 B b q T bd tl (lineFs fs left) (lineLeft left) fv' w' := by
  obtain ⟨i0, hi, hz0, hz1, hz2⟩ := info_parts info33
  have hlen0 := hlen.below hst.low hlB
  have z1 := cutA_size left nmE
  have z2 := cutB_size left nmE
  have z3 := cutA_size (cutB left nmE) lnE
  go_enter Tryz.func189, Tryz.ntmps189
  go_wp2_with fail
  refine (upTo_any b left nmE _ hst.rd hl hlen0).mono ?_
  rintro e w1 ⟨rfl, ht1⟩
  have hst1 := hst.took hB hbB ht1
  have hB1 : B ≤ w1.heap.size := Nat.le_trans hB ht1.2.size
  have hlen1 := hlen.below hst1.low hlB
  clear hst ht1 hlen0 hB
  go_wp2_with fail
  refine (upTo_any b (cutB left nmE) lnE _ hst1.rd (by omega) hlen1).mono ?_
  rintro e w2 ⟨rfl, ht2⟩
  have hst2 := hst1.took hB1 hbB ht2
  have hB2 : B ≤ w2.heap.size := Nat.le_trans hB1 ht2.2.size
  clear hst1 ht2 hlen1 hB1
  obtain ⟨nm, hnm⟩ : ∃ x, x = cutA left nmE := ⟨_, rfl⟩
  obtain ⟨vl, hvl⟩ : ∃ x, x = cutA (cutB left nmE) lnE := ⟨_, rfl⟩
  obtain ⟨lf, hlf⟩ : ∃ x, x = cutB (cutB left nmE) lnE := ⟨_, rfl⟩
  rw [← hnm] at z1
  rw [← hvl] at z3
  rw [← hlf] at hst2
  rw [← hnm, ← hvl]
  have HLF : Hid (lineLeft left = lf) := hlf.symm
  by_cases hcl : nm = clen
  · have HFS : Hid (lineFs fs left = fs) := by
      show _ = _
      unfold lineFs
      rw [← hnm, if_pos hcl]
    have ht : (nm.toList == clen.toList) = true := (text_beq _ _).2 hcl
    rw [clen_list] at ht
    have HS2 : Hid (RdSt w0 B b q T bd tl fs lf fv w2) := hst2
    clear hnm hvl hlf hst2 hcl
    go_wp2_with fail
    exact bodyPost_end (v := .tuple #[]) (by simp [results, Tryz.results189, go_sem]) rfl ⟨rfl, fv, by rw [HFS.out, HLF.out]; exact HS2.out⟩
  · have HFS : Hid (lineFs fs left = fs ++ [(nm, vl)]) := by
      show _ = _
      unfold lineFs
      rw [← hnm, if_neg hcl, ← hvl]
    have ht := text_beq_no hcl
    rw [clen_list] at ht
    have HS2 : Hid (RdSt w0 B b q T bd tl fs lf fv w2) := hst2
    clear hnm hvl hlf hst2 hcl
    obtain ⟨oa, cp, rfl⟩ := slice_of_owns HS2.out.own
    obtain ⟨n, hn0⟩ : ∃ n, n = fs.length := ⟨_, rfl⟩
    have HN : Hid (n = fs.length) := hn0
    rw [← hn0] at HS2 hn
    clear hn0
    have HA : Hid (∀ W, Below w2.drew.heap.size w2.drew W → Hid (RdSt w0 B b q T bd tl fs lf (.slice oa n cp) W) ∧ Hid (W.ownsRow B 131 2 (.slice oa n cp) n (flatF fs)) ∧ W.cell? ⟨q, 0, none⟩ = some (.slice oa n cp) ∧ (∀ o, (W.alloc o).cell? ⟨q, 0, none⟩ = some (.slice oa n cp)) ∧ Hid (B ≤ W.heap.size) ∧ Hid (∀ o, B ≤ (W.alloc o).heap.size)) := fun W hW => by
      have hd : RdSt w0 B b q T bd tl fs lf (.slice oa n cp) w2.drew := HS2.out.below hB2 ((Below.refl _ _).drew)
      have h3 := hd.below hB2 hW
      have h4 : B ≤ W.heap.size := Nat.le_trans hB2 hW.size
      refine ⟨h3, by have := h3.own; rw [← HN.out] at this; exact this, h3.qcell.1, fun o => ?_, h4, fun o => by simp; omega⟩
      exact (h3.below h4 ((Below.refl _ _).alloc (Nat.le_refl _) o)).qcell.1
    have HM : Hid (∀ W3 W4 g cap, Hid (RdSt w0 B b q T bd tl fs lf (.slice oa n cp) W3) → Hid (B ≤ W3.heap.size) → (W3.alloc (.cells #[.string nm, .string vl] 131)).grownBy W4 (Value.slice oa n cp).ownBlock → W4.ownsRow B 131 2 (.slice (some ⟨g, 0, none⟩) (n + 1) cap) (n + 1) (flatF fs ++ [.string nm, .string vl]) → W4.cell? ⟨q, 0, none⟩ = some (.slice oa n cp) ∧ W4.frozen? ⟨q, 0, none⟩ = false ∧ Hid (RdSt w0 B b q T bd tl (fs ++ [(nm, vl)]) lf (.slice (some ⟨g, 0, none⟩) (n + 1) cap) (W4.setCell ⟨q, 0, none⟩ (.slice (some ⟨g, 0, none⟩) (n + 1) cap)))) := fun W3 W4 g cap h3 h4 hg ho => by
      obtain ⟨k1, k2⟩ := h3.out.more hT h4.out hqB hg (v' := .slice (some ⟨g, 0, none⟩) (n + 1) cap) (nm := nm) (vl := vl) (by rw [← HN.out]; exact ho)
      exact ⟨by simp [World.cell?, k1], by simp [World.frozen?, k1], k2⟩
    have hc2 : w2.cell? ⟨q, 0, none⟩ = some (.slice oa n cp) := HS2.out.qcell.1
    have h63 : n + 1 ≤ maxLen := by unfold maxLen; omega
    have h47 : (n + 1) * 32 ≤ 140737488355328 := by omega
    have y1 : nm.size ≤ 281474976710656 := by omega
    have y2 : vl.size ≤ 281474976710656 := by omega
    clear HS2 hT hlen z1 z2 z3 hl hn
    go_wp2_with fail
    go_region_law (first | (go_simp; go_at_call 144; refine (newField_any nm vl _ y1 y2).mono ?_; rintro e w3 ⟨rfl, bb3⟩; obtain ⟨HS3, HO3, hc3, hca3, HB3, HBA3⟩ := HA.out w3 bb3; clear bb3) | ((refine step_append_lies _ (by rfl) _ _ _ (by rfl) B 131 i0 (.agg #[.string ⟨#[]⟩, .string ⟨#[]⟩]) 2 32 Tryz.underlying74 hi hz0 hz1 hz2 rfl (by omega) (.slice oa n cp) n (flatF fs) (by rfl) (HO3.out.alloc _) ⟨w3.heap.size, 0, none⟩ 1 1 [.string nm, .string vl] (by rfl) (by rfl) (World.news_of_block (cs := #[.string nm, .string vl]) (t := 131) (fr := (0, 0)) (heap_alloc_new w3 _)) (by simp [Value.oneCell']) (by omega) h63 h47 (HBA3.out _) (w3.heap.size + 1) (by simp) ?_; intro g4 cap4 w4 hown4 hgrow4 hat4 hlt4; obtain ⟨hc4, hf4, HS4⟩ := HM.out w3 w4 g4 cap4 HS3 HB3 hgrow4 hown4; clear hown4 hgrow4 hat4 hlt4)))
    all_goals
      go_wp2_with fail
      exact bodyPost_end (v := .tuple #[]) (by simp [results, Tryz.results189, go_sem]) rfl ⟨rfl, _, by rw [HFS.out, HLF.out]; exact HS4.out⟩

end Go.Proofs.YtdlhicdfldecgaaGreatDoor

namespace Go.Proofs.YtdlhicdfldecgaaGreatDoor
open Go.RowKit
open Go.Lib hiding intOf

def objW : ByteArray := ⟨#[111, 98, 106, 32]⟩
def nlE : ByteArray := ⟨#[10]⟩
def objHead (p : ByteArray) (t : Int) (n : Nat) : ByteArray := objW ++ p ++ ⟨#[32]⟩ ++ numText t.toNat ++ ⟨#[32]⟩ ++ numText n ++ ⟨#[10]⟩
/-- The head, and behind it the first k values, a byte 10 behind each. -/
def valsTo (h : ByteArray) (ys : List ByteArray) : Nat → ByteArray
  | 0 => h
  | k + 1 => valsTo h ys k ++ textAt ys k ++ ⟨#[10]⟩
def objT (p : ByteArray) (ys : List ByteArray) (st : Int) (fs : List (ByteArray × ByteArray)) (b : ByteArray) (t : Int) : ByteArray :=
  valsTo (objHead p t ys.length) ys ys.length ++ respT st fs b
/-- The text is that of this right object. -/
def IsObj (s p : ByteArray) (ys : List ByteArray) (st : Int) (fs : List (ByteArray × ByteArray)) (b : ByteArray) (t : Int) : Prop :=
  ObjP p (varyP fs) ys st fs b t ∧ objT p ys st fs b t = s
def lnL (ys : List ByteArray) : List UInt8 := ys.flatMap (fun y => bs y ++ [10])

theorem bs_valsTo (h : ByteArray) (ys : List ByteArray) : ∀ k, k ≤ ys.length → bs (valsTo h ys k) = bs h ++ lnL (ys.take k)
  | 0, _ => by simp [valsTo, lnL]
  | k + 1, hk => by
    rw [valsTo, bs_append, bs_append, bs_valsTo h ys k (by omega), take_textAt ys k (by omega)]
    simp [lnL, bs]
theorem bs_head (p : ByteArray) (t : Int) (n : Nat) : bs (objHead p t n) = bs objW ++ (bs p ++ ((32 :: []) ++ (numL t.toNat ++ ((32 :: []) ++ (numL n ++ (10 :: [])))))) := by
  unfold objHead
  simp only [bs_append, bs_num, List.append_assoc]
  rfl
theorem bs_objT (p : ByteArray) (ys : List ByteArray) (st : Int) (fs : List (ByteArray × ByteArray)) (b : ByteArray) (t : Int) : bs (objT p ys st fs b t) = bs objW ++ (bs p ++ ((32 :: []) ++ (numL t.toNat ++ ((32 :: []) ++ (numL ys.length ++ ((10 :: []) ++ (lnL ys ++ bs (respT st fs b)))))))) := by
  unfold objT
  rw [bs_append, bs_valsTo _ _ _ (Nat.le_refl _), bs_head, List.take_length]
  simp only [List.append_assoc]
theorem path_no {p : ByteArray} (h : PathOk p) : ∀ b ∈ bs p, b ≠ 32 ∧ b ≠ 10 := fun x hx => by
  have := bs_all h.1 x hx
  unfold PathB at this
  constructor
  · intro e; subst e; simp at this
  · intro e; subst e; simp at this
theorem num_no (n : Nat) (h : n ≤ 1000000) : ∀ b ∈ numL n, b ≠ 32 ∧ b ≠ 10 := fun x hx => by
  have := (numL_dig n h).2 x hx
  unfold DigB at this
  constructor
  · intro e; subst e; simp at this
  · intro e; subst e; simp at this
theorem val_no {y : ByteArray} (h : ValOk y) : ∀ b ∈ bs y, b ≠ 10 := fun x hx e => by
  have := bs_all h.2.2.1 x hx
  subst e
  unfold ValB at this
  simp at this

/-- The first k lines of a text, and what is behind them. -/
def lnTo (x : ByteArray) : Nat → List ByteArray × ByteArray
  | 0 => ([], x)
  | k + 1 => ((lnTo x k).1 ++ [cutA (lnTo x k).2 nlE], cutB (lnTo x k).2 nlE)
theorem lnTo_size (x : ByteArray) : ∀ k, (lnTo x k).1.length = k ∧ (lnTo x k).2.size ≤ x.size ∧ ∀ y ∈ (lnTo x k).1, y.size ≤ x.size
  | 0 => ⟨rfl, Nat.le_refl _, fun y hy => by simp [lnTo] at hy⟩
  | k + 1 => by
    obtain ⟨h1, h2, h3⟩ := lnTo_size x k
    refine ⟨by simp [lnTo, h1], Nat.le_trans (cutB_size _ _) h2, fun y hy => ?_⟩
    rw [lnTo] at hy
    rcases List.mem_append.1 hy with hy | hy
    · exact h3 y hy
    · rw [List.mem_singleton.1 hy]
      exact Nat.le_trans (cutA_size _ _) h2
theorem lines_read {x : ByteArray} {ys : List ByteArray} {rest : List UInt8} (hx : bs x = lnL ys ++ rest) (hy : ∀ y ∈ ys, ∀ b ∈ bs y, b ≠ 10) : ∀ k, k ≤ ys.length → (lnTo x k).1 = ys.take k ∧ bs (lnTo x k).2 = lnL (ys.drop k) ++ rest
  | 0, _ => by simp [lnTo, hx]
  | k + 1, hk => by
    obtain ⟨h1, h2⟩ := lines_read hx hy k (by omega)
    have hlt : k < ys.length := by omega
    have e : ys.drop k = textAt ys k :: ys.drop (k + 1) := by
      rw [List.drop_eq_getElem_cons hlt]
      congr 1
      unfold textAt
      rw [List.getD_eq_getElem?_getD, List.getElem?_eq_getElem hlt]
      rfl
    have h3 : bs (lnTo x k).2 = bs (textAt ys k) ++ ((10 :: []) ++ (lnL (ys.drop (k + 1)) ++ rest)) := by
      rw [h2, e]
      simp [lnL]
    have hc := cut_of (sep := nlE) h3 rfl (hy _ (textAt_mem ys k hlt))
    refine ⟨?_, hc.2⟩
    rw [lnTo, h1, take_textAt ys k hlt]
    exact congrArg (fun z => ys.take k ++ [z]) (bs_inj hc.1)

def objP1 (s : ByteArray) : ByteArray := cutB (trimP s objW) blE
def objP2 (s : ByteArray) : ByteArray := cutB (objP1 s) blE
def objP3 (s : ByteArray) : ByteArray := cutB (objP2 s) nlE
theorem objP1_size (s : ByteArray) : (objP1 s).size ≤ s.size := Nat.le_trans (cutB_size _ _) (trimP_size _ _)
theorem objP2_size (s : ByteArray) : (objP2 s).size ≤ s.size := Nat.le_trans (cutB_size _ _) (objP1_size s)
theorem objP3_size (s : ByteArray) : (objP3 s).size ≤ s.size := Nat.le_trans (cutB_size _ _) (objP2_size s)
theorem obj_read {s p : ByteArray} {ys : List ByteArray} {st : Int} {fs : List (ByteArray × ByteArray)} {b : ByteArray} {t : Int} (h : IsObj s p ys st fs b t) :
    cutA (trimP s objW) blE = p ∧ cutA (objP1 s) blE = numText t.toNat ∧ cutA (objP2 s) nlE = numText ys.length ∧ (lnTo (objP3 s) ys.length).1 = ys ∧ (lnTo (objP3 s) ys.length).2 = respT st fs b ∧ ys.length ≤ 4 := by
  obtain ⟨⟨hr, hp, ht, hnm, _, hl, hv⟩, rfl⟩ := h
  have h4 : ys.length ≤ 4 := by rw [hl]; exact hnm.2
  have e0 := bs_objT p ys st fs b t
  have k0 := trim_of (p := objW) e0
  have k1 := cut_of (sep := blE) k0 rfl (fun x hx => (path_no hp x hx).1)
  have k2 := cut_of (sep := blE) k1.2 rfl (fun x hx => (num_no t.toNat (by omega) x hx).1)
  have k3 := cut_of (sep := nlE) k2.2 rfl (fun x hx => (num_no ys.length (by omega) x hx).2)
  have k4 := lines_read (x := objP3 (objT p ys st fs b t)) k3.2 (fun y hy => val_no (hv y hy)) ys.length (Nat.le_refl _)
  refine ⟨bs_inj k1.1, bs_inj (by rw [bs_num]; exact k2.1), bs_inj (by rw [bs_num]; exact k3.1), ?_, bs_inj ?_, h4⟩
  · rw [k4.1, List.take_length]
  · rw [k4.2, List.drop_length]; rfl
theorem num_inj {a b : Nat} (ha : a ≤ 1000000) (hb : b ≤ 1000000) (h : numText a = numText b) : a = b := by
  have h1 := congrArg bs h
  rw [bs_num, bs_num] at h1
  rw [← numL_val a ha, ← numL_val b hb, h1]
theorem IsObj.uniq {s p p' : ByteArray} {ys ys' : List ByteArray} {st st' : Int} {fs fs' : List (ByteArray × ByteArray)} {b b' : ByteArray} {t t' : Int} (h : IsObj s p ys st fs b t) (h' : IsObj s p' ys' st' fs' b' t') : p = p' ∧ ys = ys' ∧ st = st' ∧ fs = fs' ∧ b = b' ∧ t = t' := by
  obtain ⟨a1, a2, a3, a4, a5, a6⟩ := obj_read h
  obtain ⟨c1, c2, c3, c4, c5, c6⟩ := obj_read h'
  have ht := h.1.2.2.1
  have ht' := h'.1.2.2.1
  have e2 := num_inj (by omega) (by omega) (a2.symm.trans c2)
  have e3 := num_inj (by omega) (by omega) (a3.symm.trans c3)
  rw [e3] at a4 a5
  have e5 := a5.symm.trans c5
  obtain ⟨q1, q2, q3⟩ := IsResp.uniq (s := respT st fs b) ⟨h.1.1, rfl⟩ ⟨h'.1.1, e5.symm⟩
  exact ⟨a1.symm.trans c1, a4.symm.trans c4, q1, q2, q3, by omega⟩

/-- A line that ends in a byte 10, found from a place on. -/
def LineAt (s : ByteArray) (f i : Nat) : Prop := ∃ h : i < s.size, f ≤ i ∧ (s[i]'h).toNat = 10 ∧ ∀ j (hj : j < i), f ≤ j → (s[j]'(by omega)).toNat ≠ 10
theorem bs_get {s : ByteArray} {j : Nat} (h : j < s.size) : (bs s)[j]? = some (s[j]'h) := by
  rw [List.getElem?_eq_getElem (by rw [bs_len]; exact h), bs_at s j h]
theorem line_of {s : ByteArray} {pre l rest : List UInt8} {f i : Nat} (hs : bs s = pre ++ (l ++ 10 :: rest)) (hf : pre.length = f) (hl : ∀ b ∈ l, b ≠ 10) (h : LineAt s f i) : i = f + l.length ∧ bs (s.extract f i) = l := by
  obtain ⟨hi, h1, h2, h3⟩ := h
  have key : i = f + l.length := by
    rcases Nat.lt_trichotomy i (f + l.length) with hlt | he | hgt
    · exfalso
      have e := bs_get hi
      rw [hs, List.getElem?_append_right (by omega), List.getElem?_append_left (by omega)] at e
      have hm := List.mem_of_getElem? e
      apply hl _ hm
      exact UInt8.toNat_inj.1 h2
    · exact he
    · exfalso
      have hj : f + l.length < s.size := by omega
      have e := bs_get hj
      rw [hs, List.getElem?_append_right (by omega), List.getElem?_append_right (by omega), show f + l.length - pre.length - l.length = 0 by omega] at e
      simp only [List.getElem?_cons_zero, Option.some.injEq] at e
      exact h3 (f + l.length) hgt (by omega) (by rw [← e]; rfl)
  refine ⟨key, ?_⟩
  subst hf
  rw [bs_extract, hs, key, List.take_length_add_append, List.drop_left, List.take_left]
theorem line_some {s : ByteArray} {pre l rest : List UInt8} {f : Nat} (hs : bs s = pre ++ (l ++ 10 :: rest)) (hf : pre.length = f) (h : ∀ j (hj : j < s.size), f ≤ j → (s[j]'hj).toNat ≠ 10) : False := by
  have hz := congrArg List.length hs
  rw [bs_len] at hz
  simp at hz
  have hj : f + l.length < s.size := by omega
  have e := bs_get hj
  rw [hs, List.getElem?_append_right (by omega), List.getElem?_append_right (by omega), show f + l.length - pre.length - l.length = 0 by omega] at e
  simp only [List.getElem?_cons_zero, Option.some.injEq] at e
  exact h (f + l.length) hj (by omega) (by rw [← e]; rfl)
def objL : List UInt8 := [111, 98, 106]
/-- The first line's bytes. -/
def objLine (p : ByteArray) (t : Int) (n : Nat) : List UInt8 := objL ++ 32 :: (bs p ++ 32 :: (numL t.toNat ++ 32 :: numL n))
theorem obj_first {s p : ByteArray} {ys : List ByteArray} {st : Int} {fs : List (ByteArray × ByteArray)} {b : ByteArray} {t : Int} (h : IsObj s p ys st fs b t) :
    bs s = [] ++ (objLine p t ys.length ++ 10 :: (lnL ys ++ bs (respT st fs b))) ∧ (∀ b ∈ objLine p t ys.length, b ≠ 10) ∧ wordsL [] [] (objLine p t ys.length) = [objL, bs p, numL t.toNat, numL ys.length] ∧ (objLine p t ys.length).length + 1 = (objHead p t ys.length).size := by
  obtain ⟨⟨hr, hp, ht, hnm, _, hl, hv⟩, rfl⟩ := h
  have h4 : ys.length ≤ 4 := by rw [hl]; exact hnm.2
  have n1 := num_no t.toNat (by omega)
  have n2 := num_no ys.length (by omega)
  refine ⟨?_, ?_, ?_, ?_⟩
  · rw [bs_objT]
    simp [objLine, objL, objW, bs]
  · intro x hx
    unfold objLine at hx
    simp only [List.mem_append, List.mem_cons] at hx
    rcases hx with hx | hx | hx | hx | hx | hx | hx
    · simp [objL] at hx; rcases hx with rfl | rfl | rfl <;> decide
    · subst hx; decide
    · exact (path_no hp x hx).2
    · subst hx; decide
    · exact (n1 x hx).2
    · subst hx; decide
    · exact (n2 x hx).2
  · unfold objLine
    rw [words_word _ _ (by unfold objL; decide), words_word _ _ (fun x hx => (path_no hp x hx).1), words_word _ _ (fun x hx => (n1 x hx).1), words_last _ (fun x hx => (n2 x hx).1)]
    rfl
  · rw [← bs_len, bs_head]
    simp [objLine, objL, objW, bs]
    omega
/-- Where the k-th value's line begins. -/
theorem obj_line {s p : ByteArray} {ys : List ByteArray} {st : Int} {fs : List (ByteArray × ByteArray)} {b : ByteArray} {t : Int} (h : IsObj s p ys st fs b t) (k : Nat) (hk : k < ys.length) :
    ∃ rest, bs s = bs (valsTo (objHead p t ys.length) ys k) ++ (bs (textAt ys k) ++ 10 :: rest) := by
  have e : ys.drop k = textAt ys k :: ys.drop (k + 1) := by
    rw [List.drop_eq_getElem_cons hk]
    congr 1
    unfold textAt
    rw [List.getD_eq_getElem?_getD, List.getElem?_eq_getElem hk]
    rfl
  have e2 : lnL ys = lnL (ys.take k) ++ (bs (textAt ys k) ++ 10 :: lnL (ys.drop (k + 1))) := by
    conv => lhs; rw [← List.take_append_drop k ys, e]
    simp [lnL]
  refine ⟨lnL (ys.drop (k + 1)) ++ bs (respT st fs b), ?_⟩
  rw [← h.2, bs_objT, bs_valsTo _ _ _ (by omega), bs_head, e2]
  simp only [List.append_assoc, List.cons_append, List.nil_append]
theorem obj_tail {s p : ByteArray} {ys : List ByteArray} {st : Int} {fs : List (ByteArray × ByteArray)} {b : ByteArray} {t : Int} (h : IsObj s p ys st fs b t) :
    s.extract (valsTo (objHead p t ys.length) ys ys.length).size s.size = respT st fs b := by
  apply bs_inj
  rw [bs_extract, ← bs_len s, List.take_length, ← h.2]
  unfold objT
  rw [bs_append, ← bs_len]
  simp

theorem vals_small {p : ByteArray} {xs ys : List ByteArray} {st : Int} {fs : List (ByteArray × ByteArray)} {b : ByteArray} {t : Int} (h : ObjP p xs ys st fs b t) : ∀ k, k ≤ ys.length → (valsTo (objHead p t ys.length) ys k).size ≤ 100 + 61 * k
  | 0, _ => by
    have h1 := h.2.1.2.2.1
    have h2 := numText_size t.toNat
    have h3 := numText_size ys.length
    have e1 : objW.size = 4 := rfl
    have e2 : (⟨#[32]⟩ : ByteArray).size = 1 := rfl
    have e3 : (⟨#[10]⟩ : ByteArray).size = 1 := rfl
    unfold valsTo objHead
    simp only [ByteArray.size_append]
    omega
  | k + 1, hk => by
    have h1 := vals_small h k (by omega)
    have h2 := (h.2.2.2.2.2.2 _ (textAt_mem ys k (by omega))).2.1
    have e3 : (⟨#[10]⟩ : ByteArray).size = 1 := rfl
    rw [valsTo]
    simp only [ByteArray.size_append]
    omega
theorem resp_small {st : Int} {fs : List (ByteArray × ByteArray)} {b : ByteArray} (h : RespP st fs b) : (respT st fs b).size ≤ 1000 := by
  have h1 := ft_small h.2.1
  have h2 := numText_size st.toNat
  have h3 := numText_size b.size
  have h4 := h.2.2
  have e1 : httpAhead.size = 9 := rfl
  have e2 : dotEnd.size = 4 := rfl
  have e3 : clenK.size = 16 := rfl
  have e4 : lnE2.size = 4 := rfl
  unfold respT
  simp only [ByteArray.size_append]
  omega
theorem numTextI_of {t : Int} (h : 0 ≤ t) : numTextI t = numText t.toNat := by unfold numTextI; rw [if_neg (by omega)]

end Go.Proofs.YtdlhicdfldecgaaGreatDoor

namespace Go.Proofs.YtdlhicdfldecgaaGreatDoor
open Go.RowKit
open Go.Lib hiding intOf

/-- A reader at the head of a block: its text in the first cell. -/
def RdX (w : World) (b : Nat) (left : ByteArray) (tl : List Value) (T : TypeId) : Prop := w.heap[b]? = some (.cells ⟨.string left :: tl⟩ T)
theorem RdX.cell {w : World} {b : Nat} {left : ByteArray} {tl : List Value} {T : TypeId} (h : RdX w b left tl T) : w.cell? ⟨b, 0, none⟩ = some (.string left) := by
  unfold RdX at h
  simp [World.cell?, h]
theorem RdX.frozen {w : World} {b : Nat} {left : ByteArray} {tl : List Value} {T : TypeId} (h : RdX w b left tl T) : w.frozen? ⟨b, 0, none⟩ = false := by
  unfold RdX at h
  simp [World.frozen?, h]
theorem RdX.put {w : World} {b : Nat} {left : ByteArray} {tl : List Value} {T : TypeId} (h : RdX w b left tl T) (x : ByteArray) : RdX (w.setCell ⟨b, 0, none⟩ (.string x)) b x tl T := by
  have h2 := heap_set w b 0 _ _ _ (.string x) h
  unfold RdX
  simpa using h2
def TookX (b : Nat) (left : ByteArray) (tl : List Value) (T : TypeId) (w w' : World) : Prop := RdX w' b left tl T ∧ w.grownBy w' (some b)

set_option maxHeartbeats 400000 in
theorem upToX_any (b : Nat) (left sep : ByteArray) (tl : List Value) (T : TypeId) (w : World) (h : RdX w b left tl T) (hl : left.size ≤ 4000000) (hm : LenOk w) :
    Calls Tryz.prog 138 #[.pointer (some ⟨b, 0, none⟩), .string sep] w fun e w' => e = .returned (.string (cutA left sep)) ∧ TookX b (cutB left sep) tl T w w' := by
  obtain ⟨m, hm⟩ := hm
  have hc := h.cell
  obtain ⟨x, hx⟩ : ∃ x, x = cutA left sep := ⟨_, rfl⟩
  obtain ⟨y, hy⟩ : ∃ y, y = cutB left sep := ⟨_, rfl⟩
  have HX : Hid ((⟨(Lib.cut left.data.toList sep.data.toList).1.toArray⟩ : ByteArray) = x) := hx.symm
  have HY : Hid ((⟨(Lib.cut left.data.toList sep.data.toList).2.1.toArray⟩ : ByteArray) = y) := hy.symm
  rw [← hx, ← hy]
  clear hx hy
  go_enter Tryz.func138, Tryz.ntmps138
  go_wp2_with fail
  refine (Tryz.strings_Cut left sep m _ (by omega) hm).mono ?_
  rintro e w1 ⟨rfl, k, rfl⟩
  rw [HX.out, HY.out]
  generalize (Lib.cut left.data.toList sep.data.toList).2.2 = t
  have h1 : RdX (w.drewN k) b left tl T := h
  have hg : w.grownBy (w.drewN k) (some b) := ⟨rfl, rfl, rfl, Nat.le_refl _, fun _ _ _ => rfl⟩
  have hc1 := h1.cell
  have hf1 := h1.frozen
  have HT : Hid (TookX b y tl T w ((w.drewN k).setCell ⟨b, 0, none⟩ (.string y))) := ⟨h1.put y, grown_then hg (grown_set _ _ _ _)⟩
  clear hc h hm h1 hg
  go_wp2_with fail
  go_ret
  exact ⟨rfl, HT.out⟩

set_option maxHeartbeats 400000 in
theorem passX_any (b : Nat) (left word : ByteArray) (tl : List Value) (T : TypeId) (w : World) (h : RdX w b left tl T) :
    Calls Tryz.prog 137 #[.pointer (some ⟨b, 0, none⟩), .string word] w fun e w' => e = .returned (.tuple #[]) ∧ TookX b (trimP left word) tl T w w' := by
  have hc := h.cell
  have hf := h.frozen
  have HT : Hid (TookX b (trimP left word) tl T w (w.setCell ⟨b, 0, none⟩ (.string (trimP left word)))) := ⟨h.put _, grown_set _ _ _ _⟩
  obtain ⟨y, hy⟩ : ∃ y, y = trimP left word := ⟨_, rfl⟩
  have HY : Hid ((⟨(Lib.trimPrefix left.data.toList word.data.toList).toArray⟩ : ByteArray) = y) := hy.symm
  rw [← hy] at HT ⊢
  clear hy h
  go_enter Tryz.func137, Tryz.ntmps137
  go_wp2_with fail
  refine (Tryz.strings_TrimPrefix left word _).mono ?_
  rintro e w1 ⟨rfl, rfl⟩
  rw [HY.out]
  go_wp2_with fail
  exact bodyPost_end (v := .tuple #[]) (by simp [results, Tryz.results137, go_sem]) rfl ⟨rfl, HT.out⟩

end Go.Proofs.YtdlhicdfldecgaaGreatDoor

namespace Go.Proofs.YtdlhicdfldecgaaGreatDoor
open Go.RowKit
open Go.Lib hiding intOf

set_option maxHeartbeats 1000000 in
theorem fieldOk_any (v : Value) (n base : Nat) (fs : List (ByteArray × ByteArray)) (k : Nat) (w : World) (hv : FieldsV w base v n fs) (hn : n ≤ 1073741824) (hk : k < n) (hs1 : (nameAt fs k).size ≤ maxLen) (hs2 : (valAt fs k).size ≤ maxLen) :
    Calls Tryz.prog 169 #[v, .int .i64 (k : Int)] w fun e w' => BoolIs (FldOk fs k) w e w' := by
  have HV : Hid (∀ W, Below w.heap.size w W → FieldsV W base v n fs) := fun W h => hv.below h
  obtain ⟨oa, cap, rfl, hrow⟩ := hv.slice
  obtain ⟨g, rfl, row⟩ := hrow k hk
  have hlt2 : (k : Int) < (n : Int) := by omega
  have hc1 := row.name k hk
  have hc2 := row.val k hk
  obtain ⟨nm, hnm⟩ : ∃ x, x = nameAt fs k := ⟨_, rfl⟩
  obtain ⟨vl, hvl⟩ : ∃ x, x = valAt fs k := ⟨_, rfl⟩
  have HO : Hid (FldOk fs k ↔ TokOk nm ∧ ValOk vl ∧ atF fs nm = k ∧ nm ≠ clen) := by rw [hnm, hvl]; exact Iff.rfl
  rw [← hnm] at hc1 hs1
  rw [← hvl] at hc2 hs2
  clear hv hrow row hnm hvl
  obtain ⟨r, hr⟩ : ∃ r, r = w.heap.size := ⟨_, rfl⟩
  have h0 : (w.alloc (.cells #[.string nm, .string vl] 131)).heap.size = w.heap.size + 1 := by simp
  have HB0 : Hid (Below w.heap.size w (w.alloc (.cells #[.string nm, .string vl] 131)) ∧ w.heap.size ≤ (w.alloc (.cells #[.string nm, .string vl] 131)).heap.size) := ⟨(Below.refl _ w).alloc (Nat.le_refl _) _, by omega⟩
  have HR : Hid (∀ W, Below (w.alloc (.cells #[.string nm, .string vl] 131)).heap.size (w.alloc (.cells #[.string nm, .string vl] 131)) W → W.cell? ⟨r, 0, none⟩ = some (.string nm) ∧ W.cell? ⟨r, 1, none⟩ = some (.string vl)) := fun W h => by
    have hh : W.heap[r]? = some (.cells #[.string nm, .string vl] 131) := by rw [hr, h.block _ (by omega)]; exact heap_alloc_new w _
    exact ⟨by simp [World.cell?, hh], by simp [World.cell?, hh]⟩
  go_enter Tryz.func169, Tryz.ntmps169
  go_wp2_with fail
  refine (implTokenOk_any nm _ hs1).mono ?_
  rintro e w1 ⟨b1, rfl, kb1, bb1⟩
  rw [← hr]
  have hb1 : Below w.heap.size w w1 := HB0.out.1.trans (bb1.mono HB0.out.2)
  obtain ⟨d1, d2⟩ := HR.out w1 bb1
  clear h0
  cases b1
  · have HF : Hid (¬ FldOk fs k) := fun h => by have := kb1.2 (HO.out.1 h).1; cases this
    clear kb1 hc1 hc2 bb1 hr
    go_wp2_with fail
    go_ret
    exact BoolIs.no HF.out hb1
  · have HT : Hid (TokOk nm) := kb1.1 rfl
    clear kb1 hc1 hc2 hr
    go_wp2_with fail
    refine (implValueOk_any vl _ hs2).mono ?_
    rintro e w2 ⟨b2, rfl, kb2, bb2⟩
    have bb2' := bb1.trans (bb2.mono bb1.size)
    have hb2 : Below w.heap.size w w2 := HB0.out.1.trans (bb2'.mono HB0.out.2)
    obtain ⟨d3, d4⟩ := HR.out w2 bb2'
    cases b2
    · have HF : Hid (¬ FldOk fs k) := fun h => by have := kb2.2 (HO.out.1 h).2.1; cases this
      clear kb2 bb1 bb2 bb2' hb1 d1 d2
      go_wp2_with fail
      go_ret
      exact BoolIs.no HF.out hb2
    · have HT2 : Hid (ValOk vl) := kb2.1 rfl
      clear kb2 bb1 bb2 bb2' hb1 d1 d2
      by_cases hcl : nm = clen
      · have ht := (text_beq _ _).2 hcl
        rw [clen_list] at ht
        have HF : Hid (¬ FldOk fs k) := fun h => (HO.out.1 h).2.2.2 hcl
        clear hcl
        go_wp2_with fail
        go_ret
        exact BoolIs.no HF.out hb2
      · have ht := text_beq_no hcl
        rw [clen_list] at ht
        have HC : Hid (nm ≠ clen) := hcl
        clear hcl
        go_wp2_with fail
        refine (place_any _ n base fs nm _ (HV.out w2 hb2) hn).mono ?_
        rintro e w3 ⟨rfl, rfl⟩
        by_cases hat : atF fs nm = k
        · have HY : Hid (FldOk fs k) := HO.out.2 ⟨HT.out, HT2.out, hat, HC.out⟩
          rw [hat]
          clear hat
          go_wp2
          go_ret
          exact BoolIs.yes HY.out hb2
        · have HF : Hid (¬ FldOk fs k) := fun h => hat (HO.out.1 h).2.2.1
          have hne : ((atF fs nm : Int) == (k : Int)) = false := by rw [beq_eq_false_iff_ne]; omega
          clear hat
          go_wp2
          go_ret
          exact BoolIs.no HF.out hb2

set_option maxHeartbeats 1000000 in
theorem ok_any (v : Value) (n base : Nat) (fs : List (ByteArray × ByteArray)) (w : World) (hv : FieldsV w base v n fs) (hn : n ≤ 1073741824) (hsz : ∀ i, i < n → (nameAt fs i).size ≤ maxLen ∧ (valAt fs i).size ≤ maxLen) :
    Calls Tryz.prog 152 #[v] w fun e w' => BoolIs (FldsOk fs) w e w' := by
  have hl := hv.len
  have HV : Hid (∀ W, Below w.heap.size w W → FieldsV W base v n fs) := fun W h => hv.below h
  have HS : Hid (∀ i, i < n → (nameAt fs i).size ≤ maxLen ∧ (valAt fs i).size ≤ maxLen) := hsz
  obtain ⟨oa, cap, rfl, hrow⟩ := hv.slice
  clear hv hrow hsz
  by_cases h8 : (8 : Int) < (n : Int)
  · have HF : Hid (¬ FldsOk fs) := fun h => by have := h.1; omega
    go_enter Tryz.func152, Tryz.ntmps152
    go_wp2
    go_ret
    exact BoolIs.no HF.out (Below.refl _ _)
  · go_enter Tryz.func152, Tryz.ntmps152
    go_wp2
    go_loopw [9] (fun i wr => ∃ k : Nat, k ≤ n ∧ i = .int .i64 (k : Int) ∧ Hid (∀ j, j < k → FldOk fs j) ∧ Below w.heap.size w wr) (fun i _ => n - (intOf i).toNat)
    case atStart => exact ⟨0, Nat.zero_le _, rfl, fun j h => absurd h (by omega), Below.refl _ _⟩
    case round =>
      obtain ⟨k, hk, rfl, hall, hbw⟩ := hrel
      by_cases hlt : k < n
      · have hlt2 : (k : Int) < (n : Int) := by omega
        obtain ⟨hs1, hs2⟩ := HS.out k hlt
        go_wp2_with fail
        refine (fieldOk_any _ n base fs k _ (HV.out wr hbw) hn hlt hs1 hs2).mono ?_
        rintro e w1 ⟨b1, rfl, kb1, bb1⟩
        have hb1 : Below w.heap.size w w1 := hbw.trans (bb1.mono hbw.size)
        cases b1
        · have HF : Hid (¬ FldsOk fs) := fun h => by have := kb1.2 (h.2 k (by omega)); cases this
          clear kb1 bb1
          go_wp2
          go_ret
          exact BoolIs.no HF.out hb1
        · have HY : Hid (FldOk fs k) := kb1.1 rfl
          clear kb1 bb1
          go_wp2
          go_roundw
          case rel =>
            refine ⟨k + 1, by omega, by go_num, ?_, hb1⟩
            intro j hj
            by_cases e : j = k
            · subst e; exact HY.out
            · exact hall.out j (by omega)
          case measure => simp [intOf]; omega
      · have HF : Hid (FldsOk fs) := ⟨by omega, fun i hi => hall.out i (by omega)⟩
        go_wp2
        go_ret
        exact BoolIs.yes HF.out hbw

end Go.Proofs.YtdlhicdfldecgaaGreatDoor

namespace Go.Proofs.YtdlhicdfldecgaaGreatDoor
open Go.RowKit
open Go.Lib hiding intOf

theorem path_cls (n : Int) : PathB n ↔ (cls n ≠ 4 ∧ cls n ≠ 7) := by
  have := cls_spec n
  unfold PathB
  constructor
  · intro h; omega
  · intro h; omega
theorem path_small {n : Int} (h : PathB n) : n < 128 := by unfold PathB at h; omega

set_option maxHeartbeats 400000 in
theorem isPathRune_any (r : Int) (w : World) :
    Calls Tryz.prog 87 #[.int .i32 r] w fun e w' => BoolIs (PathB r) w e w' := by
  have HP : Hid (PathB r ↔ (cls r ≠ 4 ∧ cls r ≠ 7)) := path_cls r
  go_enter Tryz.func87, Tryz.ntmps87
  go_wp2_with fail
  refine (classOf_any r _).mono ?_
  rintro e w1 ⟨rfl, hb⟩
  generalize cls r = c at HP ⊢
  by_cases h4 : c = 4
  · have HN : Hid (¬ PathB r) := fun h => (HP.out.1 h).1 h4
    subst h4
    go_wp2_with fail
    go_ret
    exact BoolIs.no HN.out hb
  · have h5 : (c != 4) = true := by rw [bne_iff_ne]; exact h4
    by_cases h7 : c = 7
    · have HN : Hid (¬ PathB r) := fun h => (HP.out.1 h).2 h7
      subst h7
      go_wp2_with fail
      go_ret
      exact BoolIs.no HN.out hb
    · have h8 : (c != 7) = true := by rw [bne_iff_ne]; exact h7
      have HY : Hid (PathB r) := HP.out.2 ⟨h4, h7⟩
      go_wp2_with fail
      go_ret
      exact BoolIs.yes HY.out hb

set_option maxHeartbeats 1000000 in
theorem allRunes_path (s : ByteArray) (w : World) :
    Calls Tryz.prog 86 #[.string s, .func (.func 87) #[] #[]] w fun e w' => BoolIs (AllB PathB s) w e w' := by
  go_enter Tryz.func86, Tryz.ntmps86
  go_wp2
  go_loopw [6] (fun _ wr => ∃ pos : Nat, wr.heap[w.heap.size]? = some (.stringIter s pos) ∧ Below w.heap.size w wr ∧ Hid (AllTo PathB s pos)) (fun _ wr => s.size - wr.iterPos w.heap.size)
  case atStart => exact ⟨0, World.iter_heap _ _ _, (Below.refl _ _).alloc (Nat.le_refl _) _, allTo_zero _ _⟩
  case round =>
    obtain ⟨pos, hh, hbw, hall⟩ := hrel
    by_cases hp : pos < s.size
    · have hnx := fun ty => run_next_any_at (P := Tryz.prog) wr w.heap.size s pos ty hh hp
      go_wp2_with (go_at_call 87; refine (isPathRune_any _ _).mono ?_; rintro e w1 ⟨b, rfl, hbt, hb1⟩)
      · have hbf : b = false := by simpa using ‹(!b) = true›
        have hno : ¬ PathB ((Utf8.decode s pos).1 : Int) := fun h => by rw [hbt.2 h] at hbf; cases hbf
        go_ret
        exact BoolIs.no (rune_no (fun _ => path_small) s pos hp hno) (iter_step hh hbw hb1).2
      · have hbf : b = true := by simpa using ‹(!b) = false›
        obtain ⟨hv, hone⟩ := rune_ok (fun _ => path_small) s pos hp (hbt.1 hbf)
        rw [hone] at hb1
        obtain ⟨h1, h2⟩ := iter_step hh hbw hb1
        exact ⟨⟨pos + 1, h1, h2, allTo_succ hall.out hp hv⟩, by rw [iterPos_of h1, iterPos_of hh]; omega⟩
    · have hnx := fun ty => run_next_end_at (P := Tryz.prog) wr w.heap.size s pos ty hh hp
      go_wp2
      go_ret
      exact BoolIs.yes (allTo_end hall.out hp) hbw

set_option maxHeartbeats 1000000 in
theorem pathOk_any (s : ByteArray) (w : World) (hs : s.size ≤ maxLen) :
    Calls Tryz.prog 33 #[.string s] w fun e w' => BoolIs (PathOk s) w e w' := by
  unfold maxLen at hs
  by_cases h1 : (1 : Int) ≤ (s.size : Int)
  · have h0 : 0 < s.size := by omega
    by_cases h2 : (s.size : Int) ≤ 60
    · by_cases h3 : ((s[0]'h0).toNat : Int) = 47
      · have h4 : (((s[0]'h0).toNat : Int) == 47) = true := by rw [beq_iff_eq]; exact h3
        have H3 : Hid ((s[0]'h0).toNat = 47) := by show _ = _; omega
        clear h3
        go_enter Tryz.func33, Tryz.ntmps33
        go_wp2_with fail
        refine (allRunes_path s _).mono ?_
        rintro e w1 ⟨b, rfl, hbt, hb1⟩
        cases b
        · have HN : Hid (¬ PathOk s) := fun h => by have := hbt.2 h.1; cases this
          clear hbt
          go_wp2_with fail
          go_ret
          exact BoolIs.no HN.out hb1
        · have HY : Hid (PathOk s) := ⟨hbt.1 rfl, by omega, by omega, h0, H3.out⟩
          clear hbt
          go_wp2_with fail
          go_ret
          exact BoolIs.yes HY.out hb1
      · have h4 : (((s[0]'h0).toNat : Int) == 47) = false := by rw [beq_eq_false_iff_ne]; exact h3
        have HN : Hid (¬ PathOk s) := fun h => by obtain ⟨_, _, _, _, h5⟩ := h; omega
        clear h3
        go_enter Tryz.func33, Tryz.ntmps33
        go_wp2_with fail
        go_ret
        exact BoolIs.no HN.out (Below.refl _ _)
    · have HN : Hid (¬ PathOk s) := fun h => by obtain ⟨_, _, h5, _⟩ := h; omega
      have hd : decide ((s.size : Int) ≤ 60) = false := by simpa using h2
      go_enter Tryz.func33, Tryz.ntmps33
      go_wp2_with fail
      go_ret
      exact BoolIs.no HN.out (Below.refl _ _)
  · have HN : Hid (¬ PathOk s) := fun h => by obtain ⟨_, h5, _⟩ := h; omega
    have hd : decide ((1 : Int) ≤ (s.size : Int)) = false := by simpa using h1
    go_enter Tryz.func33, Tryz.ntmps33
    go_wp2_with fail
    go_ret
    exact BoolIs.no HN.out (Below.refl _ _)

/-- What is right of what stands behind the first line. -/
def RestP (fs : List (ByteArray × ByteArray)) (b : ByteArray) : Prop := FldsOk fs ∧ b.size ≤ 120
set_option maxHeartbeats 1000000 in
theorem restOk_any (v : Value) (b : ByteArray) (n base : Nat) (fs : List (ByteArray × ByteArray)) (w : World) (hv : FieldsV w base v n fs) (hn : n ≤ 1073741824) (hsz : WalkF n fs) (hb : b.size ≤ maxLen) :
    Calls Tryz.prog 131 #[.agg #[v, .string b]] w fun e w' => BoolIs (RestP fs b) w e w' := by
  obtain ⟨oa, cap, rfl, _⟩ := hv.slice
  obtain ⟨r, hr⟩ : ∃ r, r = w.heap.size := ⟨_, rfl⟩
  have HR : Hid (∀ W, Below (w.alloc (.cells #[.slice oa n cap, .string b] 76)).heap.size (w.alloc (.cells #[.slice oa n cap, .string b] 76)) W → (W.cell? ⟨r, 0, none⟩ = some (.slice oa n cap) ∧ W.cell? ⟨r, 1, none⟩ = some (.string b)) ∧ FieldsV W base (.slice oa n cap) n fs ∧ Below w.heap.size w W) := fun W h => by
    have hh := kept_new h
    rw [← hr] at hh
    exact ⟨⟨by simp [World.cell?, hh], by simp [World.cell?, hh]⟩, hv.below (below_new h), below_new h⟩
  obtain ⟨_, hv0, _⟩ := HR.out _ (Below.refl _ _)
  unfold maxLen at hb
  go_enter Tryz.func131, Tryz.ntmps131
  go_wp2_with fail
  refine (ok_any _ n base fs _ hv0 hn hsz).mono ?_
  rintro e w1 ⟨b1, rfl, kb1, bb1⟩
  rw [← hr]
  obtain ⟨⟨c0, c1⟩, _, hbw1⟩ := HR.out w1 bb1
  clear hv hv0 hsz bb1 hr
  cases b1
  · have HF : Hid (¬ RestP fs b) := fun h => by have := kb1.2 h.1; cases this
    clear kb1
    go_wp2_with fail
    go_ret
    exact BoolIs.no HF.out hbw1
  · have HT : Hid (FldsOk fs) := kb1.1 rfl
    clear kb1
    by_cases h120 : (b.size : Int) ≤ 120
    · have HY : Hid (RestP fs b) := ⟨HT.out, by omega⟩
      go_wp2_with fail
      go_ret
      exact BoolIs.yes HY.out hbw1
    · have HF : Hid (¬ RestP fs b) := fun h => by have := h.2; omega
      have hd : decide ((b.size : Int) ≤ 120) = false := by simpa using h120
      go_wp2_with fail
      go_ret
      exact BoolIs.no HF.out hbw1

set_option maxHeartbeats 1000000 in
theorem respOk_any (st : Int) (v : Value) (b : ByteArray) (n base : Nat) (fs : List (ByteArray × ByteArray)) (w : World) (hv : FieldsV w base v n fs) (hn : n ≤ 1073741824) (hsz : WalkF n fs) (hb : b.size ≤ maxLen) :
    Calls Tryz.prog 85 #[.agg #[v, .string b, .int .i64 st]] w fun e w' => BoolIs (RespP st fs b) w e w' := by
  obtain ⟨oa, cap, rfl, _⟩ := hv.slice
  obtain ⟨r, hr⟩ : ∃ r, r = w.heap.size := ⟨_, rfl⟩
  have HR : Hid (∀ W, Below (w.alloc (.cells #[.slice oa n cap, .string b, .int .i64 st] 78)).heap.size (w.alloc (.cells #[.slice oa n cap, .string b, .int .i64 st] 78)) W → (W.cell? ⟨r, 0, none⟩ = some (.slice oa n cap) ∧ W.cell? ⟨r, 1, none⟩ = some (.string b) ∧ W.cell? ⟨r, 2, none⟩ = some (.int .i64 st)) ∧ FieldsV W base (.slice oa n cap) n fs ∧ Below w.heap.size w W) := fun W h => by
    have hh := kept_new h
    rw [← hr] at hh
    exact ⟨⟨by simp [World.cell?, hh], by simp [World.cell?, hh], by simp [World.cell?, hh]⟩, hv.below (below_new h), below_new h⟩
  obtain ⟨_, hv0, hbw0⟩ := HR.out _ (Below.refl _ _)
  have HV0 : Hid (FieldsV (w.alloc (.cells #[.slice oa n cap, .string b, .int .i64 st] 78)) base (.slice oa n cap) n fs) := hv0
  have HSZ : Hid (WalkF n fs) := hsz
  have HBS : Hid (b.size ≤ maxLen) := hb
  clear hv hv0 hsz hb
  by_cases h1 : 100 ≤ st
  · by_cases h2 : st ≤ 599
    · go_enter Tryz.func85, Tryz.ntmps85
      go_wp2_with fail
      refine (restOk_any _ b n base fs _ HV0.out hn HSZ.out HBS.out).mono ?_
      rintro e w3 ⟨b2, rfl, kb2, bb3⟩
      obtain ⟨_, _, hbw3⟩ := HR.out w3 bb3
      clear bb3 hbw0
      cases b2
      · have HF : Hid (¬ RespP st fs b) := fun h => by have := kb2.2 h.2; cases this
        clear kb2
        go_wp2_with fail
        go_ret
        exact BoolIs.no HF.out hbw3
      · have HY : Hid (RespP st fs b) := ⟨⟨h1, h2⟩, kb2.1 rfl⟩
        clear kb2
        go_wp2_with fail
        go_ret
        exact BoolIs.yes HY.out hbw3
    · have HF : Hid (¬ RespP st fs b) := fun h => h2 h.1.2
      have hd : decide (st ≤ 599) = false := by simpa using h2
      go_enter Tryz.func85, Tryz.ntmps85
      go_wp2_with fail
      go_ret
      exact BoolIs.no HF.out hbw0
  · have HF : Hid (¬ RespP st fs b) := fun h => h1 h.1.1
    have hd : decide (100 ≤ st) = false := by simpa using h1
    go_enter Tryz.func85, Tryz.ntmps85
    go_wp2_with fail
    go_ret
    exact BoolIs.no HF.out hbw0

set_option maxHeartbeats 400000 in
theorem answerOf_any (m : Int) (oa : Option Addr) (n cap : Nat) (b : ByteArray) (w : World) :
    Calls Tryz.prog 40 #[.agg #[.int .i64 m, .slice oa n cap, .string b]] w fun e w' => e = .returned (.agg #[.slice oa n cap, .string b, .int .i64 m]) ∧ Below w.heap.size w w' := by
  go_enter Tryz.func40, Tryz.ntmps40
  go_wp2
  exact bodyPost_ret (v := .agg #[.slice oa n cap, .string b, .int .i64 m]) (by simp [results, Tryz.results40, go_sem]) rfl ⟨rfl, ((Below.refl _ _).alloc (Nat.le_refl _) _).alloc (by simp) _⟩
set_option maxHeartbeats 400000 in
theorem faceA_any (m : Int) (oa : Option Addr) (n cap : Nat) (b : ByteArray) (w : World) :
    Calls Tryz.prog 158 #[.agg #[.slice oa n cap, .string b, .int .i64 m]] w fun e w' => e = .returned (.agg #[.int .i64 m, .slice oa n cap, .string b]) ∧ Below w.heap.size w w' := by
  go_enter Tryz.func158, Tryz.ntmps158
  go_wp2
  exact bodyPost_ret (v := .agg #[.int .i64 m, .slice oa n cap, .string b]) (by simp [results, Tryz.results158, go_sem]) rfl ⟨rfl, ((Below.refl _ _).alloc (Nat.le_refl _) _).alloc (by simp) _⟩

set_option maxHeartbeats 400000 in
theorem implRespOk_any (m : Int) (v : Value) (b : ByteArray) (n base : Nat) (fs : List (ByteArray × ByteArray)) (w : World) (hv : FieldsV w base v n fs) (hn : n ≤ 1073741824) (hsz : WalkF n fs) (hb : b.size ≤ maxLen) :
    Calls Tryz.prog 32 #[.agg #[.int .i64 m, v, .string b]] w fun e w' => BoolIs (RespP m fs b) w e w' := by
  obtain ⟨oa, cap, rfl, _⟩ := hv.slice
  have hb0 : Below w.heap.size w (w.alloc (.cells #[.int .i64 m, .slice oa n cap, .string b] 27)) := (Below.refl _ _).alloc (Nat.le_refl _) _
  go_enter Tryz.func32, Tryz.ntmps32
  go_wp2_with fail
  refine (answerOf_any m oa n cap b _).mono ?_
  rintro e w1 ⟨rfl, bb1⟩
  have hb1 : Below w.heap.size w w1 := hb0.trans (bb1.mono hb0.size)
  have hv1 := hv.below hb1
  clear bb1 hb0 hv
  go_wp2_with fail
  refine (respOk_any m _ b n base fs _ hv1 hn hsz hb).mono ?_
  rintro e w2 ⟨b1, rfl, kb, bb2⟩
  have hb2 : Below w.heap.size w w2 := hb1.trans (bb2.mono hb1.size)
  have HK : Hid (b1 = true ↔ RespP m fs b) := kb
  clear hv1 hsz hb bb2 hb1 kb
  go_wp2_with fail
  go_ret
  exact ⟨b1, rfl, HK.out, hb2⟩

end Go.Proofs.YtdlhicdfldecgaaGreatDoor

namespace Go.Proofs
open Go.Shelf
def Tryz.lays166_ren : Go.Shelf.Ren := ⟨fun | 166 => 26 | 240 => 76 | 276 => 126 | n => n, fun | 0 => 0 | 3 => 3 | 4 => 4 | 5 => 5 | 9 => 9 | 20 => 20 | 37 => 22 | 70 => 51 | 72 => 53 | 75 => 55 | 80 => 59 | 164 => 143 | n => n, fun | n => n⟩
theorem Tryz.lays166 : Go.Proofs.Lays.n166 Tryz.prog Tryz.lays166_ren := {
  mixed := by kernel_rfl
  f166 := Tryz.func26.trans (congrArg some (by kernel_rfl))
  f240 := Tryz.func76.trans (congrArg some (by kernel_rfl))
  f276 := Tryz.func126.trans (congrArg some (by kernel_rfl))
  t0 := Tryz.underlying0
  a0 := Tryz.isAgg0
  z0 := Tryz.sizeOf0
  v0 := Tryz.zeroValue0
  t3 := Tryz.underlying3
  a3 := Tryz.isAgg3
  z3 := Tryz.sizeOf3
  v3 := Tryz.zeroValue3
  t4 := Tryz.underlying4
  a4 := Tryz.isAgg4
  z4 := Tryz.sizeOf4
  v4 := Tryz.zeroValue4
  t9 := Tryz.underlying9
  a9 := Tryz.isAgg9
  z9 := Tryz.sizeOf9
  v9 := Tryz.zeroValue9
  t20 := Tryz.underlying20
  a20 := Tryz.isAgg20
  z20 := Tryz.sizeOf20
  v20 := Tryz.zeroValue20
  t37 := Tryz.underlying22
  a37 := Tryz.isAgg22
  z37 := Tryz.sizeOf22
  v37 := Tryz.zeroValue22
  t70 := Tryz.underlying51
  a70 := Tryz.isAgg51
  z70 := Tryz.sizeOf51
  v70 := Tryz.zeroValue51
  t72 := Tryz.underlying53
  a72 := Tryz.isAgg53
  z72 := Tryz.sizeOf53
  v72 := Tryz.zeroValue53
  t75 := Tryz.underlying55
  a75 := Tryz.isAgg55
  z75 := Tryz.sizeOf55
  v75 := Tryz.zeroValue55
  t164 := Tryz.underlying143
  a164 := Tryz.isAgg143
  z164 := Tryz.sizeOf143
  v164 := Tryz.zeroValue143 }
theorem Tryz.Builder_Extra_166 : Builder.Extra Tryz.prog Tryz.lays166_ren := {
  sizeBuilder := by kernel_rfl
  liesBuilder := by kernel_rfl
  t5 := Tryz.underlying5
  a5 := Tryz.isAgg5
  z5 := Tryz.sizeOf5
  v5 := Tryz.zeroValue5
  infoByte := by kernel_rfl
  cellsByte := by kernel_rfl
  sizeByte := by kernel_rfl
  neB5 := by decide }
open Go.RowKit in
theorem Tryz.Builder_WriteString (B b : Nat) (bs : List Value) (s : ByteArray) (w : World) (h : Lib.IsBuilder 53 5 B b bs w) (hlen : bs.length + s.size ≤ 140737488355328) (hBw : B ≤ w.heap.size) :
    Calls Tryz.prog 26 #[.pointer (some ⟨b, 0, none⟩), .string s] w fun e w' => e = .returned (.tuple #[.int .i64 s.size, .nilIface]) ∧ (Lib.BuilderAt 53 5 B b (.pointer (some ⟨b, 0, none⟩)) (bs ++ Lib.strCells s) w' ∧ Below B w w') := Any.Builder_WriteString Tryz.lays166 Tryz.Builder_Extra_166 B b bs s w h hlen hBw
end Go.Proofs
namespace Go.Proofs.YtdlhicdfldecgaaGreatDoor
open Go.RowKit
open Go.Lib hiding intOf

theorem strCells_append (a b : ByteArray) : strCells (a ++ b) = strCells a ++ strCells b := by simp [strCells]
/-- A builder of the call's own that holds this text. -/
def Holding (B : Nat) (t : ByteArray) (w : World) : Prop := IsBuilder 53 5 B B (strCells t) w

set_option maxHeartbeats 1000000 in
theorem write_any (B : Nat) (t s : ByteArray) (w : World) (h : Holding B t w) (hlen : t.size + s.size ≤ 140737488355328) (hBw : B ≤ w.heap.size) :
    Calls Tryz.prog 26 #[.pointer (some ⟨B, 0, none⟩), .string s] w fun e w' => e = .returned (.tuple #[.int .i64 s.size, .nilIface]) ∧ Holding B (t ++ s) w' ∧ Below B w w' := by
  refine (Tryz.Builder_WriteString B B _ s w h (by rw [strCells_length]; exact hlen) hBw).mono ?_
  rintro e w' ⟨rfl, h1, h2⟩
  exact ⟨rfl, .inr (by rw [strCells_append]; exact h1), h2⟩
theorem text_out (B : Nat) (t : ByteArray) (w : World) (h : Holding B t w) (hBw : B ≤ w.heap.size) :
    Calls Tryz.prog 28 #[.pointer (some ⟨B, 0, none⟩)] w fun e w' => e = .returned (.string t) ∧ Below B w w' :=
  Tryz.Builder_String_any B B t.data.toList w h hBw

set_option maxHeartbeats 2000000 in
theorem text_any (v : Value) (n base : Nat) (fs : List (ByteArray × ByteArray)) (w : World) (hv : FieldsV w base v n fs) (hn : n ≤ 1073741824) (hsz : (fieldsText fs).size ≤ 1099511627776) :
    Calls Tryz.prog 141 #[v] w fun e w' => TextIs (fieldsText fs) w e w' := by
  have hl := hv.len
  obtain ⟨oa, cap, rfl, hrow⟩ := hv.slice
  have HROW : Hid (∀ k, k < n → ∃ g, oa = some ⟨g, 0, none⟩ ∧ FieldRow base w g n cap fs) := hrow
  have HZ : Hid (∀ k, k < n → (ftTo fs (k + 1)).size ≤ 1099511627776) := fun k hk => by
    have := ftTo_mono fs (k + 1) (fs.length - (k + 1))
    rw [show k + 1 + (fs.length - (k + 1)) = fs.length by omega] at this
    exact Nat.le_trans this hsz
  have HF : Hid (fieldsText fs = ftTo fs n) := by show _ = _; unfold fieldsText; rw [hl]
  have H0 : Hid (Holding w.heap.size ⟨#[]⟩ (w.alloc (.cells #[.pointer none, .slice none 0 0] 53))) := fresh_isBuilder 53 5 w
  clear hsz hv hrow
  go_enter Tryz.func141, Tryz.ntmps141
  go_wp2
  go_loopw [7] (fun i wr => ∃ k : Nat, k ≤ n ∧ i = .int .i64 (k : Int) ∧ Hid (Holding w.heap.size (ftTo fs k) wr) ∧ Below w.heap.size w wr) (fun i _ => n - (intOf i).toNat)
  case atStart => exact ⟨0, Nat.zero_le _, rfl, H0, (Below.refl _ _).alloc (Nat.le_refl _) _⟩
  case round =>
    obtain ⟨k, hk, rfl, hI, hbw⟩ := hrel
    by_cases hlt : k < n
    · have hlt2 : (k : Int) < (n : Int) := by omega
      obtain ⟨g, rfl, row⟩ := HROW.out k hlt
      obtain ⟨nm, hnm⟩ : ∃ x, x = nameAt fs k := ⟨_, rfl⟩
      obtain ⟨vl, hvl⟩ : ∃ x, x = valAt fs k := ⟨_, rfl⟩
      obtain ⟨out, hout⟩ : ∃ x, x = ftTo fs k := ⟨_, rfl⟩
      have HR : Hid (∀ W, Below w.heap.size w W → W.cell? ⟨g, k * 2, none⟩ = some (.string nm) ∧ W.cell? ⟨g, k * 2 + 1, none⟩ = some (.string vl)) := fun W h => by
        rw [hnm, hvl]; exact ⟨(row.below h row.lt).name k hlt, (row.below h row.lt).val k hlt⟩
      have hz := HZ.out k hlt
      rw [ftTo_size] at hz
      have HN : Hid (out ++ nm ++ ⟨#[58, 32]⟩ ++ vl ++ ⟨#[13, 10]⟩ = ftTo fs (k + 1)) := by
        show _ = _
        rw [ftTo, ← hout, hnm, hvl]
      rw [← hout, ← hnm, ← hvl] at hz
      rw [← hout] at hI
      have e1 : (⟨#[58, 32]⟩ : ByteArray).size = 2 := rfl
      have e2 : (⟨#[13, 10]⟩ : ByteArray).size = 2 := rfl
      have q1 : out.size + nm.size ≤ 140737488355328 := by omega
      have q2 : (out ++ nm).size + (⟨#[58, 32]⟩ : ByteArray).size ≤ 140737488355328 := by rw [ByteArray.size_append]; omega
      have q3 : (out ++ nm ++ ⟨#[58, 32]⟩).size + vl.size ≤ 140737488355328 := by rw [ByteArray.size_append, ByteArray.size_append]; omega
      have q4 : (out ++ nm ++ ⟨#[58, 32]⟩ ++ vl).size + (⟨#[13, 10]⟩ : ByteArray).size ≤ 140737488355328 := by rw [ByteArray.size_append, ByteArray.size_append, ByteArray.size_append]; omega
      obtain ⟨c1, c2⟩ := HR.out wr hbw
      clear hnm hvl hout hz row
      go_wp2_with fail
      refine (write_any w.heap.size out nm _ hI.out q1 hbw.size).mono ?_
      rintro e w1 ⟨rfl, hI1, hb1⟩
      have hbw1 := hbw.trans hb1
      have HI1 : Hid (Holding w.heap.size (out ++ nm) w1) := hI1
      obtain ⟨c1a, c2a⟩ := HR.out w1 hbw1
      clear c1 c2 hb1 hI1 hI hbw
      go_wp2_with fail
      refine (write_any w.heap.size (out ++ nm) ⟨#[58, 32]⟩ _ HI1.out q2 hbw1.size).mono ?_
      rintro e w2 ⟨rfl, hI2, hb2⟩
      have hbw2 := hbw1.trans hb2
      have HI2 : Hid (Holding w.heap.size (out ++ nm ++ ⟨#[58, 32]⟩) w2) := hI2
      obtain ⟨c1b, c2b⟩ := HR.out w2 hbw2
      clear c1a c2a hb2 hI2 HI1 hbw1
      go_wp2_with fail
      refine (write_any w.heap.size (out ++ nm ++ ⟨#[58, 32]⟩) vl _ HI2.out q3 hbw2.size).mono ?_
      rintro e w3 ⟨rfl, hI3, hb3⟩
      have hbw3 := hbw2.trans hb3
      have HI3 : Hid (Holding w.heap.size (out ++ nm ++ ⟨#[58, 32]⟩ ++ vl) w3) := hI3
      clear c1b c2b hb3 hI3 HI2 hbw2
      go_wp2_with fail
      refine (write_any w.heap.size (out ++ nm ++ ⟨#[58, 32]⟩ ++ vl) ⟨#[13, 10]⟩ _ HI3.out q4 hbw3.size).mono ?_
      rintro e w4 ⟨rfl, hI4, hb4⟩
      have hbw4 := hbw3.trans hb4
      rw [HN.out] at hI4
      have HI4 : Hid (Holding w.heap.size (ftTo fs (k + 1)) w4) := hI4
      clear hb4 hI4 HI3 hbw3
      go_wp2
      go_roundw
      case rel => exact ⟨k + 1, by omega, by go_num, HI4, hbw4⟩
      case measure => simp [intOf]; omega
    · obtain rfl : k = n := by omega
      go_wp2_with fail
      refine (text_out w.heap.size _ _ hI.out hbw.size).mono ?_
      rintro e w1 ⟨rfl, hb1⟩
      have hbw1 := hbw.trans hb1
      clear hb1 hbw hI
      go_wp2
      go_ret
      exact TextIs.of HF.out.symm hbw1

end Go.Proofs.YtdlhicdfldecgaaGreatDoor

namespace Go.Proofs.YtdlhicdfldecgaaGreatDoor
open Go.RowKit
open Go.Lib hiding intOf

/-- What a message's text is behind its first line. -/
def restT (tell : Bool) (fs : List (ByteArray × ByteArray)) (b : ByteArray) : ByteArray :=
  (if tell = true then fieldsText fs ++ (⟨#[]⟩ ++ clen ++ ⟨#[58, 32]⟩ ++ numText b.size ++ ⟨#[13, 10]⟩) else fieldsText fs) ++ ⟨#[13, 10]⟩ ++ b
theorem field_text (a b : ByteArray) : fieldsText [(a, b)] = ⟨#[]⟩ ++ a ++ ⟨#[58, 32]⟩ ++ b ++ ⟨#[13, 10]⟩ := rfl
theorem one_row {w W : World} {base : Nat} {a b : ByteArray} (h : W.heap[w.heap.size]? = some (.cells #[.string a, .string b] 131)) (hb : base ≤ w.heap.size) (hl : w.heap.size < W.heap.size) : FieldsV W base (.slice (some ⟨w.heap.size, 0, none⟩) 1 1) 1 [(a, b)] := by
  refine .inr ⟨w.heap.size, 1, rfl, by omega, ⟨rfl, hb, hl, Nat.le_refl _, by unfold maxLen; omega, _, h, rfl, ?_⟩⟩
  intro i hi
  obtain rfl : i = 0 := by omega
  exact ⟨rfl, rfl⟩
theorem rest_resp (st : Int) (fs : List (ByteArray × ByteArray)) (b : ByteArray) : ⟨#[72, 84, 84, 80, 47, 49, 46, 49, 32]⟩ ++ numText st.toNat ++ ⟨#[32]⟩ ++ ⟨#[46]⟩ ++ ⟨#[13, 10]⟩ ++ restT true fs b = respT st fs b := by
  apply bs_inj
  unfold respT restT
  simp [bs, httpAhead, dotEnd, lnE2, clenK, clen]
theorem restT_size (tell : Bool) {fs : List (ByteArray × ByteArray)} (hf : FldsOk fs) {b : ByteArray} (hb : b.size ≤ 120) : (restT tell fs b).size ≤ 1000 := by
  have h1 := ft_small hf
  have h2 := numText_size b.size
  have e1 : (⟨#[]⟩ : ByteArray).size = 0 := rfl
  have e2 : clen.size = 14 := rfl
  have e3 : (⟨#[58, 32]⟩ : ByteArray).size = 2 := rfl
  have e4 : (⟨#[13, 10]⟩ : ByteArray).size = 2 := rfl
  unfold restT
  cases tell
  · rw [if_neg (by decide)]; simp only [ByteArray.size_append]; omega
  · rw [if_pos rfl]; simp only [ByteArray.size_append]; omega

set_option maxHeartbeats 1000000 in
theorem restText_any (v : Value) (b : ByteArray) (tell : Bool) (n base : Nat) (fs : List (ByteArray × ByteArray)) (w : World) (hv : FieldsV w base v n fs) (hn : n ≤ 1073741824) (hf : FldsOk fs) (hb : b.size ≤ 120) (htab : TabOk w) :
    Calls Tryz.prog 98 #[.agg #[v, .string b], .bool tell] w fun e w' => TextIs (restT tell fs b) w e w' := by
  obtain ⟨oa, cap, rfl, _⟩ := hv.slice
  obtain ⟨r, hr⟩ : ∃ r, r = w.heap.size := ⟨_, rfl⟩
  have HR : Hid (∀ W, Below (w.alloc (.cells #[.slice oa n cap, .string b] 76)).heap.size (w.alloc (.cells #[.slice oa n cap, .string b] 76)) W → (W.cell? ⟨r, 0, none⟩ = some (.slice oa n cap) ∧ W.cell? ⟨r, 1, none⟩ = some (.string b)) ∧ FieldsV W base (.slice oa n cap) n fs ∧ Below w.heap.size w W) := fun W h => by
    have hh := kept_new h
    rw [← hr] at hh
    exact ⟨⟨by simp [World.cell?, hh], by simp [World.cell?, hh]⟩, hv.below (below_new h), below_new h⟩
  obtain ⟨_, hv0, _⟩ := HR.out _ (Below.refl _ _)
  have hfs := ft_small hf
  have HT : Hid ((fieldsText fs).size ≤ 1099511627776) := by show _ ≤ _; omega
  have HTAB : Hid (TabOk w) := htab
  go_enter Tryz.func98, Tryz.ntmps98
  go_wp2_with fail
  refine (text_any _ n base fs _ hv0 hn HT.out).mono ?_
  rintro e w1 ⟨rfl, bb1⟩
  rw [← hr]
  obtain ⟨⟨c0, c1⟩, _, hbw1⟩ := HR.out w1 bb1
  have HB1 : Hid (Below (w.alloc (.cells #[.slice oa n cap, .string b] 76)).heap.size (w.alloc (.cells #[.slice oa n cap, .string b] 76)) w1) := bb1
  obtain ⟨ft, hft⟩ : ∃ x, x = fieldsText fs := ⟨_, rfl⟩
  rw [← hft] at hfs ⊢
  have HFT : Hid (fieldsText fs = ft) := hft.symm
  clear hv hv0 bb1 hr hf htab hft HT
  have e2 : (⟨#[13, 10]⟩ : ByteArray).size = 2 := rfl
  cases tell
  · have HE : Hid (ft ++ ⟨#[13, 10]⟩ ++ b = restT false fs b) := by
      show _ = _
      unfold restT
      rw [if_neg (by decide), HFT.out]
    have q1 : ¬ 9223372036854775807 < ft.size + 2 := by omega
    have q2 : ¬ 9223372036854775807 < ft.size + 2 + b.size := by omega
    go_wp2_with fail
    go_ret
    exact TextIs.of HE.out hbw1
  · have hT1 : TabOk w1 := HTAB.out.below hbw1
    have hns := numText_size b.size
    obtain ⟨nt, hnt⟩ : ∃ x, x = numText b.size := ⟨_, rfl⟩
    have HNI : Hid (numTextI (b.size : Int) = nt) := by
      show _ = _
      unfold numTextI
      rw [if_neg (by omega), hnt]
      rfl
    rw [← hnt] at hns
    obtain ⟨lt, hlt⟩ : ∃ x, x = fieldsText [((⟨#[99, 111, 110, 116, 101, 110, 116, 45, 108, 101, 110, 103, 116, 104]⟩ : ByteArray), nt)] := ⟨_, rfl⟩
    have hls : lt.size ≤ 40 := by
      rw [hlt, field_text]
      have k1 : (⟨#[]⟩ : ByteArray).size = 0 := rfl
      have k2 : (⟨#[99, 111, 110, 116, 101, 110, 116, 45, 108, 101, 110, 103, 116, 104]⟩ : ByteArray).size = 14 := rfl
      have k3 : (⟨#[58, 32]⟩ : ByteArray).size = 2 := rfl
      simp only [ByteArray.size_append]
      omega
    have HLT : Hid (fieldsText [((⟨#[99, 111, 110, 116, 101, 110, 116, 45, 108, 101, 110, 103, 116, 104]⟩ : ByteArray), nt)] = lt) := hlt.symm
    have HLS : Hid ((fieldsText [((⟨#[99, 111, 110, 116, 101, 110, 116, 45, 108, 101, 110, 103, 116, 104]⟩ : ByteArray), nt)]).size ≤ 1099511627776) := by show _ ≤ _; rw [← hlt]; omega
    have HE : Hid (ft ++ lt ++ ⟨#[13, 10]⟩ ++ b = restT true fs b) := by
      show _ = _
      unfold restT
      rw [if_pos rfl, HFT.out, ← hnt, hlt, field_text]
      rfl
    clear hnt hlt
    go_wp2_with fail
    refine (implNumText_any (b.size : Int) _ (by omega) (by omega) hT1).mono ?_
    rintro e w2 ⟨rfl, bb2⟩
    rw [HNI.out]
    clear c0 c1 hT1
    have HB2 : Hid (Below (w.alloc (.cells #[.slice oa n cap, .string b] 76)).heap.size (w.alloc (.cells #[.slice oa n cap, .string b] 76)) w2) := HB1.out.trans (bb2.mono HB1.out.size)
    clear bb2 hbw1
    obtain ⟨h3, hh3⟩ : ∃ x, x = w2.heap.size := ⟨_, rfl⟩
    have hv3 : FieldsV (w2.alloc (.cells #[.string ⟨#[99, 111, 110, 116, 101, 110, 116, 45, 108, 101, 110, 103, 116, 104]⟩, .string nt] 131)) w2.heap.size (.slice (some ⟨w2.heap.size, 0, none⟩) 1 1) 1 [(⟨#[99, 111, 110, 116, 101, 110, 116, 45, 108, 101, 110, 103, 116, 104]⟩, nt)] := one_row (heap_alloc_new w2 _) (Nat.le_refl _) (by simp)
    have HB3 : Hid (Below (w.alloc (.cells #[.slice oa n cap, .string b] 76)).heap.size (w.alloc (.cells #[.slice oa n cap, .string b] 76)) (w2.alloc (.cells #[.string ⟨#[99, 111, 110, 116, 101, 110, 116, 45, 108, 101, 110, 103, 116, 104]⟩, .string nt] 131))) := HB2.out.alloc HB2.out.size _
    go_wp2_with fail
    refine (text_any _ 1 w2.heap.size [(⟨#[99, 111, 110, 116, 101, 110, 116, 45, 108, 101, 110, 103, 116, 104]⟩, nt)] _ hv3 (by omega) HLS.out).mono ?_
    rintro e w4 ⟨rfl, bb4⟩
    rw [HLT.out]
    obtain ⟨⟨d0, d1⟩, _, hbw4⟩ := HR.out w4 (HB3.out.trans (bb4.mono HB3.out.size))
    clear hv3 bb4 hh3
    have q1 : ¬ 9223372036854775807 < ft.size + lt.size := by omega
    have q2 : ¬ 9223372036854775807 < ft.size + lt.size + 2 := by omega
    have q3 : ¬ 9223372036854775807 < ft.size + lt.size + 2 + b.size := by omega
    go_wp2_with fail
    go_ret
    exact TextIs.of HE.out hbw4

set_option maxHeartbeats 1000000 in
set_option maxRecDepth 100000 in
theorem respText_any (st : Int) (v : Value) (b : ByteArray) (n base : Nat) (fs : List (ByteArray × ByteArray)) (w : World) (hv : FieldsV w base v n fs) (hn : n ≤ 1073741824) (hsz : WalkF n fs) (hb : b.size ≤ maxLen) (htab : TabOk w) :
    Calls Tryz.prog 41 #[.agg #[v, .string b, .int .i64 st]] w fun e w' => TextOf (RespP st fs b) (respT st fs b) w e w' := by
  obtain ⟨oa, cap, rfl, _⟩ := hv.slice
  obtain ⟨r, hr⟩ : ∃ r, r = w.heap.size := ⟨_, rfl⟩
  have HR : Hid (∀ W, Below (w.alloc (.cells #[.slice oa n cap, .string b, .int .i64 st] 78)).heap.size (w.alloc (.cells #[.slice oa n cap, .string b, .int .i64 st] 78)) W → (W.cell? ⟨r, 0, none⟩ = some (.slice oa n cap) ∧ W.cell? ⟨r, 1, none⟩ = some (.string b) ∧ W.cell? ⟨r, 2, none⟩ = some (.int .i64 st)) ∧ FieldsV W base (.slice oa n cap) n fs ∧ Below w.heap.size w W) := fun W h => by
    have hh := kept_new h
    rw [← hr] at hh
    exact ⟨⟨by simp [World.cell?, hh], by simp [World.cell?, hh], by simp [World.cell?, hh]⟩, hv.below (below_new h), below_new h⟩
  obtain ⟨_, hv0, _⟩ := HR.out _ (Below.refl _ _)
  have HTAB : Hid (TabOk w) := htab
  go_enter Tryz.func41, Tryz.ntmps41
  go_wp2_with fail
  refine (respOk_any st _ b n base fs _ hv0 hn hsz hb).mono ?_
  rintro e w1 ⟨b1, rfl, kb1, bb1⟩
  rw [← hr]
  obtain ⟨⟨c0, c1, c2⟩, _, hbw1⟩ := HR.out w1 bb1
  clear hv hv0 hsz hb htab hr
  cases b1
  · have HF : Hid (¬ RespP st fs b) := fun h => by have := kb1.2 h; cases this
    clear kb1 bb1
    go_wp2_with fail
    go_ret
    exact ⟨_, rfl, fun h => absurd h HF.out, fun _ => rfl, hbw1⟩
  · have HY : Hid (RespP st fs b) := kb1.1 rfl
    have hst := HY.out.1
    have hbs : b.size ≤ 120 := HY.out.2.2
    have hns := numText_size st.toNat
    obtain ⟨nk, hnk⟩ : ∃ x, x = numText st.toNat := ⟨_, rfl⟩
    rw [← hnk] at hns
    have HNI : Hid (numTextI st = nk) := by
      show _ = _
      unfold numTextI
      rw [if_neg (by omega), hnk]
    have hrs := restT_size true HY.out.2.1 hbs
    obtain ⟨rt, hrt⟩ : ∃ x, x = restT true fs b := ⟨_, rfl⟩
    rw [← hrt] at hrs
    have HRT : Hid (restT true fs b = rt) := hrt.symm
    have HE : Hid (⟨#[72, 84, 84, 80, 47, 49, 46, 49, 32]⟩ ++ nk ++ ⟨#[32]⟩ ++ ⟨#[46]⟩ ++ ⟨#[13, 10]⟩ ++ rt = respT st fs b) := by
      show _ = _
      rw [hnk, ← HRT.out]
      exact rest_resp st fs b
    have HB1 : Hid (Below (w.alloc (.cells #[.slice oa n cap, .string b, .int .i64 st] 78)).heap.size (w.alloc (.cells #[.slice oa n cap, .string b, .int .i64 st] 78)) w1) := bb1
    have hT1 : TabOk w1 := HTAB.out.below hbw1
    clear kb1 bb1 hnk hrt hbw1
    have e1 : (⟨#[32]⟩ : ByteArray).size = 1 := rfl
    have e2 : (⟨#[72, 84, 84, 80, 47, 49, 46, 49, 32]⟩ : ByteArray).size = 9 := rfl
    have e3 : (⟨#[13, 10]⟩ : ByteArray).size = 2 := rfl
    have e4 : (⟨#[46]⟩ : ByteArray).size = 1 := rfl
    have q1 : ¬ 9223372036854775807 < 9 + nk.size := by omega
    have q2 : ¬ 9223372036854775807 < 9 + nk.size + 1 := by omega
    have q3 : ¬ 9223372036854775807 < 9 + nk.size + 1 + 1 := by omega
    have q4 : ¬ 9223372036854775807 < 9 + nk.size + 1 + 1 + 2 := by omega
    have q5 : ¬ 9223372036854775807 < 9 + nk.size + 1 + 1 + 2 + rt.size := by omega
    go_wp2_with fail
    refine (implNumText_any st _ (by omega) (by omega) hT1).mono ?_
    rintro e w2 ⟨rfl, bb2⟩
    rw [HNI.out]
    have HB2 : Hid (Below (w.alloc (.cells #[.slice oa n cap, .string b, .int .i64 st] 78)).heap.size (w.alloc (.cells #[.slice oa n cap, .string b, .int .i64 st] 78)) w2) := HB1.out.trans (bb2.mono HB1.out.size)
    obtain ⟨⟨d0, d1, d2⟩, hv2, hbw2⟩ := HR.out w2 HB2.out
    have hT2 : TabOk w2 := HTAB.out.below hbw2
    have hF := HY.out.2.1
    clear c0 c1 c2 HB1 bb2 hT1 hbw2
    go_wp2_with fail
    refine (restText_any _ _ true n base fs _ hv2 hn hF hbs hT2).mono ?_
    rintro e w3 ⟨rfl, bb3⟩
    rw [HRT.out]
    obtain ⟨_, _, hbw3⟩ := HR.out w3 (HB2.out.trans (bb3.mono HB2.out.size))
    clear bb3 hv2 hT2 d0 d1 d2 hF
    go_wp2_with fail
    go_ret
    exact ⟨_, rfl, fun _ => HE.out, fun h => absurd HY.out h, hbw3⟩

set_option maxHeartbeats 400000 in
theorem implRespText_any (m : Int) (v : Value) (b : ByteArray) (n base : Nat) (fs : List (ByteArray × ByteArray)) (w : World) (hv : FieldsV w base v n fs) (hn : n ≤ 1073741824) (hsz : WalkF n fs) (hb : b.size ≤ maxLen) (htab : TabOk w) :
    Calls Tryz.prog 13 #[.agg #[.int .i64 m, v, .string b]] w fun e w' => TextOf (RespP m fs b) (respT m fs b) w e w' := by
  obtain ⟨oa, cap, rfl, _⟩ := hv.slice
  have hb0 : Below w.heap.size w (w.alloc (.cells #[.int .i64 m, .slice oa n cap, .string b] 27)) := (Below.refl _ _).alloc (Nat.le_refl _) _
  have HTAB : Hid (TabOk w) := htab
  clear htab
  go_enter Tryz.func13, Tryz.ntmps13
  go_wp2_with fail
  refine (answerOf_any m oa n cap b _).mono ?_
  rintro e w1 ⟨rfl, bb1⟩
  have hb1 : Below w.heap.size w w1 := hb0.trans (bb1.mono hb0.size)
  have hv1 := hv.below hb1
  clear bb1 hb0 hv
  go_wp2_with fail
  refine (respText_any m _ b n base fs _ hv1 hn hsz hb (HTAB.out.below hb1)).mono ?_
  rintro e w2 ⟨u, rfl, ku, kn, bb2⟩
  have hb2 : Below w.heap.size w w2 := hb1.trans (bb2.mono hb1.size)
  have HK : Hid ((RespP m fs b) → u = respT m fs b) := ku
  have HN : Hid (¬ (RespP m fs b) → u = ⟨#[]⟩) := kn
  clear hv1 hsz hb bb2 hb1 ku kn
  go_wp2_with fail
  go_ret
  exact ⟨u, rfl, HK.out, HN.out, hb2⟩

end Go.Proofs.YtdlhicdfldecgaaGreatDoor

namespace Go.Proofs.YtdlhicdfldecgaaGreatDoor
open Go.RowKit
open Go.Lib hiding intOf

theorem num_ok (n : Nat) (h : n ≤ 1000000) : NumOk (numText n) := by
  have hd := numL_dig n h
  have hv := numL_val n h
  have hl : (numL n).length ≤ 7 := by
    unfold numL at *
    rw [if_neg (by omega)] at *
    by_cases h0 : n = 0
    · rw [if_pos h0]; simp
    · rw [if_neg h0] at *
      have hh := (dg_facts 8 n (by omega)).1
      have h3 := val_ge (dgF 8 n) hd.2 hh hd.1
      rw [hv] at h3
      rcases Nat.lt_or_ge 7 (dgF 8 n).length with h4 | h4
      · have := Nat.pow_le_pow_right (show 0 < 10 by omega) (show 7 ≤ (dgF 8 n).length - 1 by omega)
        omega
      · exact h4
  have hs : (numText n).size = (numL n).length := by simp [numText, ByteArray.size]
  have h1 : 1 ≤ (numText n).size := by
    rw [hs]
    exact List.length_pos_iff.2 hd.1
  refine (num_iff (numText n) h1 (by omega) hd.2).1 ?_
  show numText (valL (numL n)) = numText n
  rw [hv]
/-- An answer's text is read as the answer. -/
theorem IsResp.parts {s : ByteArray} {st : Int} {fs : List (ByteArray × ByteArray)} {b : ByteArray} (h : IsResp s st fs b) {xs : List ByteArray} {k : Nat} {ws : List ByteArray} {l : List (ByteArray × ByteArray)} (hp : Parts s xs k ws l) :
    ∃ x y, ws = [x, numText st.toNat, y] ∧ l = fs ∧ s.extract k s.size = b := by
  have e := hp.head.symm.trans (resp_head h)
  simp only [Prod.mk.injEq, Option.some.injEq] at e
  obtain ⟨e1, e2⟩ := e
  obtain ⟨x0, xr, rfl⟩ : ∃ x0 xr, xs = x0 :: xr := by
    cases xs with
    | nil => exact absurd rfl hp.ne
    | cons a r => exact ⟨a, r, rfl⟩
  simp only [List.map_cons, List.cons.injEq] at e1
  have hw := hp.words
  simp only [List.headD_cons] at hw
  rw [e1.1, resp_words h.1.1] at hw
  have hf := hp.fields
  simp only [List.tail_cons] at hf
  rw [e1.2, resp_fields h.1.2.1] at hf
  refine ⟨⟨httpL.toArray⟩, ⟨#[46]⟩, map_bs_inj (by rw [← hw]; rfl), (pairs_inj hf).symm, bs_inj ?_⟩
  rw [bs_extract, List.take_of_length_le (i := s.size) (l := bs s) (by rw [bs_len]; omega)]
  exact e2
/-- What 'RespRead' answers: the one answer whose text this is, or nothing. -/
def RespIs (s : ByteArray) (w : World) (e : Ending) (w' : World) : Prop :=
  (∃ (m : Int) (fs : List (ByteArray × ByteArray)) (b : ByteArray) (v : Value), e = .returned (.tuple #[.agg #[.int .i64 m, v, .string b], .bool true]) ∧ IsResp s m fs b ∧ w'.ownsRow w.heap.size 131 2 v fs.length (flatF fs) ∧ Below w.heap.size w w') ∨
  (e = .returned (.tuple #[.agg #[.int .i64 0, .slice none 0 0, .string ⟨#[]⟩], .bool false]) ∧ (∀ m fs b, ¬ IsResp s m fs b) ∧ Below w.heap.size w w')

set_option maxHeartbeats 400000 in
set_option maxRecDepth 100000 in
theorem specRespRead_any (s : ByteArray) (w : World) (hs : s.size ≤ 3000000) :
    Calls Tryz.prog 48 #[.string s] w fun e w' => RespIs s w e w' := by
  obtain ⟨R, hR⟩ : ∃ R, R = w.heap.size := ⟨_, rfl⟩
  have hRw : w.heap.size ≤ R := by omega
  have HZ : Hid (∀ W, Below (w.alloc (.cells #[.int .i64 0, .slice none 0 0, .string ⟨#[]⟩] 27)).heap.size (w.alloc (.cells #[.int .i64 0, .slice none 0 0, .string ⟨#[]⟩] 27)) W → W.heap[R]? = some (.cells #[.int .i64 0, .slice none 0 0, .string ⟨#[]⟩] 27) ∧ Below w.heap.size w W) := fun W h => ⟨by rw [hR]; exact kept_new h, below_new h⟩
  have hZs : w.heap.size ≤ (w.alloc (.cells #[.int .i64 0, .slice none 0 0, .string ⟨#[]⟩] 27)).heap.size := by simp
  go_enter Tryz.func48, Tryz.ntmps48
  go_wp2_with fail
  refine (l3Head_any s _ (by omega)).mono ?_
  rintro e w1 ⟨v, xs, at0, rfl, hown1, hxl, bb1, hd⟩
  rw [← hR]
  clear hR
  rcases hd with ⟨rfl, hh⟩ | ⟨k, rfl, hk, hh⟩
  · obtain ⟨z, hbz⟩ := HZ.out w1 bb1
    obtain ⟨⟨c0, c1, c2⟩, f0, f1, f2⟩ := three_facts z
    obtain ⟨⟨k0, k1, k2⟩, _⟩ := three_facts (three_set z (.int .i64 0) (.slice none 0 0) (.string ⟨#[]⟩))
    have HB4 : Hid (Below w.heap.size w (threeSet w1 R (.int .i64 0) (.slice none 0 0) (.string ⟨#[]⟩))) := below_three hbz hRw
    have HNO : Hid (∀ m fs b, ¬ IsResp s m fs b) := fun m fs b h => by
          have e := hh.symm.trans (resp_head h)
          simp at e
    unfold threeSet at k0 k1 k2
    clear z hbz HZ hh hown1 bb1
    go_wp2_with fail
    exact bodyPost_ret (v := .tuple #[.agg #[.int .i64 0, .slice none 0 0, .string ⟨#[]⟩], .bool false]) (by simp [results, Tryz.results48, go_sem, k0, k1, k2]) rfl (.inr ⟨rfl, HNO.out, HB4.out⟩)
  · by_cases hx0 : xs = []
    · subst hx0
      obtain ⟨oa, cp, rfl, _, _⟩ | ⟨g, cp, _, h0, _⟩ := row_form hown1
      · obtain ⟨z, hbz⟩ := HZ.out w1 bb1
        obtain ⟨⟨c0, c1, c2⟩, f0, f1, f2⟩ := three_facts z
        obtain ⟨⟨k0, k1, k2⟩, _⟩ := three_facts (three_set z (.int .i64 0) (.slice none 0 0) (.string ⟨#[]⟩))
        have HB4 : Hid (Below w.heap.size w (threeSet w1 R (.int .i64 0) (.slice none 0 0) (.string ⟨#[]⟩))) := below_three hbz hRw
        have HNO : Hid (∀ m fs b, ¬ IsResp s m fs b) := fun m fs b h => by
                  have e := hh.symm.trans (resp_head h)
                  simp at e
        unfold threeSet at k0 k1 k2
        clear z hbz HZ hh hown1 bb1
        go_wp2_with fail
        exact bodyPost_ret (v := .tuple #[.agg #[.int .i64 0, .slice none 0 0, .string ⟨#[]⟩], .bool false]) (by simp [results, Tryz.results48, go_sem, k0, k1, k2]) rfl (.inr ⟨rfl, HNO.out, HB4.out⟩)
      · simp at h0
    · have hxn : 0 < xs.length := List.length_pos_iff.2 hx0
      obtain ⟨_, _, _, h0, _⟩ | ⟨g, cp, rfl, _, row1⟩ := row_form hown1
      · omega
      obtain ⟨x0, hx⟩ : ∃ y, y = textAt xs 0 := ⟨_, rfl⟩
      have hc0 := row1.cell 0 hxn
      rw [← hx] at hc0
      have hxb : bs x0 ∈ (headL [] [] (bs s)).1 := by
        rw [hh, hx]
        cases xs with
        | nil => exact absurd rfl hx0
        | cons y r => simp [textAt]
      have hx0s : x0.size ≤ s.size := by
        rcases headL_len _ (bs s) [] [] (Nat.le_refl _) _ hxb with h1 | h1
        · simp at h1
        · rw [bs_len, bs_len] at h1; simpa using h1
      have HB1 : Hid (Below (w.alloc (.cells #[.int .i64 0, .slice none 0 0, .string ⟨#[]⟩] 27)).heap.size (w.alloc (.cells #[.int .i64 0, .slice none 0 0, .string ⟨#[]⟩] 27)) w1) := bb1
      have HROW1 : Hid (TextRow (w.alloc (.cells #[.int .i64 0, .slice none 0 0, .string ⟨#[]⟩] 27)).heap.size w1 g xs.length cp xs) := row1
      have HX : Hid (x0 = textAt xs 0) := hx
      have HH : Hid (headL [] [] (bs s) = (xs.map bs, some ((bs s).drop k))) := hh
      have HN0 : Hid (xs ≠ []) := hx0
      clear hx hh hx0
      obtain ⟨nx, hnx⟩ : ∃ y, y = xs.length := ⟨_, rfl⟩
      have HNX : Hid (nx = xs.length) := hnx
      rw [← hnx] at hxn hxl HROW1 ⊢
      clear hnx
      have hxn2 : (0 : Int) < (nx : Int) := by omega
      have hxne : ((nx : Int) == 0) = false := by rw [beq_eq_false_iff_ne]; omega
      have hk2 : ¬ (k : Int) < 0 := by omega
      clear bb1 row1 hown1 hxb
      go_wp2_with fail
      refine (l3Words_any x0 _ (by omega)).mono ?_
      rintro e w2 ⟨wv, ws, rfl, hownw, hwl, bb2, hwd⟩
      have HWD : Hid (wordsL [] [] (bs x0) = ws.map bs) := hwd
      clear hwd
      have hb2 : Below (w.alloc (.cells #[.int .i64 0, .slice none 0 0, .string ⟨#[]⟩] 27)).heap.size (w.alloc (.cells #[.int .i64 0, .slice none 0 0, .string ⟨#[]⟩] 27)) w2 := HB1.out.trans (bb2.mono HB1.out.size)
      by_cases h3 : ws.length = 3
      · obtain ⟨wa, wp, wc, rfl⟩ : ∃ a b c, ws = [a, b, c] := by
          match ws, h3 with
          | [a, b, c], _ => exact ⟨a, b, c, rfl⟩
        clear h3
        obtain ⟨_, _, _, h0, _⟩ | ⟨g2, cp2, rfl, _, row2⟩ := row_form hownw
        · simp at h0
        have hpw : wp.size ≤ s.size := by
          have hm : bs wp ∈ wordsL [] [] (bs x0) := by rw [HWD.out]; simp
          rcases wordsL_len (bs x0) [] [] _ hm with h1 | h1
          · simp at h1
          · rw [bs_len, bs_len] at h1; simp at h1; omega
        have ha := row2.cell 0 (by simp)
        have hpc := row2.cell 1 (by simp)
        have ha : w2.cell? ⟨g2, 0, none⟩ = some (.string wa) := ha
        have hpc : w2.cell? ⟨g2, 1, none⟩ = some (.string wp) := hpc
        have HROW2 : Hid (TextRow w1.heap.size w2 g2 3 cp2 [wa, wp, wc]) := row2
        have HB2 : Hid (Below (w.alloc (.cells #[.int .i64 0, .slice none 0 0, .string ⟨#[]⟩] 27)).heap.size (w.alloc (.cells #[.int .i64 0, .slice none 0 0, .string ⟨#[]⟩] 27)) w2) := hb2
        have HBB2 : Hid (Below w1.heap.size w1 w2) := bb2
        have hki : (k : Int) ≤ (s.size : Int) := by omega
        have h1n : (1 : Int) ≤ (nx : Int) := by omega
        clear hownw row2 bb2 hb2 hwl hc0
        have hrow2 : TextRow (w.alloc (.cells #[.int .i64 0, .slice none 0 0, .string ⟨#[]⟩] 27)).heap.size w2 g nx cp xs := HROW1.out.below HBB2.out HROW1.out.lt
        have hxlen := hrow2.len
        obtain ⟨aT, hA, HTX⟩ : ∃ aT : Addr, (if cp = 1 then some (⟨g, 0, none⟩ : Addr) else some ⟨g, 1, none⟩) = some aT ∧ Hid (∀ W, Below w2.heap.size w2 W → TextsV W W.heap.size (some aT) (nx - 1) xs.tail) := by
          have hle := hrow2.le
          by_cases h : cp = 1
          · refine ⟨⟨g, 0, none⟩, by simp [h], fun W hW => ⟨by simp; omega, fun i hi => ?_⟩⟩
            simp at hi; omega
          · refine ⟨⟨g, 1, none⟩, by simp [h], fun W hW => ⟨by simp; omega, fun i hi => ?_⟩⟩
            have hi2 : i + 1 < nx := by simp at hi; omega
            have hcc := (hrow2.below hW hrow2.lt).cell (i + 1) hi2
            refine ⟨g, 1, rfl, by have := hW.size; have := hrow2.lt; omega, ?_⟩
            rw [show 1 + i = i + 1 by omega, hcc]
            simp [textAt, List.getD_eq_getElem?_getD, show i + 1 < xs.length by omega]
        have HSZ : Hid (∀ x ∈ xs.tail, x.size ≤ 4000000) := fun x hx => by
          have hm : bs x ∈ (headL [] [] (bs s)).1 := by rw [HH.out]; exact List.mem_map_of_mem (List.mem_of_mem_tail hx)
          rcases headL_len _ (bs s) [] [] (Nat.le_refl _) _ hm with h1 | h1
          · simp at h1
          · rw [bs_len, bs_len] at h1; simp at h1; omega
        clear hrow2
        go_wp2_with fail
        refine (specNumRead_any wp _ (by unfold maxLen; omega)).mono ?_
        rintro e wN ⟨nb, nn, rfl, hn1, hn2, hn3, bbN'⟩
        have bbN : Below w2.heap.size w2 wN := bbN'
        have HN1 : Hid ((nb = true ↔ NumOk wp) ∧ (nb = true → nn = valL wp.data.toList)) := ⟨hn1, hn2⟩
        clear hn1 hn2 hn3 ha hpc bbN'
        go_wp2_with fail
        refine wp_region_held_drew (S := fun _ => True) (by kernel_rfl) trivial (fun hHeld => ?_)
        refine wpAnyH_take (i := 0) (v := .int .i64 nn) rfl (by kernel_rfl) (by kernel_rfl) (by kernel_rfl) (fun _ _ _ h => h) (Or.inl ⟨by rfl, by intro W hSW; (try dsimp only at hSW); go_simp⟩) (by assumption) ?_
        refine wpAnyH_take (i := 1) (v := .slice (some ⟨g, 0, none⟩) nx cp) rfl (by kernel_rfl) (by kernel_rfl) (by kernel_rfl) (fun _ _ _ h => h) (Or.inl ⟨by rfl, by intro W hSW; (try dsimp only at hSW); go_simp⟩) (by assumption) ?_
        refine wpAnyH_take (i := 2) (v := .slice (some aT) (nx - 1) (cp - 1)) rfl (by kernel_rfl) (by kernel_rfl) (by kernel_rfl) (fun _ _ _ h => h) (Or.inl ⟨by rfl, by intro W hSW; (try dsimp only at hSW); go_simp⟩) (by assumption) ?_
        refine wpAnyH_take (i := 4) (v := .string s) rfl (by kernel_rfl) (by kernel_rfl) (by kernel_rfl) (fun _ _ _ h => h) (Or.inl ⟨by rfl, by intro W hSW; (try dsimp only at hSW); go_simp⟩) (by assumption) ?_
        refine wpAnyH_take (i := 5) (v := .int .i64 (k : Int)) rfl (by kernel_rfl) (by kernel_rfl) (by kernel_rfl) (fun _ _ _ h => h) (Or.inl ⟨by rfl, by intro W hSW; (try dsimp only at hSW); go_simp⟩) (by assumption) ?_
        refine wpAnyH_take (i := 6) (v := .string (s.extract k s.size)) rfl (by kernel_rfl) (by kernel_rfl) (by kernel_rfl) (fun _ _ _ h => h) (Or.inl ⟨by rfl, by intro W hSW; (try dsimp only at hSW); go_simp⟩) (by assumption) ?_
        refine wpAnyH_ready (rs := [3, 8]) (by kernel_rfl) (by simp) ?_
        refine AllReadyH.cons rfl (fun K hK => ?_) (AllReadyH.cons rfl (fun K hK => ?_) AllReadyH.nil)
        · go_simp
          refine (l3Fields_any (some aT) (nx - 1) (cp - 1) xs.tail _ (HTX.out _ (bbN.trans ((Below.refl wN.heap.size wN).drew.mono bbN.size))) (by omega) HSZ.out).mono ?_
          rintro e w3 ⟨fv, l, rfl, hownf, hll, bb3, hfl⟩
          obtain ⟨fo, fc, rfl⟩ := slice_of_owns hownf
          have hb3 : Below wN.heap.size wN w3 := (Below.refl wN.heap.size wN).drew.trans (bb3.mono (Below.refl wN.heap.size wN).drew.size)
          refine hK.out _ _ trivial (fun hHeld3 => ?_)
          clear hK K hHeld
          refine wpAnyH_take (i := 7) (v := .agg #[.int .i64 nn, .slice fo l.length fc, .string (s.extract k s.size)]) rfl (by kernel_rfl) (by kernel_rfl) (by kernel_rfl) (fun _ _ _ h => h) (Or.inl ⟨by rfl, by intro W hSW; (try dsimp only at hSW); go_simp⟩) (by assumption) ?_
          refine wpAnyH_ready (rs := [8]) (by kernel_rfl) (by simp) ?_
          refine AllReadyH.cons rfl (fun K hK => ?_) AllReadyH.nil
          go_simp
          refine hK.out _ _ trivial (fun hHeld4 => ?_)
          clear hK K hHeld3
          refine wpAnyH_ready (rs := [9]) (by kernel_rfl) (by simp) ?_
          refine AllReadyH.cons rfl (fun K hK => ?_) AllReadyH.nil
          go_simp
          refine hK.out _ _ trivial (fun hHeld5 => ?_)
          clear hK K hHeld4
          refine wpAnyH_done (by kernel_rfl) ?_ _
          clear hHeld5
          obtain ⟨r, hr⟩ : ∃ r, r = w3.heap.size := ⟨_, rfl⟩
          obtain ⟨w4, hw4⟩ : ∃ W, W = w3.alloc (.cells #[.int .i64 nn, .slice fo l.length fc, .string (s.extract k s.size)] 27) := ⟨_, rfl⟩
          have hz4 : w4.heap[r]? = some (.cells #[.int .i64 nn, .slice fo l.length fc, .string (s.extract k s.size)] 27) := by rw [hw4, hr]; exact heap_alloc_new w3 _
          have hb34 : Below w3.heap.size w3 w4 := by rw [hw4]; exact (Below.refl _ w3).alloc (Nat.le_refl _) _
          have hb4 : Below wN.heap.size wN w4 := hb3.trans (hb34.mono hb3.size)
          have hr4 : r < w4.heap.size := by rw [hw4, hr]; simp
          have hown4 : w4.ownsRow wN.heap.size 131 2 (.slice fo l.length fc) l.length (flatF l) := owns_below hownf hb34 (fun g hg => owns_lt hownf hg)
          rw [← hr, ← hw4]
          clear hr hw4 hb34 hownf bb3 hb3 HTX HSZ hA
          obtain ⟨body, hbody⟩ : ∃ y, y = s.extract k s.size := ⟨_, rfl⟩
          rw [← hbody] at hz4 ⊢
          have HBODY : Hid (body = s.extract k s.size) := hbody
          have HL4 : Hid (fieldsL (xs.tail.map bs) = l.map bsP) := hfl
          have HOW : Hid (w4.ownsRow wN.heap.size 131 2 (.slice fo l.length fc) l.length (flatF l)) := hown4
          have HWF : Hid (WalkF l.length l) := walk_fields HH.out HL4.out (by unfold maxLen; omega)
          have hbs : body.size ≤ s.size := by rw [HBODY.out]; simp
          have HBr : Hid (Below (w.alloc (.cells #[.int .i64 0, .slice none 0 0, .string ⟨#[]⟩] 27)).heap.size (w.alloc (.cells #[.int .i64 0, .slice none 0 0, .string ⟨#[]⟩] 27)) w4) := (HB2.out.trans (bbN.mono HB2.out.size)).trans (hb4.mono (Nat.le_trans HB2.out.size bbN.size))
          have hll2 : l.length ≤ 3000000 := by simp at hll; omega
          have HZ4 : Hid (w4.heap[r]? = some (.cells #[.int .i64 nn, .slice fo l.length fc, .string body] 27)) := hz4
          obtain ⟨⟨c0, c1, c2⟩, f0, f1, f2⟩ := three_facts hz4
          clear hbody hfl hown4 hz4
          go_wp2_with fail
          refine (specRespText_any nn _ body l.length _ l _ (FieldsV.of_owns HOW.out) (by omega) HWF.out (by unfold maxLen; omega)).mono ?_
          rintro e w7 ⟨t, rfl, ht1, ht2, bb7⟩
          have hz7 : w7.heap[r]? = some (.cells #[.int .i64 nn, .slice fo l.length fc, .string body] 27) := by rw [bb7.block r hr4]; exact HZ4.out
          have hb7 : Below (w.alloc (.cells #[.int .i64 0, .slice none 0 0, .string ⟨#[]⟩] 27)).heap.size (w.alloc (.cells #[.int .i64 0, .slice none 0 0, .string ⟨#[]⟩] 27)) w7 := HBr.out.trans (bb7.mono HBr.out.size)
          clear c0 c1 c2 f0 f1 f2
          obtain ⟨⟨c0, c1, c2⟩, f0, f1, f2⟩ := three_facts hz7
          by_cases hts : t = s
          · have ht := (text_beq _ _).2 hts
            have HRP : Hid (RespP nn l body) := Classical.byContradiction (fun hn => by
              have h0 := ht2 hn
              rw [hts] at h0
              have hh := HH.out
              rw [h0] at hh
              simp [bs, headL] at hh)
            have HIS : Hid (IsResp s nn l body) := ⟨HRP.out, by rw [← ht1 HRP.out]; exact hts⟩
            have hR2 : R < wN.heap.size := (Array.getElem?_eq_some_iff.1 (HZ.out wN (HB2.out.trans (bbN.mono HB2.out.size))).1).1
            obtain ⟨z, hbz⟩ := HZ.out w7 hb7
            obtain ⟨⟨e0, e1, e2⟩, g0, g1, g2'⟩ := three_facts z
            obtain ⟨⟨k0, k1, k2⟩, _⟩ := three_facts (three_set z (.int .i64 nn) (.slice fo l.length fc) (.string body))
            have HB4 : Hid (Below w.heap.size w (threeSet w7 R (.int .i64 nn) (.slice fo l.length fc) (.string body))) := below_three hbz hRw
            have hgR : w7.grownBy (threeSet w7 R (.int .i64 nn) (.slice fo l.length fc) (.string body)) (some R) := by
              unfold threeSet
              exact grown_then (grown_then (grown_set _ _ _ _) (grown_set _ _ _ _)) (grown_set _ _ _ _)
            have how7 := owns_below HOW.out bb7 (fun g hg => owns_lt HOW.out hg)
            have hww : w.heap.size ≤ wN.heap.size := Nat.le_trans hZs (Nat.le_trans HB2.out.size bbN.size)
            have HOWF : Hid ((threeSet w7 R (.int .i64 nn) (.slice fo l.length fc) (.string body)).ownsRow w.heap.size 131 2 (.slice fo l.length fc) l.length (flatF l)) := by
              have h6 := how7.kept hgR (by cases h : (Value.slice fo l.length fc).ownBlock <;> simp; exact fun e => by have h7 := owns_ge how7 h; omega)
              refine ⟨h6.1, ?_⟩
              rcases h6.2 with h9 | ⟨g6, cap6, cur6, h7, h8, h9⟩
              · exact .inl h9
              · exact .inr ⟨g6, cap6, cur6, h7, by omega, h9⟩
            unfold threeSet at k0 k1 k2
            clear z hbz HZ hgR how7 ht1 ht2 hts bb7 hb7 hz7
            go_wp2_with fail
            exact bodyPost_ret (v := .tuple #[.agg #[.int .i64 nn, .slice fo l.length fc, .string body], .bool true]) (by simp [results, Tryz.results48, go_sem, k0, k1, k2]) rfl (.inl ⟨nn, l, body, _, rfl, HIS.out, HOWF.out, HB4.out⟩)
          · have ht := text_beq_no hts
            have HNO : Hid (∀ m fs b, ¬ IsResp s m fs b) := fun m fs b h => by
              have hpt : Parts s xs k [wa, wp, wc] l := ⟨HH.out, HN0.out, by
                have : xs.headD ⟨#[]⟩ = x0 := by
                  rw [HX.out]
                  cases xs with
                  | nil => exact absurd rfl HN0.out
                  | cons y q => rfl
                rw [this]; exact HWD.out, HL4.out⟩
              obtain ⟨x8, x9, e1, e2, e3⟩ := h.parts hpt
              simp only [List.cons.injEq] at e1
              obtain ⟨_, e5, _⟩ := e1
              have hm := h.1.1
              have hok : NumOk wp := by rw [e5]; exact num_ok _ (by omega)
              have hmm : nn = m := by
                rw [HN1.out.2 (HN1.out.1.2 hok), e5]
                show ((valL (numL m.toNat) : Nat) : Int) = m
                rw [numL_val _ (by omega)]; omega
              have hbb : body = b := by rw [HBODY.out]; exact e3
              subst hmm hbb e2
              exact hts ((ht1 h.1).trans h.2)
            obtain ⟨z, hbz⟩ := HZ.out w7 hb7
            obtain ⟨⟨e0, e1, e2⟩, g0, g1, g2'⟩ := three_facts z
            obtain ⟨⟨k0, k1, k2⟩, _⟩ := three_facts (three_set z (.int .i64 0) (.slice none 0 0) (.string ⟨#[]⟩))
            have HB4 : Hid (Below w.heap.size w (threeSet w7 R (.int .i64 0) (.slice none 0 0) (.string ⟨#[]⟩))) := below_three hbz hRw
            unfold threeSet at k0 k1 k2
            clear z hbz HZ ht1 ht2 hts bb7 hb7 hz7
            go_wp2_with fail
            exact bodyPost_ret (v := .tuple #[.agg #[.int .i64 0, .slice none 0 0, .string ⟨#[]⟩], .bool false]) (by simp [results, Tryz.results48, go_sem, k0, k1, k2]) rfl (.inr ⟨rfl, HNO.out, HB4.out⟩)
        · go_simp
          refine hK.out _ _ trivial (fun hHeld3 => ?_)
          clear hK K hHeld
          refine wpAnyH_ready (rs := [3]) (by kernel_rfl) (by simp) ?_
          refine AllReadyH.cons rfl (fun K hK => ?_) AllReadyH.nil
          go_simp
          refine (l3Fields_any (some aT) (nx - 1) (cp - 1) xs.tail _ (HTX.out _ (bbN.trans ((((Below.refl wN.heap.size wN).alloc (Nat.le_refl _) (.cells #[.int .i64 0, .slice none 0 0, .string ⟨#[]⟩] 27)).drew).mono bbN.size))) (by omega) HSZ.out).mono ?_
          rintro e w3 ⟨fv, l, rfl, hownf, hll, bb3, hfl⟩
          obtain ⟨fo, fc, rfl⟩ := slice_of_owns hownf
          have hb3 : Below wN.heap.size wN w3 := (((Below.refl wN.heap.size wN).alloc (Nat.le_refl _) (.cells #[.int .i64 0, .slice none 0 0, .string ⟨#[]⟩] 27)).drew).trans (bb3.mono (((Below.refl wN.heap.size wN).alloc (Nat.le_refl _) (.cells #[.int .i64 0, .slice none 0 0, .string ⟨#[]⟩] 27)).drew).size)
          refine hK.out _ _ trivial (fun hHeld4 => ?_)
          clear hK K hHeld3
          refine wpAnyH_take (i := 7) (v := .agg #[.int .i64 nn, .slice fo l.length fc, .string (s.extract k s.size)]) rfl (by kernel_rfl) (by kernel_rfl) (by kernel_rfl) (fun _ _ _ h => h) (Or.inl ⟨by rfl, by intro W hSW; (try dsimp only at hSW); go_simp⟩) (by assumption) ?_
          have z3 : w3.heap[wN.heap.size]? = some (.cells #[.int .i64 0, .slice none 0 0, .string ⟨#[]⟩] 27) := by
            rw [bb3.block _ (by simp)]; exact heap_alloc_new wN _
          obtain ⟨⟨y0, y1, y2⟩, v0, v1, v2⟩ := three_facts z3
          refine wpAnyH_ready (rs := [9]) (by kernel_rfl) (by simp) ?_
          refine AllReadyH.cons rfl (fun K hK => ?_) AllReadyH.nil
          clear z3
          go_simp
          have z3 : w3.heap[wN.heap.size]? = some (.cells #[.int .i64 0, .slice none 0 0, .string ⟨#[]⟩] 27) := by
            rw [bb3.block _ (by simp)]; exact heap_alloc_new wN _
          refine hK.out _ _ trivial (fun hHeld5 => ?_)
          clear hK K hHeld4
          refine wpAnyH_done (by kernel_rfl) ?_ _
          clear hHeld5
          obtain ⟨r, hr⟩ : ∃ r, r = wN.heap.size := ⟨_, rfl⟩
          rw [← hr] at z3 ⊢
          have hz4 := three_set z3 (.int .i64 nn) (.slice fo l.length fc) (.string (s.extract k s.size))
          obtain ⟨w4, hw4⟩ : ∃ W, W = threeSet w3 r (.int .i64 nn) (.slice fo l.length fc) (.string (s.extract k s.size)) := ⟨_, rfl⟩
          rw [← hw4] at hz4
          have hg34 : w3.grownBy w4 (some r) := by
            rw [hw4]; unfold threeSet
            exact grown_then (grown_then (grown_set _ _ _ _) (grown_set _ _ _ _)) (grown_set _ _ _ _)
          have hb4 : Below wN.heap.size wN w4 := by rw [hw4]; exact below_three hb3 (by omega)
          have hr4 : r < w4.heap.size := (Array.getElem?_eq_some_iff.1 hz4).1
          have hown4 : w4.ownsRow wN.heap.size 131 2 (.slice fo l.length fc) l.length (flatF l) := by
            have h5 : w3.ownsRow wN.heap.size 131 2 (.slice fo l.length fc) l.length (flatF l) := by
              refine ⟨hownf.1, ?_⟩
              rcases hownf.2 with h6 | ⟨g6, cap6, cur6, h7, h8, h9⟩
              · exact .inl h6
              · exact .inr ⟨g6, cap6, cur6, h7, by simp at h8; omega, h9⟩
            exact h5.kept hg34 (by cases h : (Value.slice fo l.length fc).ownBlock <;> simp; exact fun e => by have h7 := owns_ge hownf h; simp at h7; omega)
          unfold threeSet at hw4
          rw [← hw4]
          clear hr hw4 hg34 hownf bb3 hb3 HTX HSZ hA z3 y0 y1 y2 v0 v1 v2
          obtain ⟨body, hbody⟩ : ∃ y, y = s.extract k s.size := ⟨_, rfl⟩
          rw [← hbody] at hz4 ⊢
          have HBODY : Hid (body = s.extract k s.size) := hbody
          have HL4 : Hid (fieldsL (xs.tail.map bs) = l.map bsP) := hfl
          have HOW : Hid (w4.ownsRow wN.heap.size 131 2 (.slice fo l.length fc) l.length (flatF l)) := hown4
          have HWF : Hid (WalkF l.length l) := walk_fields HH.out HL4.out (by unfold maxLen; omega)
          have hbs : body.size ≤ s.size := by rw [HBODY.out]; simp
          have HBr : Hid (Below (w.alloc (.cells #[.int .i64 0, .slice none 0 0, .string ⟨#[]⟩] 27)).heap.size (w.alloc (.cells #[.int .i64 0, .slice none 0 0, .string ⟨#[]⟩] 27)) w4) := (HB2.out.trans (bbN.mono HB2.out.size)).trans (hb4.mono (Nat.le_trans HB2.out.size bbN.size))
          have hll2 : l.length ≤ 3000000 := by simp at hll; omega
          have HZ4 : Hid (w4.heap[r]? = some (.cells #[.int .i64 nn, .slice fo l.length fc, .string body] 27)) := hz4
          obtain ⟨⟨c0, c1, c2⟩, f0, f1, f2⟩ := three_facts hz4
          clear hbody hfl hown4 hz4
          go_wp2_with fail
          refine (specRespText_any nn _ body l.length _ l _ (FieldsV.of_owns HOW.out) (by omega) HWF.out (by unfold maxLen; omega)).mono ?_
          rintro e w7 ⟨t, rfl, ht1, ht2, bb7⟩
          have hz7 : w7.heap[r]? = some (.cells #[.int .i64 nn, .slice fo l.length fc, .string body] 27) := by rw [bb7.block r hr4]; exact HZ4.out
          have hb7 : Below (w.alloc (.cells #[.int .i64 0, .slice none 0 0, .string ⟨#[]⟩] 27)).heap.size (w.alloc (.cells #[.int .i64 0, .slice none 0 0, .string ⟨#[]⟩] 27)) w7 := HBr.out.trans (bb7.mono HBr.out.size)
          clear c0 c1 c2 f0 f1 f2
          obtain ⟨⟨c0, c1, c2⟩, f0, f1, f2⟩ := three_facts hz7
          by_cases hts : t = s
          · have ht := (text_beq _ _).2 hts
            have HRP : Hid (RespP nn l body) := Classical.byContradiction (fun hn => by
              have h0 := ht2 hn
              rw [hts] at h0
              have hh := HH.out
              rw [h0] at hh
              simp [bs, headL] at hh)
            have HIS : Hid (IsResp s nn l body) := ⟨HRP.out, by rw [← ht1 HRP.out]; exact hts⟩
            have hR2 : R < wN.heap.size := (Array.getElem?_eq_some_iff.1 (HZ.out wN (HB2.out.trans (bbN.mono HB2.out.size))).1).1
            obtain ⟨z, hbz⟩ := HZ.out w7 hb7
            obtain ⟨⟨e0, e1, e2⟩, g0, g1, g2'⟩ := three_facts z
            obtain ⟨⟨k0, k1, k2⟩, _⟩ := three_facts (three_set z (.int .i64 nn) (.slice fo l.length fc) (.string body))
            have HB4 : Hid (Below w.heap.size w (threeSet w7 R (.int .i64 nn) (.slice fo l.length fc) (.string body))) := below_three hbz hRw
            have hgR : w7.grownBy (threeSet w7 R (.int .i64 nn) (.slice fo l.length fc) (.string body)) (some R) := by
              unfold threeSet
              exact grown_then (grown_then (grown_set _ _ _ _) (grown_set _ _ _ _)) (grown_set _ _ _ _)
            have how7 := owns_below HOW.out bb7 (fun g hg => owns_lt HOW.out hg)
            have hww : w.heap.size ≤ wN.heap.size := Nat.le_trans hZs (Nat.le_trans HB2.out.size bbN.size)
            have HOWF : Hid ((threeSet w7 R (.int .i64 nn) (.slice fo l.length fc) (.string body)).ownsRow w.heap.size 131 2 (.slice fo l.length fc) l.length (flatF l)) := by
              have h6 := how7.kept hgR (by cases h : (Value.slice fo l.length fc).ownBlock <;> simp; exact fun e => by have h7 := owns_ge how7 h; omega)
              refine ⟨h6.1, ?_⟩
              rcases h6.2 with h9 | ⟨g6, cap6, cur6, h7, h8, h9⟩
              · exact .inl h9
              · exact .inr ⟨g6, cap6, cur6, h7, by omega, h9⟩
            unfold threeSet at k0 k1 k2
            clear z hbz HZ hgR how7 ht1 ht2 hts bb7 hb7 hz7
            go_wp2_with fail
            exact bodyPost_ret (v := .tuple #[.agg #[.int .i64 nn, .slice fo l.length fc, .string body], .bool true]) (by simp [results, Tryz.results48, go_sem, k0, k1, k2]) rfl (.inl ⟨nn, l, body, _, rfl, HIS.out, HOWF.out, HB4.out⟩)
          · have ht := text_beq_no hts
            have HNO : Hid (∀ m fs b, ¬ IsResp s m fs b) := fun m fs b h => by
              have hpt : Parts s xs k [wa, wp, wc] l := ⟨HH.out, HN0.out, by
                have : xs.headD ⟨#[]⟩ = x0 := by
                  rw [HX.out]
                  cases xs with
                  | nil => exact absurd rfl HN0.out
                  | cons y q => rfl
                rw [this]; exact HWD.out, HL4.out⟩
              obtain ⟨x8, x9, e1, e2, e3⟩ := h.parts hpt
              simp only [List.cons.injEq] at e1
              obtain ⟨_, e5, _⟩ := e1
              have hm := h.1.1
              have hok : NumOk wp := by rw [e5]; exact num_ok _ (by omega)
              have hmm : nn = m := by
                rw [HN1.out.2 (HN1.out.1.2 hok), e5]
                show ((valL (numL m.toNat) : Nat) : Int) = m
                rw [numL_val _ (by omega)]; omega
              have hbb : body = b := by rw [HBODY.out]; exact e3
              subst hmm hbb e2
              exact hts ((ht1 h.1).trans h.2)
            obtain ⟨z, hbz⟩ := HZ.out w7 hb7
            obtain ⟨⟨e0, e1, e2⟩, g0, g1, g2'⟩ := three_facts z
            obtain ⟨⟨k0, k1, k2⟩, _⟩ := three_facts (three_set z (.int .i64 0) (.slice none 0 0) (.string ⟨#[]⟩))
            have HB4 : Hid (Below w.heap.size w (threeSet w7 R (.int .i64 0) (.slice none 0 0) (.string ⟨#[]⟩))) := below_three hbz hRw
            unfold threeSet at k0 k1 k2
            clear z hbz HZ ht1 ht2 hts bb7 hb7 hz7
            go_wp2_with fail
            exact bodyPost_ret (v := .tuple #[.agg #[.int .i64 0, .slice none 0 0, .string ⟨#[]⟩], .bool false]) (by simp [results, Tryz.results48, go_sem, k0, k1, k2]) rfl (.inr ⟨rfl, HNO.out, HB4.out⟩)
      · have hne3 : ((ws.length : Int) != 3) = true := by rw [bne_iff_ne]; omega
        obtain ⟨oa, cp2, rfl⟩ : ∃ oa cp, wv = .slice oa ws.length cp := by
          obtain ⟨oa, cp, h1, h2, _⟩ | ⟨g, cp, h1, _⟩ := row_form hownw
          · exact ⟨oa, cp, by rw [h1, h2]⟩
          · exact ⟨_, cp, h1⟩
        obtain ⟨z, hbz⟩ := HZ.out w2 hb2
        obtain ⟨⟨c0, c1, c2⟩, f0, f1, f2⟩ := three_facts z
        obtain ⟨⟨k0, k1, k2⟩, _⟩ := three_facts (three_set z (.int .i64 0) (.slice none 0 0) (.string ⟨#[]⟩))
        have HB4 : Hid (Below w.heap.size w (threeSet w2 R (.int .i64 0) (.slice none 0 0) (.string ⟨#[]⟩))) := below_three hbz hRw
        have HNO : Hid (∀ m fs b, ¬ IsResp s m fs b) := fun m fs b h => by
                  have e := HH.out.symm.trans (resp_head h)
                  have hwd := HWD.out
                  have hx := HX.out
                  have hx0 := HN0.out
                  cases xs with
                  | nil => exact absurd rfl hx0
                  | cons y r =>
                    simp only [List.map_cons, Prod.mk.injEq, List.cons.injEq] at e
                    have : x0 = y := hx
                    rw [this, e.1.1, resp_words h.1.1] at hwd
                    have := congrArg List.length hwd
                    simp at this; omega
        unfold threeSet at k0 k1 k2
        clear z hbz HZ HH hownw bb2 HB1 HROW1 HWD HX HN0 HNX
        go_wp2_with fail
        exact bodyPost_ret (v := .tuple #[.agg #[.int .i64 0, .slice none 0 0, .string ⟨#[]⟩], .bool false]) (by simp [results, Tryz.results48, go_sem, k0, k1, k2]) rfl (.inr ⟨rfl, HNO.out, HB4.out⟩)

end Go.Proofs.YtdlhicdfldecgaaGreatDoor

namespace Go.Proofs.YtdlhicdfldecgaaGreatDoor
open Go.RowKit
open Go.Lib hiding intOf

/-- A cell of the message behind its fields is set. -/
theorem RdSt.set {w : World} {B b q : Nat} {T : TypeId} {bd : ByteArray} {tl : List Value} {fs : List (ByteArray × ByteArray)} {left : ByteArray} {fv : Value} {W : World} {bd' : ByteArray} {tl' : List Value} (h : RdSt w B b q T bd tl fs left fv W) (hT : TypeOk T) (hq : B ≤ q) (o : Nat) (v : Value) (e : (⟨fv :: .string bd :: tl⟩ : Array Value).setIfInBounds o v = ⟨fv :: .string bd' :: tl'⟩) : RdSt w B b q T bd' tl' fs left fv (W.setCell ⟨q, o, none⟩ v) := by
  have hne := h.bq
  refine ⟨?_, ?_, ?_, h.low.setCell (p := ⟨q, o, none⟩) hq _⟩
  · have := h.rd
    unfold Reader at this ⊢
    rw [heap_setCell_other _ _ b _ (fun e => hne e.symm)]; exact this
  · rw [heap_set _ _ _ _ _ _ _ h.qc, e]
  · exact owns_same h.own (fun j hj => heap_setCell_other _ _ j _ (fun e => by
      subst e
      exact own_not h.own hT h.qc hj))
theorem RdSt.rdc {w : World} {B b q : Nat} {T : TypeId} {bd : ByteArray} {tl : List Value} {fs : List (ByteArray × ByteArray)} {left : ByteArray} {fv : Value} {W : World} (h : RdSt w B b q T bd tl fs left fv W) : W.cell? ⟨b, 0, none⟩ = some (.string left) := h.rd.cell

set_option maxHeartbeats 1000000 in
theorem readRest_any (w0 : World) (B b q : Nat) (T : TypeId) (bd : ByteArray) (tl : List Value) (s : ByteArray) (fv : Value) (w : World) (hst : RdSt w0 B b q T bd tl [] s fv w) (hT : TypeOk T) (hB : B ≤ w.heap.size) (hbB : B ≤ b) (hqB : B ≤ q) (hl : s.size ≤ 4000000) (hlen : LenOk w0) (hlB : 1 < B) :
    Calls Tryz.prog 179 #[.pointer (some ⟨q, 0, none⟩), .pointer (some ⟨b, 0, none⟩)] w fun e w' => e = .returned (.tuple #[]) ∧ ∃ fv' left, RdSt w0 B b q T (restBody s) tl (restFs s) left fv' w' := by
  have HSTART : Hid (RdSt w0 B b q T bd tl (lineTo ([], s) 0).1 (lineTo ([], s) 0).2 fv w) := hst
  have HLEN : Hid (LenOk w0) := hlen
  clear hst hlen
  go_enter Tryz.func179, Tryz.ntmps179
  go_wp2
  go_loopw [4] (fun i wr => ∃ k : Nat, k ≤ 9 ∧ i = .int .i64 (k : Int) ∧ B ≤ wr.heap.size ∧ Hid (∃ fv', RdSt w0 B b q T bd tl (lineTo ([], s) k).1 (lineTo ([], s) k).2 fv' wr)) (fun i _ => 9 - (intOf i).toNat)
  case atStart => exact ⟨0, by omega, rfl, hB, ⟨fv, HSTART.out⟩⟩
  case round =>
    obtain ⟨k, hk, rfl, hB9, hx⟩ := hrel
    obtain ⟨fv9, hst9⟩ := hx.out
    obtain ⟨z1, z2, _⟩ := lineTo_size s k
    obtain ⟨x9, hx9⟩ : ∃ x, x = lineTo ([], s) k := ⟨_, rfl⟩
    rw [← hx9] at hst9 z1 z2
    obtain ⟨fs9, lf⟩ := x9
    have z1 : fs9.length ≤ k := z1
    have z2 : lf.size ≤ s.size := z2
    have hst9 : RdSt w0 B b q T bd tl fs9 lf fv9 wr := hst9
    have HX : Hid (lineTo ([], s) k = (fs9, lf)) := hx9.symm
    clear hx hx9
    by_cases hlt : (k : Int) < 9
    · go_wp2_with fail
      refine (headIsOver_any b lf _ hst9.rd).mono ?_
      rintro e w1 ⟨rfl, rfl⟩
      by_cases hh : hasP lf lnE = true
      · rw [hh]
        have H9 : Hid (lineTo ([], s) 9 = (fs9, lf)) := by
          show _ = _
          have := line_stuck ([], s) k (by rw [HX.out]; exact hh) (9 - k)
          rw [show k + (9 - k) = 9 by omega, HX.out] at this
          exact this
        clear hh
        go_wp2_with fail
        refine (pass_any b lf lnE _ hst9.rd).mono ?_
        rintro e w1 ⟨rfl, ht1⟩
        have hst10 := hst9.took hB9 hbB ht1
        have hB10 : B ≤ w1.heap.size := Nat.le_trans hB9 ht1.2.size
        have y1 := trimP_size lf lnE
        have HBD : Hid (trimP lf lnE = restBody s) := by
          show _ = _
          unfold restBody
          rw [H9.out]
        have HFS : Hid (fs9 = restFs s) := by
          show _ = _
          unfold restFs
          rw [H9.out]
        generalize trimP lf lnE = body at *
        have hrc := hst10.rdc
        clear hst9 ht1 hB9
        go_wp2_with fail
        refine (clone_any body _ (by omega)).mono ?_
        rintro e w2 ⟨rfl, bb2⟩
        have hst11 := hst10.below hB10 bb2
        obtain ⟨_, hc1, _, hf1⟩ := hst11.qcell
        have HS : Hid (RdSt w0 B b q T body tl fs9 body fv9 (w2.setCell ⟨q, 1, none⟩ (.string body))) := hst11.set hT hqB 1 (.string body) rfl
        clear hst10 hst11 bb2 hrc hB10
        go_wp2_with fail
        exact bodyPost_end (v := .tuple #[]) (by simp [results, Tryz.results179, go_sem]) rfl ⟨rfl, fv9, body, by rw [← HBD.out, ← HFS.out]; exact HS.out⟩
      · have HS : Hid (lineTo ([], s) (k + 1) = (lineFs fs9 lf, lineLeft lf)) := by
          show _ = _
          rw [lineTo, HX.out]
          unfold lineStep
          rw [if_neg hh]
          rfl
        have hf : hasP lf lnE = false := by simpa using hh
        rw [hf]
        clear hh hf
        go_wp2_with fail
        refine (readLine_any w0 B b q T bd tl fs9 lf fv9 _ hst9 hT hB9 hbB hqB (by omega) (by omega) HLEN.out hlB).mono ?_
        rintro e w2 ⟨rfl, fv2, hst2⟩
        have HS2 : Hid (RdSt w0 B b q T bd tl (lineFs fs9 lf) (lineLeft lf) fv2 w2) := hst2
        have hB2 : B ≤ w2.heap.size := by
          have := (Array.getElem?_eq_some_iff.1 hst2.qc).1
          omega
        clear hst2 hst9
        go_wp2_with fail
        go_roundw
        case rel => exact ⟨k + 1, by omega, by go_num, hB2, ⟨fv2, by rw [HS.out]; exact HS2.out⟩⟩
        case measure => simp [intOf]; omega
    · obtain rfl : k = 9 := by omega
      have H9 := HX
      go_wp2_with fail
      refine (pass_any b lf lnE _ hst9.rd).mono ?_
      rintro e w1 ⟨rfl, ht1⟩
      have hst10 := hst9.took hB9 hbB ht1
      have hB10 : B ≤ w1.heap.size := Nat.le_trans hB9 ht1.2.size
      have y1 := trimP_size lf lnE
      have HBD : Hid (trimP lf lnE = restBody s) := by
        show _ = _
        unfold restBody
        rw [H9.out]
      have HFS : Hid (fs9 = restFs s) := by
        show _ = _
        unfold restFs
        rw [H9.out]
      generalize trimP lf lnE = body at *
      have hrc := hst10.rdc
      clear hst9 ht1 hB9
      go_wp2_with fail
      refine (clone_any body _ (by omega)).mono ?_
      rintro e w2 ⟨rfl, bb2⟩
      have hst11 := hst10.below hB10 bb2
      obtain ⟨_, hc1, _, hf1⟩ := hst11.qcell
      have HS : Hid (RdSt w0 B b q T body tl fs9 body fv9 (w2.setCell ⟨q, 1, none⟩ (.string body))) := hst11.set hT hqB 1 (.string body) rfl
      clear hst10 hst11 bb2 hrc hB10
      go_wp2_with fail
      exact bodyPost_end (v := .tuple #[]) (by simp [results, Tryz.results179, go_sem]) rfl ⟨rfl, fv9, body, by rw [← HBD.out, ← HFS.out]; exact HS.out⟩

set_option maxHeartbeats 1000000 in
theorem respReadP_any (w0 : World) (B b q : Nat) (s : ByteArray) (w : World) (hst : RdSt w0 B b q 78 ⟨#[]⟩ [.int .i64 0] [] s (.slice none 0 0) w) (hT : TypeOk 78) (hB : B ≤ w.heap.size) (hbB : B ≤ b) (hqB : B ≤ q) (hl : s.size ≤ 4000000) (hlen : LenOk w0) (hlB : 1 < B) :
    Calls Tryz.prog 157 #[.pointer (some ⟨q, 0, none⟩), .pointer (some ⟨b, 0, none⟩)] w fun e w' => e = .returned (.tuple #[]) ∧ ∃ fv left, ∃ st : Int, (NumOk (respNum s) → st = valL (respNum s).data.toList) ∧ RdSt w0 B b q 78 (restBody (respRest s)) [.int .i64 st] (restFs (respRest s)) left fv w' := by
  have HT : Hid (TypeOk 78) := hT
  have HLEN : Hid (LenOk w0) := hlen
  clear hT hlen
  have hlen0 := HLEN.out.below hst.low hlB
  go_enter Tryz.func157, Tryz.ntmps157
  go_wp2_with fail
  refine (pass_any b s httpAhead _ hst.rd).mono ?_
  rintro e w1 ⟨rfl, ht1⟩
  have hst1 := hst.took hB hbB ht1
  have hB1 : B ≤ w1.heap.size := Nat.le_trans hB ht1.2.size
  have z1 := trimP_size s httpAhead
  obtain ⟨r1, hr1⟩ : ∃ x, x = trimP s httpAhead := ⟨_, rfl⟩
  have HR1 : Hid (r1 = trimP s httpAhead) := hr1
  rw [← hr1] at hst1 z1
  have hlen1 := HLEN.out.below hst1.low hlB
  clear hst ht1 hlen0 hB hr1
  go_wp2_with fail
  refine (upTo_any b r1 blE _ hst1.rd (by omega) hlen1).mono ?_
  rintro e w2 ⟨rfl, ht2⟩
  have hst2 := hst1.took hB1 hbB ht2
  have hB2 : B ≤ w2.heap.size := Nat.le_trans hB1 ht2.2.size
  have z2 := cutB_size r1 blE
  have z3 := cutA_size r1 blE
  obtain ⟨r2, hr2⟩ : ∃ x, x = cutB r1 blE := ⟨_, rfl⟩
  obtain ⟨d, hd⟩ : ∃ x, x = cutA r1 blE := ⟨_, rfl⟩
  have HR2 : Hid (r2 = cutB r1 blE) := hr2
  have HD : Hid (d = respNum s) := by
    show _ = _
    rw [hd, HR1.out]
    rfl
  rw [← hr2] at hst2 z2
  rw [← hd] at z3
  rw [← hd]
  clear hr2 hd ht2 hst1 hB1 hlen1
  go_wp2_with fail
  refine (implNumRead_any d _ (by unfold maxLen; omega)).mono ?_
  rintro e w3 ⟨t, st, rfl, k1, k2, _, bb3⟩
  have hst3 := hst2.below hB2 bb3
  have hB3 : B ≤ w3.heap.size := Nat.le_trans hB2 bb3.size
  have HK : Hid (NumOk (respNum s) → st = valL (respNum s).data.toList) := fun h => by
    rw [← HD.out] at h ⊢
    exact k2 (k1.2 h)
  have hcell2 : w3.cell? ⟨q, 2, none⟩ = some (.int .i64 0) ∧ w3.frozen? ⟨q, 2, none⟩ = false := by
    have := hst3.qc
    constructor <;> simp [World.cell?, World.frozen?, this]
  obtain ⟨c2, f2⟩ := hcell2
  have hst4 := hst3.set HT.out hqB 2 (.int .i64 st) rfl
  have HS4 : Hid (RdSt w0 B b q 78 ⟨#[]⟩ [.int .i64 st] [] r2 (.slice none 0 0) (w3.setCell ⟨q, 2, none⟩ (.int .i64 st))) := hst4
  have hB4 : B ≤ (w3.setCell ⟨q, 2, none⟩ (.int .i64 st)).heap.size := by simp; omega
  clear hst2 hst3 hst4 bb3 k1 k2 hB2 hB3
  go_wp2_with fail
  refine (pass_any b r2 dotLn _ HS4.out.rd).mono ?_
  rintro e w6 ⟨rfl, ht6⟩
  have hst6 := HS4.out.took hB4 hbB ht6
  have hB6 : B ≤ w6.heap.size := Nat.le_trans hB4 ht6.2.size
  have z4 := trimP_size r2 dotLn
  obtain ⟨r3, hr3⟩ : ∃ x, x = trimP r2 dotLn := ⟨_, rfl⟩
  have HR3 : Hid (r3 = respRest s) := by
    show _ = _
    rw [hr3, HR2.out, HR1.out]
    rfl
  rw [← hr3] at hst6 z4
  clear hr3 ht6 HS4 hB4 c2 f2
  go_wp2_with fail
  refine (readRest_any w0 B b q _ _ _ r3 _ _ hst6 HT.out hB6 hbB hqB (by omega) HLEN.out hlB).mono ?_
  rintro e w7 ⟨rfl, fv, lf, hst7⟩
  rw [HR3.out] at hst7
  have HS7 : Hid _ := hst7
  clear hst7 hst6
  go_wp2_with fail
  exact bodyPost_end (v := .tuple #[]) (by simp [results, Tryz.results157, go_sem]) rfl ⟨rfl, fv, lf, st, HK.out, HS7.out⟩

theorem restFs_size (r : ByteArray) : (restFs r).length ≤ 9 ∧ ∀ i, i < (restFs r).length → (nameAt (restFs r) i).size ≤ r.size ∧ (valAt (restFs r) i).size ≤ r.size := by
  have h : (restFs r).length ≤ 9 ∧ (lineTo ([], r) 9).2.size ≤ r.size ∧ ∀ f ∈ restFs r, f.1.size ≤ r.size ∧ f.2.size ≤ r.size := lineTo_size r 9
  generalize restFs r = l at *
  refine ⟨h.1, fun i hi => ?_⟩
  have e := pair_of l i hi
  have := h.2.2 (l[i]) (List.getElem_mem _)
  rw [← e] at this
  exact this
theorem restBody_size (r : ByteArray) : (restBody r).size ≤ r.size := by
  obtain ⟨_, h2, _⟩ := lineTo_size r 9
  exact Nat.le_trans (trimP_size _ _) h2
theorem owns_set {w : World} {base : Nat} {t : TypeId} {size : Nat} {v x : Value} {n : Nat} {xs : List Value} {R o : Nat} {cs : Array Value} {T : TypeId} {fr : Nat × Nat} (h : w.ownsRow base t size v n xs) (hT : T ≠ t) (hR : w.heap[R]? = some (.cells cs T fr)) : (w.setCell ⟨R, o, none⟩ x).ownsRow base t size v n xs ∧ ∃ cs', (w.setCell ⟨R, o, none⟩ x).heap[R]? = some (.cells cs' T fr) :=
  ⟨owns_same h (fun j hj => heap_setCell_other _ _ j _ (fun e => by
    subst e
    exact own_not h hT hR hj)), _, heap_set _ _ _ _ _ _ _ hR⟩

set_option maxHeartbeats 1000000 in
set_option maxRecDepth 100000 in
theorem implRespRead_any (s : ByteArray) (w : World) (hs : s.size ≤ 3000000) (htab : TabOk w) (hlen : LenOk w) :
    Calls Tryz.prog 140 #[.string s] w fun e w' => RespIs s w e w' := by
  have hlt := hlen.lt
  have hlen0 : LenOk (w.alloc (.cells #[.int .i64 0, .slice none 0 0, .string ⟨#[]⟩] 27)) := hlen.below ((Below.refl _ _).alloc (Nat.le_refl _) _) hlt
  have hlow : Below (w.heap.size + 1) (w.alloc (.cells #[.int .i64 0, .slice none 0 0, .string ⟨#[]⟩] 27)) (((w.alloc (.cells #[.int .i64 0, .slice none 0 0, .string ⟨#[]⟩] 27)).alloc (.cells #[.slice none 0 0, .string ⟨#[]⟩, .int .i64 0] 78)).alloc (.cells #[.string s] 65)) := ((Below.refl _ _).alloc (by simp) _).alloc (by simp) _
  have hst0 : RdSt (w.alloc (.cells #[.int .i64 0, .slice none 0 0, .string ⟨#[]⟩] 27)) (w.heap.size + 1) (w.heap.size + 1 + 1) (w.heap.size + 1) 78 ⟨#[]⟩ [.int .i64 0] [] s (.slice none 0 0) (((w.alloc (.cells #[.int .i64 0, .slice none 0 0, .string ⟨#[]⟩] 27)).alloc (.cells #[.slice none 0 0, .string ⟨#[]⟩, .int .i64 0] 78)).alloc (.cells #[.string s] 65)) := by
    refine ⟨?_, ?_, ⟨rfl, .inl ⟨rfl, rfl⟩⟩, hlow⟩
    · have := heap_alloc_new ((w.alloc (.cells #[.int .i64 0, .slice none 0 0, .string ⟨#[]⟩] 27)).alloc (.cells #[.slice none 0 0, .string ⟨#[]⟩, .int .i64 0] 78)) (.cells #[.string s] 65)
      unfold Reader
      simpa using this
    · have h1 := heap_alloc_new (w.alloc (.cells #[.int .i64 0, .slice none 0 0, .string ⟨#[]⟩] 27)) (.cells #[.slice none 0 0, .string ⟨#[]⟩, .int .i64 0] 78)
      rw [heap_alloc_old _ _ (by simp)]
      simpa using h1
  go_enter Tryz.func140, Tryz.ntmps140
  go_wp2_with fail
  refine (respReadP_any _ (w.heap.size + 1) _ _ s _ hst0 (by unfold TypeOk; decide) (by simp) (by omega) (Nat.le_refl _) (by omega) hlen0 (by omega)).mono ?_
  rintro e w1 ⟨rfl, fv, lf, m, hst2, hst⟩
  obtain ⟨R, hR⟩ : ∃ x, x = w.heap.size := ⟨_, rfl⟩
  obtain ⟨q, hq⟩ : ∃ x, x = w.heap.size + 1 := ⟨_, rfl⟩
  have hRw : w.heap.size ≤ R := by omega
  obtain ⟨fs, hfs⟩ : ∃ x, x = restFs (respRest s) := ⟨_, rfl⟩
  obtain ⟨bd, hbd⟩ : ∃ x, x = restBody (respRest s) := ⟨_, rfl⟩
  rw [← hfs, ← hbd] at hst
  obtain ⟨y1, y2⟩ := restFs_size (respRest s)
  have y3 := restBody_size (respRest s)
  have y4 : (respRest s).size ≤ s.size := by
    unfold respRest
    exact Nat.le_trans (trimP_size _ _) (Nat.le_trans (cutB_size _ _) (trimP_size _ _))
  rw [← hfs] at y1 y2
  rw [← hbd] at y3
  have hbs : bd.size ≤ maxLen := by unfold maxLen; omega
  obtain ⟨n, hn⟩ : ∃ x, x = fs.length := ⟨_, rfl⟩
  have hwk : WalkF n fs := fun i hi => by
    have := y2 i (by omega)
    unfold maxLen
    omega
  have HC : Hid (∀ m' fs' b', IsResp s m' fs' b' → m = m' ∧ fs = fs' ∧ bd = b') := fun m' fs' b' h => by
    obtain ⟨e1, e3, e4⟩ := resp_read h
    have hr := h.1.1
    have h2 := num_ok m'.toNat (by omega)
    rw [← e1] at h2
    have h3 := hst2 h2
    rw [e1, show (numText m'.toNat).data.toList = numL m'.toNat from rfl, numL_val _ (by omega)] at h3
    exact ⟨by omega, by rw [hfs, e3], by rw [hbd, e4]⟩
  have hown := hst.own
  rw [← hn] at hown
  obtain ⟨oa, cp, rfl⟩ := slice_of_owns hown
  have hqc := hst.qc
  rw [← hq] at hqc
  have hb01 := hst.low
  have hb1 : Below w.heap.size w w1 := ((Below.refl _ w).alloc (Nat.le_refl _) _).trans (hb01.mono (by omega))
  have hqlt : q < w1.heap.size := (Array.getElem?_eq_some_iff.1 hqc).1
  have hR1 : w1.heap[R]? = some (.cells #[.int .i64 0, .slice none 0 0, .string ⟨#[]⟩] 27) := by
    rw [hR, hb01.block _ (by omega)]
    exact heap_alloc_new w _
  have HZ : Hid (∀ W, Below w1.heap.size w1 W → W.heap[R]? = some (.cells #[.int .i64 0, .slice none 0 0, .string ⟨#[]⟩] 27) ∧ Below w.heap.size w W) := fun W h =>
    ⟨by rw [h.block _ (by omega)]; exact hR1, hb1.trans (h.mono hb1.size)⟩
  have HQ : Hid (∀ W, Below w1.heap.size w1 W → (W.cell? ⟨q, 0, none⟩ = some (.slice oa n cp) ∧ W.cell? ⟨q, 1, none⟩ = some (.string bd) ∧ W.cell? ⟨q, 2, none⟩ = some (.int .i64 m)) ∧ FieldsV W w.heap.size (.slice oa n cp) n fs ∧ W.ownsRow w.heap.size 131 2 (.slice oa n cp) n (flatF fs)) := fun W h => by
    have hh : W.heap[q]? = _ := (h.block q hqlt).trans hqc
    have ho : W.ownsRow w.heap.size 131 2 (.slice oa n cp) n (flatF fs) := owns_wide (owns_same hown (fun j hj => h.block j (owns_block_lt hown hj).2)) (by omega)
    exact ⟨⟨by simp [World.cell?, hh], by simp [World.cell?, hh], by simp [World.cell?, hh]⟩, FieldsV.of_owns ho, ho⟩
  have HTAB : Hid (TabOk w) := htab
  have HN : Hid (n = fs.length) := hn
  have HB1 : Hid (Below w1.heap.size w1 w1) := Below.refl _ _
  rw [← hq, ← hR]
  have n9 : n ≤ 9 := by omega
  clear hst hown hqc hb01 hb1 hR1 hst0 hlow hlen hlen0 htab hn hfs hbd y1 y2 y3 y4 hR hq hs hlt hst2
  obtain ⟨⟨d0, d1, d2⟩, hv1, _⟩ := HQ.out w1 HB1.out
  go_wp2_with fail
  refine (respOk_any m _ bd n w.heap.size fs _ hv1 (by omega) hwk hbs).mono ?_
  rintro e w2 ⟨b1, rfl, kb1, bb2⟩
  have HB2 : Hid (Below w1.heap.size w1 w2) := bb2
  clear d0 d1 d2 hv1 bb2
  obtain ⟨⟨d0, d1, d2⟩, hv2, _⟩ := HQ.out w2 HB2.out
  cases b1
  · have HNO : Hid (∀ m fs b, ¬ IsResp s m fs b) := fun m' fs' b' h => by
      obtain ⟨e1, e3, e4⟩ := HC.out m' fs' b' h
      subst e1 e3 e4
      have := kb1.2 h.1
      cases this
    obtain ⟨z, hbz⟩ := HZ.out w2 HB2.out
    obtain ⟨⟨c0, c1, c2⟩, f0, f1, f2⟩ := three_facts z
    obtain ⟨⟨k0, k1, k2⟩, _⟩ := three_facts (three_set z (.int .i64 0) (.slice none 0 0) (.string ⟨#[]⟩))
    have HB4 : Hid (Below w.heap.size w (threeSet w2 R (.int .i64 0) (.slice none 0 0) (.string ⟨#[]⟩))) := below_three hbz hRw
    unfold threeSet at k0 k1 k2
    clear z hbz kb1 hv2 hwk hbs
    go_wp2_with fail
    exact bodyPost_ret (v := .tuple #[.agg #[.int .i64 0, .slice none 0 0, .string ⟨#[]⟩], .bool false]) (by simp [results, Tryz.results140, go_sem, k0, k1, k2]) rfl (.inr ⟨rfl, HNO.out, HB4.out⟩)
  · have HP : Hid (RespP m fs bd) := kb1.1 rfl
    have hT2 : TabOk w2 := HTAB.out.below (HZ.out w2 HB2.out).2
    clear kb1
    go_wp2_with fail
    refine (respText_any m _ bd n w.heap.size fs _ hv2 (by omega) hwk hbs hT2).mono ?_
    rintro e w3 ⟨u, rfl, ku, _, bb3⟩
    have HU : Hid (u = respT m fs bd) := ku HP.out
    have HB3 : Hid (Below w1.heap.size w1 w3) := HB2.out.trans (bb3.mono HB2.out.size)
    clear d0 d1 d2 hv2 bb3 ku hT2 hwk hbs
    obtain ⟨⟨d0, d1, d2⟩, _, hown3⟩ := HQ.out w3 HB3.out
    by_cases hus : u = s
    · have HIS : Hid (IsResp s m fs bd) := ⟨HP.out, by rw [← HU.out]; exact hus⟩
      have hts : (u.toList == s.toList) = true := (text_beq _ _).2 hus
      clear hus hown3
      go_wp2_with fail
      refine (faceA_any m oa n cp bd _).mono ?_
      rintro e w4 ⟨rfl, bb4⟩
      have hB4 : Below w1.heap.size w1 w4 := HB3.out.trans (bb4.mono HB3.out.size)
      obtain ⟨_, _, hown4⟩ := HQ.out w4 hB4
      obtain ⟨z, hbz⟩ := HZ.out w4 hB4
      obtain ⟨⟨c0, c1, c2⟩, f0, f1, f2⟩ := three_facts z
      obtain ⟨⟨k0, k1, k2⟩, _⟩ := three_facts (three_set z (.int .i64 m) (.slice oa n cp) (.string bd))
      have HB4 : Hid (Below w.heap.size w (threeSet w4 R (.int .i64 m) (.slice oa n cp) (.string bd))) := below_three hbz hRw
      have HOWN : Hid ((threeSet w4 R (.int .i64 m) (.slice oa n cp) (.string bd)).ownsRow w.heap.size 131 2 (.slice oa n cp) fs.length (flatF fs)) := by
        show World.ownsRow _ _ _ _ _ _ _
        unfold threeSet
        rw [← HN.out]
        obtain ⟨o1, _, r1⟩ := owns_set (o := 0) (x := .int .i64 m) hown4 (by decide) z
        obtain ⟨o2, _, r2⟩ := owns_set (o := 1) (x := .slice oa n cp) o1 (by decide) r1
        exact (owns_set (o := 2) o2 (by decide) r2).1
      unfold threeSet at k0 k1 k2
      clear z hbz hown4 hB4 bb4 d0 d1 d2
      go_wp2_with fail
      exact bodyPost_ret (v := .tuple #[.agg #[.int .i64 m, .slice oa n cp, .string bd], .bool true]) (by simp [results, Tryz.results140, go_sem, k0, k1, k2]) rfl (.inl ⟨m, fs, bd, _, rfl, HIS.out, HOWN.out, HB4.out⟩)
    · have HNO : Hid (∀ m fs b, ¬ IsResp s m fs b) := fun m' fs' b' h => by
        obtain ⟨e1, e3, e4⟩ := HC.out m' fs' b' h
        subst e1 e3 e4
        exact hus (HU.out.trans h.2)
      have hts := text_beq_no hus
      obtain ⟨z, hbz⟩ := HZ.out w3 HB3.out
      obtain ⟨⟨c0, c1, c2⟩, f0, f1, f2⟩ := three_facts z
      obtain ⟨⟨k0, k1, k2⟩, _⟩ := three_facts (three_set z (.int .i64 0) (.slice none 0 0) (.string ⟨#[]⟩))
      have HB4 : Hid (Below w.heap.size w (threeSet w3 R (.int .i64 0) (.slice none 0 0) (.string ⟨#[]⟩))) := below_three hbz hRw
      unfold threeSet at k0 k1 k2
      clear z hbz hus hown3
      go_wp2_with fail
      exact bodyPost_ret (v := .tuple #[.agg #[.int .i64 0, .slice none 0 0, .string ⟨#[]⟩], .bool false]) (by simp [results, Tryz.results140, go_sem, k0, k1, k2]) rfl (.inr ⟨rfl, HNO.out, HB4.out⟩)

end Go.Proofs.YtdlhicdfldecgaaGreatDoor

namespace Go.Proofs.YtdlhicdfldecgaaGreatDoor
open Go.RowKit
open Go.Lib hiding intOf

attribute [local go_sem] Oper.semAt_some

/-- What a round keeps: all below a block, and the one block that holds the fields. -/
def KeepL (n₀ b : Nat) (W W' : World) : Prop := Below n₀ W W' ∧ W'.heap[b]? = W.heap[b]?
theorem KeepL.trans {n₀ b : Nat} {A B C : World} (h : KeepL n₀ b A B) (k : KeepL n₀ b B C) : KeepL n₀ b A C := ⟨h.1.trans k.1, k.2.trans h.2⟩
end Go.Proofs.YtdlhicdfldecgaaGreatDoor

namespace Go.Proofs.YtdlhicdfldecgaaGreatDoor
open Go.RowKit
open Go.Lib hiding intOf

attribute [local go_sem] Oper.semAt_some

set_option maxHeartbeats 1000000 in
set_option maxRecDepth 100000 in
theorem implVaryOf_any (v : Value) (n base : Nat) (fs : List (ByteArray × ByteArray)) (w : World) (hv : FieldsV w base v n fs) (hn : n ≤ 1073741824) (hcp : CopyF fs) (hsz : (getV fs varyName).size ≤ 1048576) :
    Calls Tryz.prog 36 #[v] w fun e w' => RowIs w.heap.size (varyP fs) w e w' := by
  obtain ⟨s, hs⟩ : ∃ s, s = getV fs varyName := ⟨_, rfl⟩
  have HS : Hid (getV fs varyName = s) := hs.symm
  have HE : Hid (varyP fs = (splitL s).map lowerOf) := by show _ = _; unfold varyP; rw [HS.out]
  rw [← hs] at hsz
  have hl1 := (splitL_le s).1
  clear hs
  go_enter Tryz.func36, Tryz.ntmps36
  go_wp2_with fail
  refine (implGet_any v n base fs varyName _ hv hn hcp).mono ?_
  rintro e w1 ⟨rfl, b1⟩
  rw [HS.out]
  clear hv
  go_wp2_with fail
  refine (implSplit_any s _ hsz).mono ?_
  rintro e w2 ⟨V, rfl, O, b2⟩
  obtain ⟨xs, hxs⟩ : ∃ xs, xs = splitL s := ⟨_, rfl⟩
  rw [← hxs] at hl1 O HE
  obtain ⟨m, hm⟩ : ∃ m, m = xs.length := ⟨_, rfl⟩
  rw [← hm] at hl1 O
  have HM : Hid (xs.length = m) := hm.symm
  have O := owns_base O b1.size
  have b2 : Below w.heap.size w w2 := b1.trans (b2.mono b1.size)
  clear hxs hm b1
  rcases row_form O with ⟨oa, ca, rfl, h0, h1⟩ | ⟨g, cap, rfl, hp, r1⟩
  · subst h0 h1
    go_wp2_with fail
    refine wp_loop_rounds 1 ?_
    rw [rounds_succ]
    go_wp2_with fail
    go_ret
    exact RowIs.of (by rw [HE.out]; rfl) rfl O b2
  · clear O
    have HB2 : Hid (Below w.heap.size w w2) := b2
    have HR1 : Hid (TextRow w.heap.size w2 g m cap (loTo xs 0)) := by show TextRow _ _ _ _ _ _; rw [loTo_zero]; exact r1
    clear b2 r1
    go_wp2_with fail
    go_loopw [17] (fun i wr => ∃ j : Nat, j ≤ m ∧ i = .int .i64 (j : Int) ∧ Hid (Below w.heap.size w wr) ∧ Hid (TextRow w.heap.size wr g m cap (loTo xs j))) (fun i _ => m - (intOf i).toNat)
    case atStart => exact ⟨0, Nat.zero_le _, rfl, HB2, HR1⟩
    case round =>
      obtain ⟨j, hj, rfl, HB, HR⟩ := hrel
      by_cases hlt : j < m
      · have hlt2 : (j : Int) < (m : Int) := by omega
        obtain ⟨x, hx⟩ : ∃ x, x = textAt xs j := ⟨_, rfl⟩
        have hc := HR.out.cell j hlt
        rw [loTo_at, ← hx] at hc
        have HST : Hid ((loTo xs j).set j (lowerOf x) = loTo xs (j + 1)) := by show _ = _; rw [hx]; exact loTo_step xs j (by rw [HM.out]; exact hlt)
        clear hx
        go_wp2_with fail
        refine (implLower_any x _).mono ?_
        rintro e w3 ⟨rfl, hb3⟩
        have hrow := HR.out.below hb3 HR.out.lt
        have hc3 := hrow.cell j hlt
        have hf3 := hrow.frozen j
        have HB3 : Hid (Below w.heap.size w (w3.setCell ⟨g, j, none⟩ (.string (lowerOf x)))) := (HB.out.trans (hb3.mono HB.out.size)).setCell HR.out.base _
        have HR3 : Hid (TextRow w.heap.size (w3.setCell ⟨g, j, none⟩ (.string (lowerOf x))) g m cap (loTo xs (j + 1))) := by
          show TextRow _ _ _ _ _ _
          rw [← HST.out]
          exact hrow.set j hlt _
        clear hb3 hrow HB HR HST hc
        go_wp2_with fail
        go_roundw
        case rel => exact ⟨j + 1, by omega, by go_num, HB3, HR3⟩
        case measure => simp [intOf]; omega
      · obtain rfl : j = m := by omega
        go_wp2_with fail
        go_ret
        exact RowIs.of (by rw [HE.out, loTo_all xs j (by rw [HM.out]; exact Nat.le_refl _)]) (by rw [loTo_all xs j (by rw [HM.out]; exact Nat.le_refl _), List.length_map, HM.out]) HR.out.owns HB.out

theorem TextRow.kept {base : Nat} {W W' : World} {row : Option Nat} {g n cap B0 : Nat} {xs : List ByteArray} (h : TextRow base W g n cap xs) (hg : W.grownBy W' row) (hr : ∀ r, row = some r → B0 ≤ r ∧ ∃ o : Obj, W.heap[r]? = some o ∧ o.isCells = false) : TextRow base W' g n cap xs := by
  obtain ⟨cur, hh, hc⟩ := h.heap
  have := hg.size; have := h.lt
  refine ⟨h.len, h.base, by omega, h.le, h.mx, cur, ?_, hc⟩
  rw [hg.block g h.lt (fun e => by
    obtain ⟨_, o, ho, hc⟩ := hr g e.symm
    rw [hh] at ho
    cases ho
    cases hc)]
  exact hh
end Go.Proofs.YtdlhicdfldecgaaGreatDoor

namespace Go.Proofs.YtdlhicdfldecgaaGreatDoor
open Go.RowKit
open Go.Lib hiding intOf

theorem RdX.notLen {w : World} {b : Nat} {left : ByteArray} {tl : List Value} {T : TypeId} (h : RdX w b left tl T) (hm : LenOk w) : 1 ≠ b := fun e => by
  obtain ⟨m, hm⟩ := hm
  have hc := h.cell
  rw [← e, hm] at hc
  cases hc
theorem LenOk.grown {w w' : World} {b : Nat} (h : LenOk w) (hg : w.grownBy w' (some b)) (hb : 1 ≠ b) : LenOk w' := by
  have hlt := h.lt
  obtain ⟨m, hm⟩ := h
  refine ⟨m, ?_⟩
  rw [← hm]
  unfold World.cell?
  rw [hg.block _ hlt (fun e => hb (Option.some.inj e))]
theorem RdX.set {w : World} {b : Nat} {left : ByteArray} {tl : List Value} {T : TypeId} (h : RdX w b left tl T) (k : Nat) (x : Value) : RdX (w.setCell ⟨b, k + 1, none⟩ x) b left (tl.set k x) T := by
  have h2 := heap_set w b (k + 1) _ _ _ x h
  unfold RdX
  simpa using h2
theorem RdX.at {w : World} {b : Nat} {left : ByteArray} {tl : List Value} {T : TypeId} (h : RdX w b left tl T) (k : Nat) : w.cell? ⟨b, k + 1, none⟩ = tl[k]? := by
  unfold RdX at h
  simp [World.cell?, h]
theorem RdX.fr {w : World} {b : Nat} {left : ByteArray} {tl : List Value} {T : TypeId} (h : RdX w b left tl T) (k : Nat) : w.frozen? ⟨b, k, none⟩ = false := by
  unfold RdX at h
  simp [World.frozen?, h]
theorem RdX.lt {w : World} {b : Nat} {left : ByteArray} {tl : List Value} {T : TypeId} (h : RdX w b left tl T) : b < w.heap.size := (Array.getElem?_eq_some_iff.1 h).1
theorem RdX.below {w w' : World} {b : Nat} {left : ByteArray} {tl : List Value} {T : TypeId} (h : RdX w b left tl T) (hb : Below w.heap.size w w') : RdX w' b left tl T := (hb.block b h.lt).trans h

set_option maxHeartbeats 1000000 in
theorem readPath_any (b : Nat) (s : ByteArray) (a1 : Value) (tl : List Value) (w : World) (h : RdX w b s (a1 :: tl) 68) (ha : ∃ x, a1 = .string x) (hl : s.size ≤ 4000000) (hm : LenOk w) :
    Calls Tryz.prog 93 #[.pointer (some ⟨b, 0, none⟩)] w fun e w' => e = .returned (.tuple #[]) ∧ RdX w' b (objP1 s) (.string (cutA (trimP s objW) blE) :: tl) 68 ∧ w.grownBy w' (some b) := by
  obtain ⟨x0, rfl⟩ := ha
  have HNE : Hid (1 ≠ b) := h.notLen hm
  have HZ : Hid ((trimP s objW).size ≤ s.size) := trimP_size _ _
  go_enter Tryz.func93, Tryz.ntmps93
  go_wp2_with fail
  refine (passX_any b s objW _ _ _ h).mono ?_
  rintro e w1 ⟨rfl, h1, g1⟩
  have hm1 := hm.grown g1 HNE.out
  clear h hm
  go_wp2_with fail
  refine (upToX_any b _ blE _ _ _ h1 (by have := HZ.out; omega) hm1).mono ?_
  rintro e w2 ⟨rfl, h2, g2⟩
  have G2 : Hid (w.grownBy w2 (some b)) := grown_then g1 g2
  obtain ⟨x, hx⟩ : ∃ x, x = cutA (trimP s objW) blE := ⟨_, rfl⟩
  have hxs : x.size ≤ 4000000 := by rw [hx]; have := cutA_size (trimP s objW) blE; have := HZ.out; omega
  have H2 : Hid (RdX w2 b (objP1 s) (.string x0 :: tl) 68) := h2
  rw [← hx]
  have HXE : Hid (x = cutA (trimP s objW) blE) := hx
  clear h1 g1 g2 h2 hx hm1
  go_wp2_with fail
  refine (clone_any x _ (by omega)).mono ?_
  rintro e w3 ⟨rfl, bw⟩
  have h3 := H2.out.below bw
  have hc : w3.cell? ⟨b, 1, none⟩ = some (.string x0) := (h3.at 0).trans rfl
  have hf := h3.fr 1
  have HE : Hid (RdX (w3.setCell ⟨b, 1, none⟩ (.string x)) b (objP1 s) (.string (cutA (trimP s objW) blE) :: tl) 68 ∧ w.grownBy (w3.setCell ⟨b, 1, none⟩ (.string x)) (some b)) := ⟨by
    have h : RdX (w3.setCell ⟨b, 1, none⟩ (.string x)) b (objP1 s) (.string x :: tl) 68 := h3.set 0 _
    have e : (Value.string (cutA (trimP s objW) blE)) = .string x := by rw [HXE.out]
    rw [e]
    exact h, grown_then (grown_then G2.out (grown_below bw _)) (grown_set _ _ _ _)⟩
  clear h3 H2 bw G2
  go_wp2_with fail
  exact bodyPost_end (v := .tuple #[]) (by simp [results, Tryz.results93, go_sem]) rfl ⟨rfl, HE.out⟩

set_option maxHeartbeats 1000000 in
theorem readTime_any (b : Nat) (s : ByteArray) (a1 a2 a3 a4 a5 a6 : Value) (t0 : Int) (tl : List Value) (w : World) (h : RdX w b s (a1 :: a2 :: a3 :: a4 :: a5 :: a6 :: .int .i64 t0 :: tl) 68) (hl : s.size ≤ 4000000) (hm : LenOk w) :
    Calls Tryz.prog 94 #[.pointer (some ⟨b, 0, none⟩)] w fun e w' => e = .returned (.tuple #[]) ∧ ∃ t : Int, (0 ≤ t ∧ t ≤ 1000000) ∧ (NumOk (cutA s blE) → t = valL (cutA s blE).data.toList) ∧ RdX w' b (cutB s blE) (a1 :: a2 :: a3 :: a4 :: a5 :: a6 :: .int .i64 t :: tl) 68 ∧ w.grownBy w' (some b) := by
  go_enter Tryz.func94, Tryz.ntmps94
  go_wp2_with fail
  refine (upToX_any b _ blE _ _ _ h hl hm).mono ?_
  rintro e w2 ⟨rfl, h2, g2⟩
  obtain ⟨x, hx⟩ : ∃ x, x = cutA s blE := ⟨_, rfl⟩
  have HXE : Hid (x = cutA s blE) := hx
  have hxs : x.size ≤ maxLen := by rw [hx]; have := cutA_size s blE; unfold maxLen; omega
  have H2 : Hid (RdX w2 b (cutB s blE) (a1 :: a2 :: a3 :: a4 :: a5 :: a6 :: .int .i64 t0 :: tl) 68) := h2
  have G2 : Hid (w.grownBy w2 (some b)) := g2
  rw [← hx]
  clear h hm h2 g2 hx
  go_wp2_with fail
  refine (implNumRead_any x _ hxs).mono ?_
  rintro e w3 ⟨bo, n, rfl, hn1, hn2, hn3, bw⟩
  have HNB : Hid (0 ≤ n ∧ n ≤ 1000000) := by
    show _ ∧ _
    cases bo with
    | false => rw [hn3 rfl]; decide
    | true =>
      have h1 := (hn1.1 rfl).2.2.2
      have h2 := hn2 rfl
      omega
  have HNV : Hid (NumOk (cutA s blE) → n = valL (cutA s blE).data.toList) := by
    show _ → _
    rw [← HXE.out]
    exact fun h => hn2 (hn1.2 h)
  have h3 := H2.out.below bw
  have hc : w3.cell? ⟨b, 7, none⟩ = some (.int .i64 t0) := (h3.at 6).trans rfl
  have hf := h3.fr 7
  have HE : Hid (RdX (w3.setCell ⟨b, 7, none⟩ (.int .i64 n)) b (cutB s blE) (a1 :: a2 :: a3 :: a4 :: a5 :: a6 :: .int .i64 n :: tl) 68 ∧ w.grownBy (w3.setCell ⟨b, 7, none⟩ (.int .i64 n)) (some b)) := ⟨h3.set 6 _, grown_then (grown_then G2.out (grown_below bw _)) (grown_set _ _ _ _)⟩
  clear h3 H2 bw G2 hn1 hn2 hn3
  go_wp2_with fail
  exact bodyPost_end (v := .tuple #[]) (by simp [results, Tryz.results94, go_sem]) rfl ⟨rfl, n, HNB.out, HNV.out, HE.out⟩

set_option maxHeartbeats 1000000 in
theorem readCount_any (b : Nat) (s : ByteArray) (a1 a2 a3 a4 a5 a6 a7 : Value) (t0 : Int) (tl : List Value) (w : World) (h : RdX w b s (a1 :: a2 :: a3 :: a4 :: a5 :: a6 :: a7 :: .int .i64 t0 :: tl) 68) (hl : s.size ≤ 4000000) (hm : LenOk w) :
    Calls Tryz.prog 95 #[.pointer (some ⟨b, 0, none⟩)] w fun e w' => e = .returned (.tuple #[]) ∧ ∃ t : Int, (0 ≤ t ∧ t ≤ 1000000) ∧ (NumOk (cutA s nlE) → t = valL (cutA s nlE).data.toList) ∧ RdX w' b (cutB s nlE) (a1 :: a2 :: a3 :: a4 :: a5 :: a6 :: a7 :: .int .i64 t :: tl) 68 ∧ w.grownBy w' (some b) := by
  go_enter Tryz.func95, Tryz.ntmps95
  go_wp2_with fail
  refine (upToX_any b _ nlE _ _ _ h hl hm).mono ?_
  rintro e w2 ⟨rfl, h2, g2⟩
  obtain ⟨x, hx⟩ : ∃ x, x = cutA s nlE := ⟨_, rfl⟩
  have HXE : Hid (x = cutA s nlE) := hx
  have hxs : x.size ≤ maxLen := by rw [hx]; have := cutA_size s nlE; unfold maxLen; omega
  have H2 : Hid (RdX w2 b (cutB s nlE) (a1 :: a2 :: a3 :: a4 :: a5 :: a6 :: a7 :: .int .i64 t0 :: tl) 68) := h2
  have G2 : Hid (w.grownBy w2 (some b)) := g2
  rw [← hx]
  clear h hm h2 g2 hx
  go_wp2_with fail
  refine (implNumRead_any x _ hxs).mono ?_
  rintro e w3 ⟨bo, n, rfl, hn1, hn2, hn3, bw⟩
  have HNB : Hid (0 ≤ n ∧ n ≤ 1000000) := by
    show _ ∧ _
    cases bo with
    | false => rw [hn3 rfl]; decide
    | true =>
      have h1 := (hn1.1 rfl).2.2.2
      have h2 := hn2 rfl
      omega
  have HNV : Hid (NumOk (cutA s nlE) → n = valL (cutA s nlE).data.toList) := by
    show _ → _
    rw [← HXE.out]
    exact fun h => hn2 (hn1.2 h)
  have h3 := H2.out.below bw
  have hc : w3.cell? ⟨b, 8, none⟩ = some (.int .i64 t0) := (h3.at 7).trans rfl
  have hf := h3.fr 8
  have HE : Hid (RdX (w3.setCell ⟨b, 8, none⟩ (.int .i64 n)) b (cutB s nlE) (a1 :: a2 :: a3 :: a4 :: a5 :: a6 :: a7 :: .int .i64 n :: tl) 68 ∧ w.grownBy (w3.setCell ⟨b, 8, none⟩ (.int .i64 n)) (some b)) := ⟨h3.set 7 _, grown_then (grown_then G2.out (grown_below bw _)) (grown_set _ _ _ _)⟩
  clear h3 H2 bw G2 hn1 hn2 hn3
  go_wp2_with fail
  exact bodyPost_end (v := .tuple #[]) (by simp [results, Tryz.results95, go_sem]) rfl ⟨rfl, n, HNB.out, HNV.out, HE.out⟩

end Go.Proofs.YtdlhicdfldecgaaGreatDoor

namespace Go.Proofs.YtdlhicdfldecgaaGreatDoor
open Go.RowKit
open Go.Lib hiding intOf

/-- Cells of which the first hold these texts. -/
def vcells (ys : List ByteArray) (old : List Value) : List Value := ys.map Value.string ++ old.drop ys.length
theorem vcells_get {ys : List ByteArray} {old : List Value} (h : ys.length < old.length) : ∃ v, (vcells ys old)[ys.length]? = some v := by
  refine ⟨old[ys.length]'h, ?_⟩
  unfold vcells
  rw [List.getElem?_append_right (by simp), List.length_map, Nat.sub_self, List.getElem?_drop, Nat.add_zero, List.getElem?_eq_getElem h]
theorem vcells_set {ys : List ByteArray} {old : List Value} (h : ys.length < old.length) (y : ByteArray) : (vcells ys old).set ys.length (.string y) = vcells (ys ++ [y]) old := by
  unfold vcells
  rw [List.set_append_right _ _ (by simp), List.length_map, Nat.sub_self, List.drop_eq_getElem_cons h, List.set_cons_zero, List.map_append, List.length_append]
  simp
theorem grown_low {w W W2 w' : World} {b : Nat} (h1 : w.grownBy W (some b)) (h2 : W.grownBy W2 (some b)) (h3 : Below W.heap.size W2 w') : w.grownBy w' (some b) :=
  have h := grown_then h1 h2
  ⟨h3.os.trans h.os, h3.tape.trans h.tape, h3.output.trans h.output, Nat.le_trans h.size h3.size, fun i hi hne => (h3.block i (Nat.lt_of_lt_of_le hi h1.size)).trans (h.block i hi hne)⟩
theorem made_row {w0 w' : World} {g k : Nat} {ys : List ByteArray} {cs : Array Value} (hlen : ys.length = k) (hg : w0.heap.size ≤ g) (hk : k ≤ 4) (hcs : cs.toList = ys.map Value.string) (h : w'.heap[g]? = some (.cells cs 9)) : TextRow w0.heap.size w' g k k ys := by
  have hz : cs.size = k := by rw [← Array.length_toList, hcs, List.length_map, hlen]
  refine ⟨hlen, hg, (Array.getElem?_eq_some_iff.1 h).1, Nat.le_refl _, by unfold maxLen; omega, cs, h, hz, fun i hi => ?_⟩
  rw [← Array.getElem?_toList, hcs, List.getElem?_map, List.getElem?_eq_getElem (by omega)]
  simp [textAt, List.getD_eq_getElem?_getD, List.getElem?_eq_getElem (show i < ys.length by omega)]

set_option maxHeartbeats 4000000 in
set_option maxRecDepth 100000 in
theorem readValues_any (b : Nat) (x : ByteArray) (a1 a2 a4 a5 a6 a7 : Value) (n : Int) (k : Nat) (hk : min n 4 = (k : Int)) (hn : 0 ≤ n ∧ n ≤ 1000000) (v0 v1 v2 v3 : ByteArray) (w : World) (h : RdX w b x [a1, a2, .slice none 0 0, a4, a5, a6, a7, .int .i64 n, .string v0, .string v1, .string v2, .string v3] 68) (hl : x.size ≤ 4000000) (hm : LenOk w) :
    Calls Tryz.prog 96 #[.pointer (some ⟨b, 0, none⟩)] w fun e w' => e = .returned (.tuple #[]) ∧ ∃ v vs, RdX w' b (lnTo x k).2 (a1 :: a2 :: v :: a4 :: a5 :: a6 :: a7 :: .int .i64 n :: vs) 68 ∧ w'.ownsRow w.heap.size 9 1 v k ((lnTo x k).1.map Value.string) ∧ w.grownBy w' (some b) := by
  obtain ⟨i0, hi, hz0, hz1, hz2⟩ := info_parts info9
  have HK4 : Hid (k ≤ 4) := by show _ ≤ _; omega
  have hsl : ∀ W : World, (Instr.sliceAt 66 (.pointer (some ⟨b, 9, none⟩)) none (some (.int .i64 (k : Int))) none).run Tryz.prog W = .ok (.slice (some ⟨b, 9, none⟩) k 4) W := fun W => by
    have e1 : Tryz.prog.arrayLen 66 = 4 := by kernel_rfl
    have e2 : Tryz.prog.elem 66 = 9 := by kernel_rfl
    have h := run_sliceAt_array_h (P := Tryz.prog) W 66 ⟨b, 9, none⟩ (by kernel_rfl) .i64 (k : Int) (by omega) (by rw [e1]; omega)
    rw [e1, e2] at h
    rw [h]
    simp [slicedAt, go_sem, Tryz.sizeOf9, Addr.add]
  obtain ⟨M, hM⟩ : ∃ M, M = madeCells (Value.string ⟨#[]⟩).cells (((k : Nat) : Int).toNat * i0.size) := ⟨_, rfl⟩
  have hmk : ∀ W : World, (Instr.makeSlice 24 (.int .i64 (k : Int)) (.int .i64 (k : Int))).run Tryz.prog W = .ok (.slice (some ⟨W.heap.size, 0, none⟩) k k) (W.alloc (.cells M 9)) := fun W => by
    have h := run_make (P := Tryz.prog) W 24 9 i0 (.string ⟨#[]⟩) Tryz.underlying24 hi hz0 .i64 .i64 (k : Int) (k : Int) (by omega) (by omega) (by rw [hz2]; omega) (by omega)
    rw [← hM] at h
    simpa using h
  have HMl : Hid (M = (List.replicate k (Value.string ⟨#[]⟩)).toArray) := by
    show _ = _
    apply Array.toList_inj.1
    rw [hM, hz1, show ((k : Nat) : Int).toNat * 1 = k by omega]
    exact toList_madeCells_one (.string ⟨#[]⟩) k
  clear hM hz0 hz1 hz2 hi
  have hc8 : w.cell? ⟨b, 8, none⟩ = some (.int .i64 n) := (h.at 7).trans rfl
  have H0 : Hid (RdX w b x ([a1, a2, .slice none 0 0, a4, a5, a6, a7, .int .i64 n] ++ vcells [] [.string v0, .string v1, .string v2, .string v3]) 68) := h
  have HNE : Hid (1 ≠ b) := h.notLen hm
  have HM : Hid (LenOk w) := hm
  have HSZ : Hid (∀ j, (lnTo x j).2.size ≤ 4000000) := fun j => Nat.le_trans (lnTo_size x j).2.1 hl
  have HLN : Hid (∀ j, (lnTo x j).1.length = j) := fun j => (lnTo_size x j).1
  clear h hm
  go_enter Tryz.func96, Tryz.ntmps96
  go_wp2_with fail
  go_region_held3 (fun W => W.cell? ⟨b, 8, none⟩ = some (.int .i64 n)) (first | assumption | go_keep) (fail)
  clear hc8
  have H1 : Hid (RdX w.drew b x ([a1, a2, .slice none 0 0, a4, a5, a6, a7, .int .i64 n] ++ vcells [] [.string v0, .string v1, .string v2, .string v3]) 68 ∧ w.grownBy w.drew (some b)) := ⟨H0.out, ⟨rfl, rfl, rfl, Nat.le_refl _, fun _ _ _ => rfl⟩⟩
  go_wp2_with fail
  go_loopw [15] (fun i wr => ∃ j : Nat, j ≤ k ∧ i = .int .i64 (j : Int) ∧ Hid (RdX wr b (lnTo x j).2 ([a1, a2, .slice none 0 0, a4, a5, a6, a7, .int .i64 n] ++ vcells (lnTo x j).1 [.string v0, .string v1, .string v2, .string v3]) 68 ∧ w.grownBy wr (some b))) (fun i _ => k - (intOf i).toNat)
  case atStart => exact ⟨0, Nat.zero_le _, rfl, H1⟩
  case round =>
    obtain ⟨j, hj, rfl, HW⟩ := hrel
    by_cases hlt : (j : Int) < (k : Int)
    · have hm1 : LenOk wr := HM.out.grown HW.out.2 HNE.out
      go_wp2_with fail
      refine (upToX_any b _ nlE _ _ _ HW.out.1 (HSZ.out j) hm1).mono ?_
      rintro e w2 ⟨rfl, h2, g2⟩
      obtain ⟨y, hy⟩ : ∃ y, y = cutA (lnTo x j).2 nlE := ⟨_, rfl⟩
      have hys : y.size ≤ 4000000 := by rw [hy]; exact Nat.le_trans (cutA_size _ _) (HSZ.out j)
      have HYE : Hid (lnTo x (j + 1) = ((lnTo x j).1 ++ [y], cutB (lnTo x j).2 nlE)) := by show _ = _; rw [lnTo, hy]
      have H2 : Hid (RdX w2 b (cutB (lnTo x j).2 nlE) ([a1, a2, .slice none 0 0, a4, a5, a6, a7, .int .i64 n] ++ vcells (lnTo x j).1 [.string v0, .string v1, .string v2, .string v3]) 68 ∧ w.grownBy w2 (some b)) := ⟨h2, grown_then HW.out.2 g2⟩
      rw [← hy]
      clear hy h2 g2 hm1 HW
      go_wp2_with fail
      refine (clone_any y _ (by omega)).mono ?_
      rintro e w3 ⟨rfl, bw⟩
      have h3 := H2.out.1.below bw
      have hl4 : (lnTo x j).1.length < [Value.string v0, Value.string v1, Value.string v2, Value.string v3].length := by
        rw [HLN.out]; have := HK4.out; simp; omega
      obtain ⟨ov, hov⟩ : ∃ ov, ([a1, a2, .slice none 0 0, a4, a5, a6, a7, .int .i64 n] ++ vcells (lnTo x j).1 [.string v0, .string v1, .string v2, .string v3])[8 + j]? = some ov := by
        obtain ⟨v, e⟩ := vcells_get hl4
        rw [HLN.out j] at e
        exact ⟨_, by rw [List.getElem?_append_right (by simp), show 8 + j - [a1, a2, .slice none 0 0, a4, a5, a6, a7, .int .i64 n].length = j by simp]; exact e⟩
      have hc : w3.cell? ⟨b, 9 + j, none⟩ = some ov := by
        rw [show 9 + j = 8 + j + 1 by omega, h3.at (8 + j)]; exact hov
      have hf := h3.fr (9 + j)
      have HE : Hid (RdX (w3.setCell ⟨b, 9 + j, none⟩ (.string y)) b (lnTo x (j + 1)).2 ([a1, a2, .slice none 0 0, a4, a5, a6, a7, .int .i64 n] ++ vcells (lnTo x (j + 1)).1 [.string v0, .string v1, .string v2, .string v3]) 68 ∧ w.grownBy (w3.setCell ⟨b, 9 + j, none⟩ (.string y)) (some b)) := by
        refine ⟨?_, grown_then (grown_then H2.out.2 (grown_below bw _)) (grown_set _ _ _ _)⟩
        have h4 := h3.set (8 + j) (.string y)
        rw [List.set_append_right _ _ (by simp), show 8 + j - [a1, a2, .slice none 0 0, a4, a5, a6, a7, .int .i64 n].length = (lnTo x j).1.length by rw [HLN.out]; simp, vcells_set hl4, show 8 + j + 1 = 9 + j by omega] at h4
        rw [HYE.out]
        exact h4
      clear h3 H2 bw hov hl4
      go_wp2_with fail
      go_roundw
      case rel => exact ⟨j + 1, by omega, by go_num, HE⟩
      case measure => simp [intOf]; omega
    · obtain rfl : j = k := by omega
      obtain ⟨V, hV⟩ : ∃ V, V = vcells (lnTo x j).1 [.string v0, .string v1, .string v2, .string v3] := ⟨_, rfl⟩
      have h1 := HW.out.1
      rw [← hV] at h1
      have hc := (show wr.cell? ⟨b, 3, none⟩ = some (.slice none 0 0) from (h1.at 2).trans rfl)
      have hf := h1.fr 3
      obtain ⟨g, hg⟩ : ∃ g, g = wr.heap.size := ⟨_, rfl⟩
      obtain ⟨W2, hW2⟩ : ∃ W2, W2 = (wr.alloc (.cells M 9)).setCell ⟨b, 3, none⟩ (.slice (some ⟨g, 0, none⟩) j j) := ⟨_, rfl⟩
      have hblt : b < wr.heap.size := h1.lt
      have hgb : g ≠ b := by omega
      have hbA : Below wr.heap.size wr (wr.alloc (.cells M 9)) := (Below.refl _ _).alloc (Nat.le_refl _) _
      have hc2 : (wr.alloc (.cells M 9)).cell? ⟨b, 3, none⟩ = some (.slice none 0 0) := ((h1.below hbA).at 2).trans rfl
      have hf2 := (h1.below hbA).fr 3
      have H2 : Hid (RdX W2 b (lnTo x j).2 (a1 :: a2 :: .slice (some ⟨g, 0, none⟩) j j :: a4 :: a5 :: a6 :: a7 :: .int .i64 n :: V) 68) := by
        show RdX _ _ _ _ _
        rw [hW2]
        exact (h1.below hbA).set 2 _
      have HG2 : Hid (wr.grownBy W2 (some b)) := by
        show wr.grownBy _ _
        rw [hW2]
        exact grown_then (grown_below hbA _) (grown_set _ _ _ _)
      have HH2 : Hid (W2.heap[g]? = some (.cells (List.replicate j (Value.string ⟨#[]⟩)).toArray 9)) := by
        show _ = _
        rw [hW2, heap_setCell_other _ _ _ _ hgb, hg, ← HMl.out]
        exact heap_alloc_new _ _
      have HVC : Hid (∀ i v, ((lnTo x j).1.map Value.string)[i]? = some v → W2.cell? ((⟨b, 9, none⟩ : Addr).add i) = some v) := by
        intro i v hv
        have hi := (List.getElem?_eq_some_iff.1 hv).1
        have h := H2.out.at (8 + i)
        rw [show (⟨b, 9, none⟩ : Addr).add i = ⟨b, 9 + i, none⟩ by simp [Addr.add]]
        rw [show 9 + i = 8 + i + 1 by omega, h, show 8 + i = i + 8 by omega]
        show V[i]? = _
        rw [hV]
        unfold vcells
        rw [List.getElem?_append_left hi]
        exact hv
      have HGS : Hid (g = wr.heap.size) := hg
      have HLJ : Hid ((lnTo x j).1.length = j) := HLN.out j
      have hcW : W2.cell? ⟨b, 3, none⟩ = some (.slice (some ⟨g, 0, none⟩) j j) := (H2.out.at 2).trans rfl
      have HWE : Hid ((wr.alloc (.cells M 9)).setCell ⟨b, 3, none⟩ (.slice (some ⟨g, 0, none⟩) j j) = W2) := hW2.symm
      clear h1 hbA hW2 hV hblt hgb
      go_upto_region 7 with fail
      rw [← hg, HWE.out]
      clear hc hf hc2 hf2 hg HWE hmk
      obtain ⟨cs, hcs⟩ : ∃ cs, cs = (lnTo x j).1.map Value.string := ⟨_, rfl⟩
      have hinf : (Tryz.prog.info? 9).map (·.size) = some 1 := by kernel_rfl
      have HCL : Hid (cs.length = Nat.min j j) := by show _ = _; rw [hcs, List.length_map, HLJ.out]; exact (Nat.min_self j).symm
      have HSRC : Hid (∀ i v, cs[i]? = some v → W2.cell? ((⟨b, 9, none⟩ : Addr).add i) = some v) := by rw [hcs]; exact HVC
      have HFIT : Hid (0 + cs.length ≤ (List.replicate j (Value.string ⟨#[]⟩)).toArray.size) := by show _ ≤ _; rw [hcs]; simp [HLJ.out]
      have HONE : Hid (∀ v ∈ cs, v.oneCell' = true) := fun v hv => by
        rw [hcs] at hv
        obtain ⟨y, _, rfl⟩ := List.mem_map.1 hv
        rfl
      have hcp := run_copy_row (P := Tryz.prog) W2 24 24 3 9 g 0 j j ⟨b, 9, none⟩ j 4 _ 9 cs Tryz.underlying24 hinf HH2.out HCL.out HSRC.out HFIT.out HONE.out
      obtain ⟨C, hC⟩ : ∃ C, C = ((List.replicate j (Value.string ⟨#[]⟩)).toArray.toList.take 0 ++ cs ++ (List.replicate j (Value.string ⟨#[]⟩)).toArray.toList.drop (0 + cs.length)).toArray := ⟨_, rfl⟩
      rw [← hC] at hcp
      have HSP : Hid (C.toList = (lnTo x j).1.map Value.string) := by
        show _ = _
        rw [hC, hcs]
        simp [HLJ.out]
      have hb8 : Below wr.heap.size W2 (W2.setRow g C) := by rw [← HGS.out]; exact below_setRow (Below.refl _ _) (Nat.le_refl _) C
      have HRD : Hid (RdX (W2.setRow g C) b (lnTo x j).2 (a1 :: a2 :: .slice (some ⟨g, 0, none⟩) j j :: a4 :: a5 :: a6 :: a7 :: .int .i64 n :: V) 68) := (hb8.block b HW.out.1.lt).trans H2.out
      have HHC : Hid ((W2.setRow g C).heap[g]? = some (.cells C 9)) := setRow_heap _ _ _ _ _ _ HH2.out
      have HR : Hid ((W2.setRow g C).ownsRow w.heap.size 9 1 (.slice (some ⟨g, 0, none⟩) j j) j ((lnTo x j).1.map Value.string)) := (made_row (w0 := w) HLJ.out (by rw [HGS.out]; exact HW.out.2.size) HK4.out HSP.out HHC.out).owns
      have HGL : Hid (w.grownBy (W2.setRow g C) (some b)) := grown_low HW.out.2 HG2.out hb8
      clear hcs HVC hC hb8 hinf
      go_wp2_with fail
      exact bodyPost_end (v := .tuple #[]) (by simp [results, Tryz.results96, go_sem]) rfl ⟨rfl, _, ⟨_, HRD.out⟩, HR.out, HGL.out⟩

theorem flds_sizes {fs : List (ByteArray × ByteArray)} (h : FldsOk fs) : fs.length ≤ 8 ∧ (∀ i, i < fs.length → (nameAt fs i).size ≤ 60 ∧ (valAt fs i).size ≤ 60) := by
  refine ⟨h.1, fun i hi => ?_⟩
  obtain ⟨h1, h2, _⟩ := h.2 i hi
  exact ⟨Nat.le_trans h1.2.1 (by decide), h2.2.1⟩

theorem getV_small {fs : List (ByteArray × ByteArray)} (h : FldsOk fs) (x : ByteArray) : (getV fs x).size ≤ 1048576 := by
  unfold getV
  split
  · rename_i hin
    exact Nat.le_trans ((flds_sizes h).2 _ hin).2 (by decide)
  · decide
theorem copyF_small {fs : List (ByteArray × ByteArray)} (h : FldsOk fs) : CopyF fs := fun i hi => by
  have := (flds_sizes h).2 i hi
  omega
theorem walkF_small {fs : List (ByteArray × ByteArray)} (h : FldsOk fs) : WalkF fs.length fs := fun i hi => by
  have := (flds_sizes h).2 i hi
  unfold maxLen
  omega
theorem fldsOk_nil : FldsOk [] := ⟨by decide, fun i hi => absurd hi (by simp)⟩

/-- What RespRead tells, whichever it is: an answer of right fields, the text's own where it is one's. -/
theorem resp_out {x : ByteArray} {w w1 : World} {e : Ending} (hr : RespIs x w e w1) : ∃ (st : Int) (fs : List (ByteArray × ByteArray)) (bd : ByteArray) (vF : Value) (t : Bool), e = .returned (.tuple #[.agg #[.int .i64 st, vF, .string bd], .bool t]) ∧ (FldsOk fs ∧ bd.size ≤ 120) ∧ (∀ st' fs' b', IsResp x st' fs' b' → st = st' ∧ fs = fs' ∧ bd = b') ∧ w1.ownsRow w.heap.size 131 2 vF fs.length (flatF fs) ∧ Below w.heap.size w w1 := by
  rcases hr with ⟨m, fs, bd, v, h1, h2, h3, h4⟩ | ⟨h1, h2, h3⟩
  · exact ⟨m, fs, bd, v, true, h1, ⟨h2.1.2.1, h2.1.2.2⟩, fun _ _ _ h => h2.uniq h, h3, h4⟩
  · exact ⟨0, [], ⟨#[]⟩, .slice none 0 0, false, h1, ⟨fldsOk_nil, by decide⟩, fun _ _ _ h => absurd h (h2 _ _ _), World.ownsRow_nil _ _ _ _, h3⟩

set_option maxHeartbeats 4000000 in
set_option maxRecDepth 100000 in
/-- Behind RespRead: what it told is stored, and the names that the answer hangs on. -/
theorem readAnswer_any (b : Nat) (x : ByteArray) (a1 a3 a7 a8 : Value) (st0 : Int) (bd0 : ByteArray) (vs : List Value) (w : World) (h : RdX w b x (a1 :: .slice none 0 0 :: a3 :: .int .i64 st0 :: .slice none 0 0 :: .string bd0 :: a7 :: a8 :: vs) 68) (hl : x.size ≤ 3000000) (hm : LenOk w) (htab : TabOk w) :
    Calls Tryz.prog 97 #[.pointer (some ⟨b, 0, none⟩)] w fun e w' => e = .returned (.tuple #[]) ∧ ∃ (st : Int) (fs : List (ByteArray × ByteArray)) (bd : ByteArray) (vF vN : Value), RdX w' b x (a1 :: vN :: a3 :: .int .i64 st :: vF :: .string bd :: a7 :: a8 :: vs) 68 ∧ w'.ownsRow w.heap.size 131 2 vF fs.length (flatF fs) ∧ w'.ownsRow w.heap.size 9 1 vN (varyP fs).length ((varyP fs).map Value.string) ∧ (FldsOk fs ∧ bd.size ≤ 120) ∧ (∀ st' fs' b', IsResp x st' fs' b' → st = st' ∧ fs = fs' ∧ bd = b') ∧ w.grownBy w' (some b) := by
  have hc0 := h.cell
  have H : Hid (RdX w b x (a1 :: .slice none 0 0 :: a3 :: .int .i64 st0 :: .slice none 0 0 :: .string bd0 :: a7 :: a8 :: vs) 68) := h
  clear h
  go_enter Tryz.func97, Tryz.ntmps97
  go_wp2_with fail
  refine (implRespRead_any x _ hl htab hm).mono ?_
  intro e w1 hr
  obtain ⟨st, fs, bd, vF, t, he, hok, hun, hown, bw⟩ : ∃ (st : Int) (fs : List (ByteArray × ByteArray)) (bd : ByteArray) (vF : Value) (t : Bool), e = .returned (.tuple #[.agg #[.int .i64 st, vF, .string bd], .bool t]) ∧ (FldsOk fs ∧ bd.size ≤ 120) ∧ (∀ st' fs' b', IsResp x st' fs' b' → st = st' ∧ fs = fs' ∧ bd = b') ∧ w1.ownsRow w.heap.size 131 2 vF fs.length (flatF fs) ∧ Below w.heap.size w w1 := by
    rcases hr with ⟨m, fs, bd, v, h1, h2, h3, h4⟩ | ⟨h1, h2, h3⟩
    · exact ⟨m, fs, bd, v, true, h1, ⟨h2.1.2.1, h2.1.2.2⟩, fun _ _ _ h => h2.uniq h, h3, h4⟩
    · exact ⟨0, [], ⟨#[]⟩, .slice none 0 0, false, h1, ⟨fldsOk_nil, by decide⟩, fun _ _ _ h => absurd h (h2 _ _ _), World.ownsRow_nil _ _ _ _, h3⟩
  subst he
  clear hr
  have HOK : Hid (FldsOk fs ∧ bd.size ≤ 120) := hok
  have HUN : Hid (∀ st' fs' b', IsResp x st' fs' b' → st = st' ∧ fs = fs' ∧ bd = b') := hun
  obtain ⟨oF, cF, rfl⟩ := slice_of_owns hown
  have h1 := H.out.below bw
  have c4 : w1.cell? ⟨b, 4, none⟩ = some (.int .i64 st0) := (h1.at 3).trans rfl
  have c5 : w1.cell? ⟨b, 5, none⟩ = some (.slice none 0 0) := (h1.at 4).trans rfl
  have c6 : w1.cell? ⟨b, 6, none⟩ = some (.string bd0) := (h1.at 5).trans rfl
  have f4 := h1.fr 4
  have f5 := h1.fr 5
  have f6 := h1.fr 6
  obtain ⟨W2, hW2⟩ : ∃ W, W = ((w1.setCell ⟨b, 4, none⟩ (.int .i64 st)).setCell ⟨b, 5, none⟩ (.slice oF fs.length cF)).setCell ⟨b, 6, none⟩ (.string bd) := ⟨_, rfl⟩
  have H2 : Hid (RdX W2 b x (a1 :: .slice none 0 0 :: a3 :: .int .i64 st :: .slice oF fs.length cF :: .string bd :: a7 :: a8 :: vs) 68) := by
    show RdX _ _ _ _ _
    rw [hW2]
    exact ((h1.set 3 _).set 4 _).set 5 _
  have HG2 : Hid (w.grownBy W2 (some b)) := by
    show w.grownBy _ _
    rw [hW2]
    exact grown_then (grown_then (grown_then (grown_below bw _) (grown_set _ _ _ _)) (grown_set _ _ _ _)) (grown_set _ _ _ _)
  have HO2 : Hid (W2.ownsRow w.heap.size 131 2 (.slice oF fs.length cF) fs.length (flatF fs)) := by
    show World.ownsRow _ _ _ _ _ _ _
    rw [hW2]
    refine owns_same hown (fun g hg => ?_)
    have hne := own_ne hown h1 (by decide) g hg
    rw [heap_setCell_other _ _ g _ hne, heap_setCell_other _ _ g _ hne, heap_setCell_other _ _ g _ hne]
  have HWE : Hid (((w1.setCell ⟨b, 4, none⟩ (.int .i64 st)).setCell ⟨b, 5, none⟩ (.slice oF fs.length cF)).setCell ⟨b, 6, none⟩ (.string bd) = W2) := hW2.symm
  have c5b : W2.cell? ⟨b, 5, none⟩ = some (.slice oF fs.length cF) := (H2.out.at 4).trans rfl
  clear hW2 h1 hown hok hun hc0 bw hm htab H
  go_upto_region 1 with fail
  rw [HWE.out]
  clear c4 c5 c6 f4 f5 f6 HWE
  go_wp2_with fail
  refine (implVaryOf_any _ fs.length w.heap.size fs _ (FieldsV.of_owns HO2.out) (by have := (flds_sizes HOK.out.1).1; omega) (copyF_small HOK.out.1) (getV_small HOK.out.1 _)).mono ?_
  rintro e w3 ⟨vN, rfl, hn3, bw⟩
  have h3 := H2.out.below bw
  have c2 : w3.cell? ⟨b, 2, none⟩ = some (.slice none 0 0) := (h3.at 1).trans rfl
  have f2 := h3.fr 2
  obtain ⟨oN, cN, rfl⟩ := slice_of_owns hn3
  have HE : Hid (RdX (w3.setCell ⟨b, 2, none⟩ (.slice oN (varyP fs).length cN)) b x (a1 :: .slice oN (varyP fs).length cN :: a3 :: .int .i64 st :: .slice oF fs.length cF :: .string bd :: a7 :: a8 :: vs) 68) := h3.set 1 _
  have HG3 : Hid (w.grownBy (w3.setCell ⟨b, 2, none⟩ (.slice oN (varyP fs).length cN)) (some b)) := grown_then (grown_then HG2.out (grown_below bw _)) (grown_set _ _ _ _)
  have HOF : Hid ((w3.setCell ⟨b, 2, none⟩ (.slice oN (varyP fs).length cN)).ownsRow w.heap.size 131 2 (.slice oF fs.length cF) fs.length (flatF fs)) := by
    have ho := owns_below HO2.out bw (fun g hg => owns_lt HO2.out hg)
    exact owns_same ho (fun g hg => heap_setCell_other _ _ g _ (own_ne ho h3 (by decide) g hg))
  have HON : Hid ((w3.setCell ⟨b, 2, none⟩ (.slice oN (varyP fs).length cN)).ownsRow w.heap.size 9 1 (.slice oN (varyP fs).length cN) (varyP fs).length ((varyP fs).map Value.string)) :=
    owns_wide (owns_same hn3 (fun g hg => heap_setCell_other _ _ g _ (own_ne hn3 h3 (by decide) g hg))) HG2.out.size
  clear h3 hn3 bw c5b
  go_wp2_with fail
  exact bodyPost_end (v := .tuple #[]) (by simp [results, Tryz.results97, go_sem]) rfl ⟨rfl, _, _, _, _, _, HE.out, HOF.out, HON.out, HOK.out, HUN.out, HG3.out⟩

/-- The table of the steps, in a new list. -/
def StepsAt (w : World) (g : Nat) : Prop := w.cell? ⟨g, 0, none⟩ = some (.func (.func 93) #[] #[]) ∧ w.cell? ⟨g, 1, none⟩ = some (.func (.func 94) #[] #[]) ∧ w.cell? ⟨g, 2, none⟩ = some (.func (.func 95) #[] #[]) ∧ w.cell? ⟨g, 3, none⟩ = some (.func (.func 96) #[] #[]) ∧ w.cell? ⟨g, 4, none⟩ = some (.func (.func 97) #[] #[])
set_option maxHeartbeats 400000 in
theorem objectSteps_any (w : World) :
    Calls Tryz.prog 39 #[] w fun e w' => ∃ g, e = .returned (.slice (some ⟨g, 0, none⟩) 5 5) ∧ StepsAt w' g ∧ w.heap.size ≤ g ∧ g < w'.heap.size ∧ Below w.heap.size w w' := by
  go_enter Tryz.func39, Tryz.ntmps39
  go_wp2
  go_ret
  refine ⟨_, rfl, ?_, Nat.le_refl _, by simp, (Below.refl _ _).alloc (Nat.le_refl _) _⟩
  refine ⟨?_, ?_, ?_, ?_, ?_⟩ <;> exact (cell_of (heap_alloc_new w _) _).trans rfl

end Go.Proofs.YtdlhicdfldecgaaGreatDoor

namespace Go.Proofs.YtdlhicdfldecgaaGreatDoor
open Go.RowKit
open Go.Lib hiding intOf

theorem pair_at (fs : List (ByteArray × ByteArray)) (k : Nat) (h : k < fs.length) : (nameAt fs k, valAt fs k) = fs[k] := by
  unfold nameAt valAt
  rw [List.getD_eq_getElem?_getD, List.getElem?_eq_getElem h]
  rfl
theorem dropTo_none (fs : List (ByteArray × ByteArray)) : ∀ k, k ≤ fs.length → dropTo fs (-1) k = fs.take k := by
  intro k
  induction k with
  | zero => intro _; rfl
  | succ k ih =>
    intro hk
    rw [dropTo, if_neg (by omega), ih (by omega), pair_at fs k (by omega), List.take_append_getElem (by omega)]
theorem dropTo_at (fs : List (ByteArray × ByteArray)) (a : Nat) : ∀ k, k ≤ fs.length → dropTo fs (a : Int) k = (if a < k then (fs.take k).eraseIdx a else fs.take k) := by
  intro k
  induction k with
  | zero => intro _; rfl
  | succ k ih =>
    intro hk
    have ht : fs.take (k + 1) = fs.take k ++ [fs[k]] := (List.take_append_getElem (by omega)).symm
    have hl : (fs.take k).length = k := by rw [List.length_take]; omega
    rw [dropTo, ih (by omega), pair_at fs k (by omega), ht]
    by_cases e : k = a
    · subst e
      rw [if_pos rfl, if_neg (by omega), if_pos (by omega), List.eraseIdx_append_of_length_le (by omega), hl, Nat.sub_self]
      simp
    · rw [if_neg (by omega)]
      by_cases c : a < k
      · rw [if_pos c, if_pos (by omega), List.eraseIdx_append_of_lt_length (by omega)]
      · rw [if_neg c, if_neg (by omega)]
theorem dropF_eq (fs : List (ByteArray × ByteArray)) (name : ByteArray) : dropF fs name = (if atF fs name < fs.length then fs.eraseIdx (atF fs name) else fs) := by
  unfold dropF atI
  by_cases h : atF fs name < fs.length
  · rw [if_pos h, if_pos h, dropTo_at fs _ _ (Nat.le_refl _), if_pos h, List.take_length]
  · rw [if_neg h, if_neg h, dropTo_none fs _ (Nat.le_refl _), List.take_length]
theorem putF_eq (fs : List (ByteArray × ByteArray)) (name value : ByteArray) (h : atF fs name < fs.length) : putF fs name value = fs.set (atF fs name) (name, value) := by
  unfold putF
  rw [if_pos h, atF_here fs name h]

end Go.Proofs.YtdlhicdfldecgaaGreatDoor

namespace Go.Proofs.YtdlhicdfldecgaaGreatDoor
open Go.RowKit
open Go.Lib hiding intOf

theorem ShortF.name {fs : List (ByteArray × ByteArray)} (h : ShortF fs) (i : Nat) (hi : i < fs.length) : (nameAt fs i).size ≤ 64 ∧ (valAt fs i).size ≤ 64 := by
  have := h (nameAt fs i, valAt fs i) (by rw [pair_at fs i hi]; exact List.getElem_mem hi)
  exact this
theorem ShortF.put {fs : List (ByteArray × ByteArray)} (h : ShortF fs) {name value : ByteArray} (h1 : name.size ≤ 64) (h2 : value.size ≤ 64) : ShortF (putF fs name value) := by
  by_cases hin : atF fs name < fs.length
  · rw [putF_eq fs name value hin]
    intro f hf
    rcases List.mem_or_eq_of_mem_set hf with hf | hf
    · exact h f hf
    · subst hf; exact ⟨h1, h2⟩
  · have hp : putF fs name value = fs ++ [(name, value)] := by unfold putF; rw [if_neg hin]
    rw [hp]; exact h.snoc h1 h2
theorem ShortF.drop {fs : List (ByteArray × ByteArray)} (h : ShortF fs) (name : ByteArray) : ShortF (dropF fs name) := by
  rw [dropF_eq]
  split
  · intro f hf; exact h f (List.mem_of_mem_eraseIdx hf)
  · exact h
theorem ShortF.copy {fs : List (ByteArray × ByteArray)} (h : ShortF fs) : CopyF fs := fun i hi => by
  have := h.name i hi
  omega
theorem put_len (fs : List (ByteArray × ByteArray)) (name value : ByteArray) : (putF fs name value).length ≤ fs.length + 1 := by
  unfold putF
  split
  · rw [List.length_set]; omega
  · rw [List.length_append]; simp
theorem drop_len (fs : List (ByteArray × ByteArray)) (name : ByteArray) : (dropF fs name).length ≤ fs.length := by
  rw [dropF_eq]
  split
  · rw [List.length_eraseIdx]; split <;> omega
  · exact Nat.le_refl _

end Go.Proofs.YtdlhicdfldecgaaGreatDoor

namespace Go.Proofs.YtdlhicdfldecgaaGreatDoor
open Go.RowKit
open Go.Lib hiding intOf

theorem shortWalk {fs : List (ByteArray × ByteArray)} (h : ShortF fs) : WalkF fs.length fs := fun i hi => by
  have := h.name i hi
  unfold maxLen
  omega
theorem short_get2 {fs : List (ByteArray × ByteArray)} (h : ShortF fs) (x : ByteArray) : (getV fs x).size ≤ 64 := by
  unfold getV
  split
  · rename_i hin; exact (h.name _ hin).2
  · decide

end Go.Proofs.YtdlhicdfldecgaaGreatDoor

namespace Go.Proofs.YtdlhicdfldecgaaGreatDoor
open Go.RowKit
open Go.Lib hiding intOf

set_option maxHeartbeats 1000000 in
theorem l1Below_all (c B : Nat) (m : Int) (a : Option Addr) (len cap : Nat) (zs : List Int) (w : World) (hcur : CurAt w c a len cap) (hcode : CodeAt w B a len zs) (hB : B ≤ c) (hm : 1 ≤ m) (hm2 : m ≤ 65536) :
    Calls Tryz.prog 44 #[.pointer (some ⟨c, 0, none⟩), .int .i64 m] w fun e w' => DrawIs m w c a len cap e w' := by
  by_cases h256 : m ≤ 256
  · exact l1Below_any c B m a len cap zs w hcur hcode hB hm h256
  · have hm0 : ¬ m ≤ 0 := by omega
    go_enter Tryz.func44, Tryz.ntmps44
    go_wp2_with fail
    refine (l1Byte_any c B a len cap zs _ hcur hcode hB).mono ?_
    rintro e w1 ⟨x, rfl, hx0, hx1, hcur1, hg1⟩
    have hco1 := hcode.grown hg1 hB
    go_wp2_with fail
    refine (l1Byte_any c B a len cap zs _ hcur1 hco1 hB).mono ?_
    rintro e w2 ⟨y, rfl, hy0, hy1, hcur2, hg2⟩
    have hg3 := grownBy_trans hg1 hg2
    have hco2 := hcode.grown hg3 hB
    go_wp2_with fail
    refine (l1Byte_any c B a len cap zs _ hcur2 hco2 hB).mono ?_
    rintro e w3 ⟨z, rfl, hz0, hz1, hcur3, hg4⟩
    have hg5 := grownBy_trans hg3 hg4
    have hco3 := hcode.grown hg5 hB
    go_wp2_with fail
    refine (l1Byte_any c B a len cap zs _ hcur3 hco3 hB).mono ?_
    rintro e w4 ⟨u, rfl, hu0, hu1, hcur4, hg6⟩
    have hg7 := grownBy_trans hg5 hg6
    clear hcur hcode hcur1 hco1 hg1 hg2 hg3 hco2 hcur2 hcur3 hg4 hg5 hco3 hg6
    go_wp2_with fail
    go_ret
    exact ⟨_, rfl, Int.emod_nonneg _ (by omega), Int.emod_lt_of_pos _ (by omega), hcur4, hg7⟩

end Go.Proofs.YtdlhicdfldecgaaGreatDoor
