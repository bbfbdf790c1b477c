/- What the proof of FnAnswered leans on: contracts of the program's and the specification's functions, and plain facts (part 3 of 9). -/
import Derived.Test.YtmcmeeibogkpaaaGreatDoorRFnAnsweredB
set_option maxHeartbeats 16000000
set_option maxRecDepth 100000
namespace Go.Proofs.YtmcmeeibogkpaaaGreatDoorR
open Go.RowKit
open Go.Lib hiding intOf
theorem maW_list : maW.toList = [109, 97, 120, 45, 97, 103, 101, 61] := by rw [ByteArray.toList_eq]; rfl
theorem nsW_list : nsW.toList = [110, 111, 45, 115, 116, 111, 114, 101] := by rw [ByteArray.toList_eq]; rfl
theorem ncW_list : ncW.toList = [110, 111, 45, 99, 97, 99, 104, 101] := by rw [ByteArray.toList_eq]; rfl
theorem prW_list : prW.toList = [112, 114, 105, 118, 97, 116, 101] := by rw [ByteArray.toList_eq]; rfl
theorem muW_list : muW.toList = [109, 117, 115, 116, 45, 114, 101, 118, 97, 108, 105, 100, 97, 116, 101] := by rw [ByteArray.toList_eq]; rfl
theorem ageOf_short {s : ByteArray} (h : s.size < 8) : ageOf s = none := by
 unfold ageOf
 rw [if_neg]
 intro e
 have := congrArg List.length e
 rw [List.length_take, bs_len] at this
 have h8 : (bs maW).length = 8 := rfl
 omega
theorem ageOf_yes {s : ByteArray} (h : s.extract 0 8 = maW) : ageOf s = some (numV (s.extract 8 s.size)) := by
 have e : (bs s).take 8 = bs maW := by rw [← h, bs_extract, List.drop_zero]
 have d : (⟨((bs s).drop 8).toArray⟩ : ByteArray) = s.extract 8 s.size := by
  rw [← text_bs (s.extract 8 s.size), bs_extract, List.take_of_length_le (by rw [bs_len]; exact Nat.le_refl _)]
 unfold ageOf
 rw [if_pos e, d]
theorem ageOf_no {s : ByteArray} (h : s.extract 0 8 ≠ maW) : ageOf s = none := by
 unfold ageOf
 rw [if_neg]
 intro e
 apply h
 rw [← text_bs (s.extract 0 8), bs_extract, List.drop_zero, e, text_bs]
/-- What l6Age answers. -/
def AgeIs (s : ByteArray) (w : World) (e : Ending) (w' : World) : Prop :=
 ∃ (n : Int) (b : Bool), e = .returned (.tuple #[.int .i64 n, .bool b]) ∧ (b = true → ageOf s = some n) ∧ (b = false → ageOf s = none) ∧ Below w.heap.size w w'
theorem l6Age_any (s : ByteArray) (w : World) (hs : s.size ≤ 4000000) :
  Calls Tryz.prog 135 #[.string s] w fun e w' => AgeIs s w e w' := by
 by_cases h8 : s.size < 8
 ·
  have HN : Hid (ageOf s = none) := ageOf_short h8
  have h8' : (s.size : Int) < 8 := by omega
  clear h8
  go_enter Tryz.func135, Tryz.ntmps135
  go_wp2_with fail
  refine bodyPost_ret (v := .tuple #[.int .i64 0, .bool false]) (by simp [results, Tryz.results135, go_sem]) rfl ?_
  exact ⟨0, false, rfl, nofun, fun _ => HN.out, Below.refl _ _⟩
 ·
  have h8' : ¬ (s.size : Int) < 8 := by omega
  have h8'' : (8 : Int) ≤ (s.size : Int) := by omega
  by_cases hp : s.extract 0 8 = maW
  ·
   have ht : ((s.extract 0 8).toList == maW.toList) = true := (text_beq _ _).2 hp
   rw [maW_list] at ht
   have HY : Hid (ageOf s = some (numV (s.extract 8 s.size))) := ageOf_yes hp
   have hes : (s.extract 8 s.size).size ≤ maxLen := by rw [ByteArray.size_extract]; unfold maxLen; omega
   clear hp h8
   go_enter Tryz.func135, Tryz.ntmps135
   go_wp2_with fail
   refine (specNumRead_any (s.extract 8 s.size) _ hes).mono ?_
   rintro e w1 ⟨b, n, rfl, hb1, hb2, hb3, b1⟩
   have HV : Hid (numV (s.extract 8 s.size) = n) := by
    show _ = _
    unfold numV
    cases b with
    | true => rw [if_pos (hb1.1 rfl), hb2 rfl]
    | false => rw [if_neg (fun h => nomatch hb1.2 h), hb3 rfl]
   clear hb1 hb2 hb3
   go_wp2_with fail
   refine bodyPost_ret (v := .tuple #[.int .i64 n, .bool true]) (by simp [results, Tryz.results135, go_sem]) rfl ?_
   exact ⟨n, true, rfl, fun _ => by rw [HY.out, HV.out], nofun, b1⟩
  ·
   have ht : ((s.extract 0 8).toList == maW.toList) = false := text_beq_no hp
   rw [maW_list] at ht
   have HN : Hid (ageOf s = none) := ageOf_no hp
   clear hp h8
   go_enter Tryz.func135, Tryz.ntmps135
   go_wp2_with fail
   refine bodyPost_ret (v := .tuple #[.int .i64 0, .bool false]) (by simp [results, Tryz.results135, go_sem]) rfl ?_
   exact ⟨0, false, rfl, nofun, fun _ => HN.out, Below.refl _ _⟩
theorem ccLow_size (s : ByteArray) : (lowerOf s).size = s.size := by unfold lowerOf; rw [strOfNums_size, lowXs_len]
/-- The cells of it. -/
def CcD.cs (c : CcD) : Array Value := #[.bool c.ns, .bool c.nc, .bool c.pr, .bool c.mu, .bool c.ha, .int .i64 c.age]
/-- A block that holds it. -/
def CcAt (w : World) (g : Nat) (c : CcD) : Prop := w.heap[g]? = some (.cells c.cs 89)
theorem CcAt.cells {w : World} {g : Nat} {c : CcD} (h : CcAt w g c) : w.cell? ⟨g, 0, none⟩ = some (.bool c.ns) ∧ w.cell? ⟨g, 1, none⟩ = some (.bool c.nc) ∧ w.cell? ⟨g, 2, none⟩ = some (.bool c.pr) ∧ w.cell? ⟨g, 3, none⟩ = some (.bool c.mu) ∧ w.cell? ⟨g, 4, none⟩ = some (.bool c.ha) ∧ w.cell? ⟨g, 5, none⟩ = some (.int .i64 c.age) := by
 unfold CcAt CcD.cs at h
 refine ⟨?_, ?_, ?_, ?_, ?_, ?_⟩ <;> simp [World.cell?, h]
theorem CcAt.frozen {w : World} {g : Nat} {c : CcD} (h : CcAt w g c) (o : Nat) : w.frozen? ⟨g, o, none⟩ = false := by
 unfold CcAt at h
 simp [World.frozen?, h]
theorem CcAt.lt {w : World} {g : Nat} {c : CcD} (h : CcAt w g c) : g < w.heap.size := (Array.getElem?_eq_some_iff.1 h).1
theorem CcAt.same {w w' : World} {g : Nat} {c : CcD} (h : CcAt w g c) (hs : w'.heap[g]? = w.heap[g]?) : CcAt w' g c := by unfold CcAt; rw [hs]; exact h
theorem CcAt.put0 {w : World} {g : Nat} {c : CcD} (h : CcAt w g c) (x : Bool) : CcAt (w.setCell ⟨g, 0, none⟩ (.bool x)) g { c with ns := x } := by unfold CcAt at *; rw [heap_set _ _ _ _ _ _ _ h]; rfl
theorem CcAt.put1 {w : World} {g : Nat} {c : CcD} (h : CcAt w g c) (x : Bool) : CcAt (w.setCell ⟨g, 1, none⟩ (.bool x)) g { c with nc := x } := by unfold CcAt at *; rw [heap_set _ _ _ _ _ _ _ h]; rfl
theorem CcAt.put2 {w : World} {g : Nat} {c : CcD} (h : CcAt w g c) (x : Bool) : CcAt (w.setCell ⟨g, 2, none⟩ (.bool x)) g { c with pr := x } := by unfold CcAt at *; rw [heap_set _ _ _ _ _ _ _ h]; rfl
theorem CcAt.put3 {w : World} {g : Nat} {c : CcD} (h : CcAt w g c) (x : Bool) : CcAt (w.setCell ⟨g, 3, none⟩ (.bool x)) g { c with mu := x } := by unfold CcAt at *; rw [heap_set _ _ _ _ _ _ _ h]; rfl
theorem CcAt.put4 {w : World} {g : Nat} {c : CcD} (h : CcAt w g c) (x : Bool) : CcAt (w.setCell ⟨g, 4, none⟩ (.bool x)) g { c with ha := x } := by unfold CcAt at *; rw [heap_set _ _ _ _ _ _ _ h]; rfl
theorem CcAt.put5 {w : World} {g : Nat} {c : CcD} (h : CcAt w g c) (x : Int) : CcAt (w.setCell ⟨g, 5, none⟩ (.int .i64 x)) g { c with age := x } := by unfold CcAt at *; rw [heap_set _ _ _ _ _ _ _ h]; rfl
/-- All six cells of a block are stored. -/
def putCc (w : World) (g : Nat) (d : CcD) : World := (((((w.setCell ⟨g, 0, none⟩ (.bool d.ns)).setCell ⟨g, 1, none⟩ (.bool d.nc)).setCell ⟨g, 2, none⟩ (.bool d.pr)).setCell ⟨g, 3, none⟩ (.bool d.mu)).setCell ⟨g, 4, none⟩ (.bool d.ha)).setCell ⟨g, 5, none⟩ (.int .i64 d.age)
theorem CcAt.putAll {w : World} {g : Nat} {c : CcD} (h : CcAt w g c) (d : CcD) : CcAt (putCc w g d) g d :=
 (((((h.put0 d.ns).put1 d.nc).put2 d.pr).put3 d.mu).put4 d.ha).put5 d.age
theorem below_putCc {B : Nat} {a w : World} (h : Below B a w) {g : Nat} (hg : B ≤ g) (d : CcD) : Below B a (putCc w g d) :=
 (((((h.setCell hg _).setCell hg _).setCell hg _).setCell hg _).setCell hg _).setCell hg _
/-- The name of the field that says it. -/
def ccName : ByteArray := ⟨#[99, 97, 99, 104, 101, 45, 99, 111, 110, 116, 114, 111, 108]⟩
/-- While words are read. -/
structure CcSt (w : World) (H : Nat) (c : CcD) (v : Value) (l : List ByteArray) (wr : World) : Prop where
 res : CcAt wr H cc0
 cur : CcAt wr (H + 1) c
 row : wr.ownsRow (H + 1 + 1) 9 1 v l.length (l.map Value.string)
 low : Below H w wr
theorem CcSt.later {w : World} {H : Nat} {c : CcD} {v : Value} {l : List ByteArray} {wr w' : World} (h : CcSt w H c v l wr) (hb : Below wr.heap.size wr w') : CcSt w H c v l w' :=
 ⟨h.res.same (hb.block _ h.res.lt), h.cur.same (hb.block _ h.cur.lt), owns_below h.row hb (fun _ hg => owns_lt h.row hg), h.low.trans (hb.mono (Nat.le_of_lt h.res.lt))⟩
theorem CcSt.put {w : World} {H : Nat} {c d : CcD} {v : Value} {l : List ByteArray} {wr : World} (h : CcSt w H c v l wr) {o : Nat} {x : Value} (hd : CcAt (wr.setCell ⟨H + 1, o, none⟩ x) (H + 1) d) : CcSt w H d v l (wr.setCell ⟨H + 1, o, none⟩ x) :=
 ⟨h.res.same (heap_setCell_other _ _ H _ (by show H ≠ H + 1; omega)), hd, owns_same h.row (fun j hj => heap_setCell_other _ _ j _ (by show j ≠ H + 1; have := (own_ltR h.row hj).1; omega)), h.low.setCell (by show H ≤ H + 1; omega) _⟩
theorem specCcRead_any (s : ByteArray) (w : World) (hs : s.size ≤ 1048576) :
  Calls Tryz.prog 103 #[.string s] w fun e w' => e = .returned (ccR s).v ∧ Below w.heap.size w w' := by
 obtain ⟨H, hH⟩ := exq (w.heap.size)
 have HW : Hid (w.heap.size = H) := hH.symm
 obtain ⟨W0, hW0⟩ := exq ((w.alloc (.cells cc0.cs 89)).alloc (.cells cc0.cs 89))
 have HA : Hid (CcAt W0 H cc0 ∧ CcAt W0 (H + 1) cc0 ∧ Below H w W0 ∧ W0.heap.size = H + 1 + 1) := by
  have e1 := heap_alloc_new w (.cells cc0.cs 89)
  have e2 := heap_alloc_new (w.alloc (.cells cc0.cs 89)) (.cells cc0.cs 89)
  rw [World.size_alloc] at e2
  refine ⟨?_, ?_, ?_, ?_⟩
  · unfold CcAt; rw [hW0, hH, heap_alloc_old _ _ (by simp)]; exact e1
  · unfold CcAt; rw [hW0, hH]; exact e2
  · rw [hW0, hH]; exact ((Below.refl _ w).alloc (Nat.le_refl _) _).alloc (by simp) _
  · rw [hW0, hH]; simp
 have HW0 : Hid ((w.alloc (.cells #[.bool false, .bool false, .bool false, .bool false, .bool false, .int .i64 0] 89)).alloc (.cells #[.bool false, .bool false, .bool false, .bool false, .bool false, .int .i64 0] 89) = W0) := hW0.symm
 clear hW0
 go_enter Tryz.func103, Tryz.ntmps103
 go_wp2_with fail
 rw [HW0.out, ← hH]
 clear hH
 refine (specSplit_any s _ hs).mono ?_
 rintro e w1 ⟨v, rfl, hown, b1⟩
 rw [HA.out.2.2.2] at hown b1
 obtain ⟨l, hl⟩ := exq (splitL s)
 rw [← hl] at hown
 have HLS : Hid (splitL s = l) := hl.symm
 have HLB : Hid (∀ x ∈ l, x.size ≤ 1048576) := fun x hx => by rw [hl] at hx; have := (splitL_le s).2 x hx; omega
 have hll : l.length ≤ 1048577 := by rw [hl]; have := (splitL_le s).1; omega
 have HS1 : Hid (CcSt w H (ccTo (l.take 0)) v l w1) := ⟨HA.out.1.same (b1.block _ (by omega)), HA.out.2.1.same (b1.block _ (by omega)), hown, HA.out.2.2.1.trans (b1.mono (by omega))⟩
 obtain ⟨oa, cp, rfl⟩ := slice_of_owns hown
 obtain ⟨n, hn⟩ := exq l.length
 have HN : Hid (l.length = n) := hn.symm
 rw [← hn] at hll HS1
 rw [← hn]
 clear hown b1 hl hn
 go_wp2_with fail
 go_loopw [5] (fun i wr => ∃ k : Nat, k ≤ n ∧ i = .int .i64 (k : Int) ∧ Hid (CcSt w H (ccTo (l.take k)) (.slice oa n cp) l wr)) (fun i _ => n - (intOf i).toNat)
 case atStart => exact ⟨0, Nat.zero_le _, rfl, HS1⟩
 case round =>
  obtain ⟨k, hk, rfl, HS⟩ := hrel
  by_cases hlt : (k : Int) < (n : Int)
  ·
   have hkl : k < l.length := by have := HN.out; omega
   obtain ⟨g, rfl⟩ : ∃ g, oa = some ⟨g, 0, none⟩ := by
    rcases HS.out.row.2 with ⟨e, _⟩ | ⟨g, _, _, e, _⟩
    · injection e with _ e2 _; omega
    · injection e with e1 _ _; exact ⟨g, e1⟩
   obtain ⟨x, hx⟩ := exq (l[k]'hkl)
   have hc0 : wr.cell? ⟨g, k, none⟩ = some (.string x) := by
    have hr := HS.out.row
    rw [HN.out] at hr
    exact (owns_cellC hr k (.string x) (by rw [List.getElem?_map, List.getElem?_eq_getElem hkl, hx]; rfl)).1
   have hxs : x.size ≤ 1048576 := by rw [hx]; exact HLB.out _ (List.getElem_mem hkl)
   obtain ⟨y, hy⟩ := exq (lowerOf x)
   have hys : y.size ≤ 4000000 := by rw [hy, ccLow_size]; omega
   have HY : Hid (lowerOf x = y) := hy.symm
   have HST : Hid (ccTo (l.take (k + 1)) = ccStep (ccTo (l.take k)) y) := by
    show _ = _
    rw [List.take_succ_eq_append_getElem hkl, ccTo_snoc, ← hx, hy]
   clear hx hy hkl
   obtain ⟨c, hc⟩ := exq (ccTo (l.take k))
   rw [← hc] at HS HST
   obtain ⟨d, hd⟩ := exq (ccTo (l.take (k + 1)))
   rw [← hd] at HST
   have HD : Hid (ccTo (l.take (k + 1)) = d) := hd.symm
   clear hc hd
   go_wp2_with fail
   refine (specLower_any x _ hxs).mono ?_
   rintro e w2 ⟨rfl, b2⟩
   rw [HY.out]
   have HS2 : Hid (CcSt w H c (.slice (some ⟨g, 0, none⟩) n cp) l w2) := HS.out.later b2
   clear b2 hc0
   go_wp2_with fail
   refine (l6Age_any y _ hys).mono ?_
   rintro e w3 ⟨na, ba, rfl, hb1, hb2, b3⟩
   have HS3 : Hid (CcSt w H c (.slice (some ⟨g, 0, none⟩) n cp) l w3) := HS2.out.later b3
   obtain ⟨q0, q1, q2, q3, q4, q5⟩ := HS3.out.cur.cells
   have f0 := HS3.out.cur.frozen 0
   have f1 := HS3.out.cur.frozen 1
   have f2 := HS3.out.cur.frozen 2
   have f3 := HS3.out.cur.frozen 3
   have f4 := HS3.out.cur.frozen 4
   have f5 := HS3.out.cur.frozen 5
   clear b3 HS HS2
   by_cases h0 : y = nsW
   ·
    have t0 : (y.toList == nsW.toList) = true := (text_beq _ _).2 h0
    rw [nsW_list] at t0
    have HS4 : Hid (CcSt w H d (.slice (some ⟨g, 0, none⟩) n cp) l (w3.setCell ⟨H + 1, 0, none⟩ (.bool true))) := by
     show CcSt _ _ _ _ _ _
     have e : d = { c with ns := true } := by rw [HST.out]; unfold ccStep; rw [if_pos h0]
     rw [e]
     exact HS3.out.put (HS3.out.cur.put0 true)
    clear h0 hb1 hb2
    go_wp2_with fail
    go_roundw
    case rel => exact ⟨k + 1, by omega, by go_num, by rw [HD.out]; exact HS4⟩
    case measure => simp [intOf]; omega
   have t0 : (y.toList == nsW.toList) = false := text_beq_no h0
   rw [nsW_list] at t0
   by_cases h1 : y = ncW
   ·
    have t1 : (y.toList == ncW.toList) = true := (text_beq _ _).2 h1
    rw [ncW_list] at t1
    have HS4 : Hid (CcSt w H d (.slice (some ⟨g, 0, none⟩) n cp) l (w3.setCell ⟨H + 1, 1, none⟩ (.bool true))) := by
     show CcSt _ _ _ _ _ _
     have e : d = { c with nc := true } := by rw [HST.out]; unfold ccStep; rw [if_neg h0, if_pos h1]
     rw [e]
     exact HS3.out.put (HS3.out.cur.put1 true)
    clear h0 h1 hb1 hb2
    go_wp2_with fail
    go_roundw
    case rel => exact ⟨k + 1, by omega, by go_num, by rw [HD.out]; exact HS4⟩
    case measure => simp [intOf]; omega
   have t1 : (y.toList == ncW.toList) = false := text_beq_no h1
   rw [ncW_list] at t1
   by_cases h2 : y = prW
   ·
    have t2 : (y.toList == prW.toList) = true := (text_beq _ _).2 h2
    rw [prW_list] at t2
    have HS4 : Hid (CcSt w H d (.slice (some ⟨g, 0, none⟩) n cp) l (w3.setCell ⟨H + 1, 2, none⟩ (.bool true))) := by
     show CcSt _ _ _ _ _ _
     have e : d = { c with pr := true } := by rw [HST.out]; unfold ccStep; rw [if_neg h0, if_neg h1, if_pos h2]
     rw [e]
     exact HS3.out.put (HS3.out.cur.put2 true)
    clear h0 h1 h2 hb1 hb2
    go_wp2_with fail
    go_roundw
    case rel => exact ⟨k + 1, by omega, by go_num, by rw [HD.out]; exact HS4⟩
    case measure => simp [intOf]; omega
   have t2 : (y.toList == prW.toList) = false := text_beq_no h2
   rw [prW_list] at t2
   by_cases h3 : y = muW
   ·
    have t3 : (y.toList == muW.toList) = true := (text_beq _ _).2 h3
    rw [muW_list] at t3
    have HS4 : Hid (CcSt w H d (.slice (some ⟨g, 0, none⟩) n cp) l (w3.setCell ⟨H + 1, 3, none⟩ (.bool true))) := by
     show CcSt _ _ _ _ _ _
     have e : d = { c with mu := true } := by rw [HST.out]; unfold ccStep; rw [if_neg h0, if_neg h1, if_neg h2, if_pos h3]
     rw [e]
     exact HS3.out.put (HS3.out.cur.put3 true)
    clear h0 h1 h2 h3 hb1 hb2
    go_wp2_with fail
    go_roundw
    case rel => exact ⟨k + 1, by omega, by go_num, by rw [HD.out]; exact HS4⟩
    case measure => simp [intOf]; omega
   have t3 : (y.toList == muW.toList) = false := text_beq_no h3
   rw [muW_list] at t3
   have HRE : Hid (ccStep c y = match ageOf y with | none => c | some n => if c.ha = true then { c with age := min c.age n } else { c with ha := true, age := n }) := by
    show _ = _
    unfold ccStep
    rw [if_neg h0, if_neg h1, if_neg h2, if_neg h3] <;> rfl
   clear h0 h1 h2 h3
   cases ba with
   | false =>
    have HS4 : Hid (CcSt w H d (.slice (some ⟨g, 0, none⟩) n cp) l w3) := by
     show CcSt _ _ _ _ _ _
     have e : d = c := by rw [HST.out, HRE.out, hb2 rfl]
     rw [e]
     exact HS3.out
    clear hb1 hb2
    go_wp2_with fail
    go_roundw
    case rel => exact ⟨k + 1, by omega, by go_num, by rw [HD.out]; exact HS4⟩
    case measure => simp [intOf]; omega
   | true =>
    cases hha : c.ha with
    | true =>
     have HS4 : Hid (CcSt w H d (.slice (some ⟨g, 0, none⟩) n cp) l (w3.setCell ⟨H + 1, 5, none⟩ (.int .i64 (min c.age na)))) := by
      show CcSt _ _ _ _ _ _
      have e : d = { c with age := min c.age na } := by rw [HST.out, HRE.out, hb1 rfl]; dsimp only; rw [if_pos hha]
      rw [e]
      exact HS3.out.put (HS3.out.cur.put5 _)
     rw [hha] at q4
     clear hb1 hb2 hha
     go_wp2_with fail
     refine (l1Min_any _ _ _).mono ?_
     rintro e w4 ⟨rfl, rfl⟩
     go_wp2_with fail
     go_roundw
     case rel => exact ⟨k + 1, by omega, by go_num, by rw [HD.out]; exact HS4⟩
     case measure => simp [intOf]; omega
    | false =>
     have HS4a : CcSt w H { c with ha := true } (.slice (some ⟨g, 0, none⟩) n cp) l (w3.setCell ⟨H + 1, 4, none⟩ (.bool true)) := HS3.out.put (HS3.out.cur.put4 true)
     have HS4 : Hid (CcSt w H d (.slice (some ⟨g, 0, none⟩) n cp) l ((w3.setCell ⟨H + 1, 4, none⟩ (.bool true)).setCell ⟨H + 1, 5, none⟩ (.int .i64 na))) := by
      show CcSt _ _ _ _ _ _
      have e : d = { c with ha := true, age := na } := by rw [HST.out, HRE.out, hb1 rfl]; dsimp only; rw [if_neg (by rw [hha]; decide)]
      rw [e]
      exact HS4a.put (HS4a.cur.put5 _)
     have q5a := HS4a.cur.cells.2.2.2.2.2
     have f5a := HS4a.cur.frozen 5
     rw [hha] at q4
     clear hb1 hb2 hha HS4a
     go_wp2_with fail
     go_roundw
     case rel => exact ⟨k + 1, by omega, by go_num, by rw [HD.out]; exact HS4⟩
     case measure => simp [intOf]; omega
  ·
   obtain rfl : k = n := by omega
   have HE : Hid (ccTo (l.take k) = ccR s) := by
    show _ = _
    rw [List.take_of_length_le (by rw [HN.out]; exact Nat.le_refl _)]
    unfold ccR
    rw [HLS.out]
   rw [HE.out] at HS
   obtain ⟨c, hc⟩ := exq (ccR s)
   rw [← hc] at HS
   have HC : Hid (c = ccR s) := hc
   obtain ⟨q0, q1, q2, q3, q4, q5⟩ := HS.out.cur.cells
   obtain ⟨r0, r1, r2, r3, r4, r5⟩ := HS.out.res.cells
   have f0 := HS.out.res.frozen 0
   have f1 := HS.out.res.frozen 1
   have f2 := HS.out.res.frozen 2
   have f3 := HS.out.res.frozen 3
   have f4 := HS.out.res.frozen 4
   have f5 := HS.out.res.frozen 5
   obtain ⟨m0, m1, m2, m3, m4, m5⟩ := (HS.out.res.putAll c).cells
   have HB : Hid (Below H w (putCc wr H c)) := below_putCc HS.out.low (Nat.le_refl _) c
   clear hc HE
   unfold putCc at m0 m1 m2 m3 m4 m5 HB
   go_wp2_with fail
   refine bodyPost_ret (v := c.v) (by simp [results, Tryz.results103, go_sem, m0, m1, m2, m3, m4, m5, CcD.v]) rfl ?_
   exact ⟨by rw [HC.out], by rw [HW.out]; exact HB.out⟩
theorem specCcOf_any (v : Value) (n base : Nat) (fs : List (ByteArray × ByteArray)) (w : World) (hv : FieldsV w base v n fs) (hn : n ≤ 1073741824) (hsz : (getV fs ccName).size ≤ 1048576) :
  Calls Tryz.prog 56 #[v] w fun e w' => e = .returned (ccR (getV fs ccName)).v ∧ Below w.heap.size w w' := by
 have hv1 : FieldsV (w.alloc (.cells cc0.cs 89)) base v n fs := hv.below ((Below.refl _ _).alloc (Nat.le_refl _) _)
 have HR0 : Hid (CcAt (w.alloc (.cells cc0.cs 89)) w.heap.size cc0) := heap_alloc_new w _
 obtain ⟨t, ht⟩ := exq (getV fs ccName)
 have HT : Hid (getV fs ccName = t) := ht.symm
 rw [← ht] at hsz
 obtain ⟨c, hc⟩ := exq (ccR t)
 have HC : Hid (ccR t = c) := hc.symm
 rw [← ht, ← hc]
 clear ht hc hv
 go_enter Tryz.func56, Tryz.ntmps56
 go_wp2_with fail
 refine (specGet_any v n base fs ccName _ hv1 hn).mono ?_
 rintro e w1 ⟨rfl, rfl⟩
 rw [HT.out]
 clear hv1
 go_wp2_with fail
 refine (specCcRead_any t _ hsz).mono ?_
 rintro e w2 ⟨rfl, b2⟩
 rw [HC.out]
 have hR := HR0.out.same (b2.block _ HR0.out.lt)
 obtain ⟨r0, r1, r2, r3, r4, r5⟩ := hR.cells
 have f0 := hR.frozen 0
 have f1 := hR.frozen 1
 have f2 := hR.frozen 2
 have f3 := hR.frozen 3
 have f4 := hR.frozen 4
 have f5 := hR.frozen 5
 obtain ⟨m0, m1, m2, m3, m4, m5⟩ := (hR.putAll c).cells
 have HB : Hid (Below w.heap.size w (putCc w2 w.heap.size c)) := below_putCc (((Below.refl _ w).alloc (Nat.le_refl _) _).trans (b2.mono (by simp))) (Nat.le_refl _) c
 unfold putCc at m0 m1 m2 m3 m4 m5 HB
 clear hR b2 HR0
 unfold CcD.v
 go_wp2_with fail
 refine bodyPost_ret (v := c.v) (by simp [results, Tryz.results56, go_sem, m0, m1, m2, m3, m4, m5, CcD.v]) rfl ?_
 exact ⟨rfl, HB.out⟩
end Go.Proofs.YtmcmeeibogkpaaaGreatDoorR
namespace Go.Proofs.YtmcmeeibogkpaaaGreatDoorR
open Go.RowKit
open Go.Lib hiding intOf
theorem ccPickInt_any (c B g n : Nat) (f : Nat → Int) (a : Option Addr) (len cap : Nat) (zs : List Int) (w : World) (hcur : CurAt w c a len cap) (hcode : CodeAt w B a len zs) (hB : B ≤ c) (hn : 1 ≤ n) (hn2 : n ≤ 256) (hl : ∀ j, j < n → w.cell? ⟨g, j, none⟩ = some (.int .i64 (f j))) (hgc : g ≠ c) :
  Calls Tryz.prog 88 #[.pointer (some ⟨c, 0, none⟩), .slice (some ⟨g, 0, none⟩) n n] w fun e w' => ∃ j, j < n ∧ e = .returned (.int .i64 (f j)) ∧ CurAt w' c a len cap ∧ w.grownBy w' (some c) := by
 go_enter Tryz.func88, Tryz.ntmps88
 go_wp2_with fail
 refine (l1Below_any c B n a len cap zs _ hcur hcode hB (by omega) (by omega)).mono ?_
 rintro e w1 ⟨x, rfl, hx0, hx1, hcur1, hg1⟩
 obtain ⟨j, rfl⟩ := Int.eq_ofNat_of_zero_le hx0
 have hj : j < n := by omega
 have hcell : w1.cell? ⟨g, j, none⟩ = some (.int .i64 (f j)) := grown_cell hg1 (hl j hj) hgc
 go_wp2
 go_ret
 exact ⟨j, hj, rfl, hcur1, hg1⟩
end Go.Proofs.YtmcmeeibogkpaaaGreatDoorR
namespace Go.Proofs.YtmcmeeibogkpaaaGreatDoorR
open Go.RowKit
open Go.Lib hiding intOf
theorem putL_len (fs : List (ByteArray × ByteArray)) (name value : ByteArray) : (putF fs name value).length ≤ fs.length + 1 := by
 unfold putF
 split
 · rw [List.length_set]; omega
 · rw [List.length_append]; simp
theorem putL_short {fs : List (ByteArray × ByteArray)} (h : ShortF fs) {name value : ByteArray} (h1 : name.size ≤ 64) (h2 : value.size ≤ 64) : ShortF (putF fs name value) := by
  by_cases hin : atF fs name < fs.length
  · unfold putF
    rw [if_pos hin]
    intro f hf
    rcases List.mem_or_eq_of_mem_set hf with hf | hf
    · exact h f hf
    · subst hf
      refine ⟨?_, h2⟩
      first
        | exact h1
        | (unfold nameAt
           rw [List.getD_eq_getElem?_getD, List.getElem?_eq_getElem hin]
           exact (h _ (List.getElem_mem hin)).1)
  · unfold putF
    rw [if_neg hin]
    exact h.snoc h1 h2
/-- A call on the cursor answers a number. -/
def TimeDrawn (w : World) (c : Nat) (a : Option Addr) (len cap : Nat) (e : Ending) (w' : World) : Prop :=
 ∃ n : Int, e = .returned (.int .i64 n) ∧ -9223372036854775808 ≤ n ∧ n ≤ 9223372036854775807 ∧ CurAt w' c a len cap ∧ w.grownBy w' (some c)
def tmL : List Int := [-1, 1000000, 1000001, 9223372036854775807, -9223372036854775808]
theorem tmL_in : ∀ j, j < 5 → -9223372036854775808 ≤ tmL.getD j 0 ∧ tmL.getD j 0 ≤ 9223372036854775807 := by decide
theorem l7DrawTime_any (c B : Nat) (a : Option Addr) (len cap : Nat) (zs : List Int) (w : World) (hcur : CurAt w c a len cap) (hcode : CodeAt w B a len zs) (hB : B ≤ c) :
  Calls Tryz.prog 35 #[.pointer (some ⟨c, 0, none⟩)] w fun e w' => TimeDrawn w c a len cap e w' := by
 have HCO : Hid (∀ W, w.grownBy W (some c) → CodeAt W B a len zs) := fun W h => hcode.grown h hB
 go_enter Tryz.func35, Tryz.ntmps35
 go_wp2_with fail
 refine (l1Once_any c B 15 a len cap zs _ hcur hcode hB (by omega) (by omega)).mono ?_
 rintro e w1 ⟨hb, hcu1, hg1⟩
 obtain ⟨b, rfl⟩ := hb.out
 have HG1 : Hid (w.grownBy w1 (some c)) := hg1
 have hcl1 := hcu1.lt
 clear hb hcur hcode hg1
 cases b with
 | true =>
  have hla : ∀ j, j < 5 → (w1.alloc (.cells #[.int .i64 (-1), .int .i64 1000000, .int .i64 1000001, .int .i64 9223372036854775807, .int .i64 (-9223372036854775808)] 3)).cell? ⟨w1.heap.size, j, none⟩ = some (.int .i64 (tmL.getD j 0)) := by
   intro j hj
   rw [World.cell?_alloc_new]
   match j, hj with
   | 0, _ => rfl
   | 1, _ => rfl
   | 2, _ => rfl
   | 3, _ => rfl
   | 4, _ => rfl
  have HGA : Hid (∀ o, w.grownBy (w1.alloc o) (some c)) := fun o => grownBy_trans HG1.out (World.grownBy_alloc w1 o _)
  go_wp2_with fail
  refine (ccPickInt_any c B w1.heap.size 5 (fun j => tmL.getD j 0) a len cap zs _ (hcu1.below ((Below.refl _ _).alloc (Nat.le_refl _) _) hcl1) (HCO.out _ (HGA.out _)) hB (by omega) (by omega) (by exact hla) (by omega)).mono ?_
  rintro e w2 ⟨j, hj, rfl, hcu2, hg2⟩
  have hz := tmL_in j hj
  obtain ⟨z, hzz⟩ := exq (tmL.getD j 0)
  rw [← hzz] at hz ⊢
  have HG2 : Hid (w.grownBy w2 (some c)) := grownBy_trans (HGA.out _) hg2
  clear hzz hla hg2 hcu1
  go_wp2_with fail
  go_ret
  exact ⟨z, rfl, hz.1, hz.2, hcu2, HG2.out⟩
 | false =>
  go_wp2_with fail
  refine (l1Below_any c B 40 a len cap zs _ hcu1 (HCO.out _ HG1.out) hB (by omega) (by omega)).mono ?_
  rintro e w2 ⟨x, rfl, hx0, hx1, hcu2, hg2⟩
  have HG2 : Hid (w.grownBy w2 (some c)) := grownBy_trans HG1.out hg2
  clear hcu1 hg2
  go_wp2_with fail
  go_ret
  exact ⟨x, rfl, by omega, by omega, hcu2, HG2.out⟩
end Go.Proofs.YtmcmeeibogkpaaaGreatDoorR
namespace Go.Proofs.YtmcmeeibogkpaaaGreatDoorR
open Go.RowKit
open Go.Lib hiding intOf
theorem place_any (v : Value) (n base : Nat) (fs : List (ByteArray × ByteArray)) (name : ByteArray) (w : World) (hv : FieldsV w base v n fs) (hn : n ≤ 1073741824) :
  Calls Tryz.prog 65 #[v, .string name] w fun e w' => e = .returned (.int .i64 (atF fs name : Int)) ∧ w' = w := by
 have hl := hv.len
 obtain ⟨oa, cap, rfl, hrow⟩ := hv.slice
 clear hv
 go_enter Tryz.func65, Tryz.ntmps65
 go_wp2
 go_loop [8] (fun i => ∃ k : Nat, k ≤ n ∧ i = .int .i64 (k : Int) ∧ Hid (∀ j, j < k → nameAt fs j ≠ name)) (fun i => n - (intOf i).toNat)
 case atStart => exact ⟨0, Nat.zero_le _, rfl, fun j h => absurd h (by omega)⟩
 case round =>
  obtain ⟨k, hk, rfl, hb⟩ := hrel
  by_cases hlt : k < n
  ·
   obtain ⟨g, rfl, row⟩ := hrow k hlt
   have hc := row.name k hlt
   have hlt2 : (k : Int) < (n : Int) := by omega
   clear hrow row
   by_cases he : nameAt fs k = name
   ·
    have hT : Hid (atF fs name = k) := atF_uniq (by omega) hb.out he
    have ht : ((nameAt fs k).toList == name.toList) = true := (text_beq _ _).2 he
    clear he
    go_wp2
    go_ret
    exact ⟨by rw [hT.out]; rfl, rfl⟩
   ·
    have ht := text_beq_no he
    have HE : Hid (nameAt fs k ≠ name) := he
    clear he
    go_wp2
    go_round
    case rel =>
     refine ⟨k + 1, by omega, by go_num, ?_⟩
     intro j hj
     by_cases e : j = k
     · subst e; exact HE.out
     · exact hb.out j (by omega)
    case measure => simp [intOf]; omega
  ·
   have hT : Hid (atF fs name = n) := by
    have := atF_none (fs := fs) (name := name) (fun j hj => hb.out j (by omega))
    show _ = _
    omega
   clear hrow
   go_wp2
   go_ret
   exact ⟨by rw [hT.out]; rfl, rfl⟩
theorem newField_any (nm vl : ByteArray) (w : World) (h1 : nm.size ≤ 281474976710656) (h2 : vl.size ≤ 281474976710656) :
  Calls Tryz.prog 126 #[.string nm, .string vl] w fun e w' => e = .returned (.agg #[.string nm, .string vl]) ∧ Below w.heap.size w w' := by
 go_enter Tryz.func126, Tryz.ntmps126
 go_wp2_with fail
 refine (clone_any nm _ h1).mono ?_
 rintro e w1 ⟨rfl, hb1⟩
 go_wp2_with fail
 refine (clone_any vl _ h2).mono ?_
 rintro e w2 ⟨rfl, hb2⟩
 obtain ⟨r, hr⟩ := exq (w.heap.size)
 have h0 : (w.alloc (.cells #[.string ⟨#[]⟩, .string ⟨#[]⟩] 74)).heap.size = w.heap.size + 1 := by simp
 have hb : Below w.heap.size w w2 := ((Below.refl _ w).alloc (Nat.le_refl _) _).trans ((hb1.trans (hb2.mono hb1.size)).mono (by omega))
 have hre2 : w2.heap[r]? = some (.cells #[.string ⟨#[]⟩, .string ⟨#[]⟩] 74) := by
  rw [hr, (hb1.trans (hb2.mono hb1.size)).block _ (by omega)]; exact heap_alloc_new w _
 have hc0 : w2.cell? ⟨r, 0, none⟩ = some (.string ⟨#[]⟩) := by simp [World.cell?, hre2]
 have hc1 : w2.cell? ⟨r, 1, none⟩ = some (.string ⟨#[]⟩) := by simp [World.cell?, hre2]
 have hf0 : w2.frozen? ⟨r, 0, none⟩ = false := by simp [World.frozen?, hre2]
 have hf1 : w2.frozen? ⟨r, 1, none⟩ = false := by simp [World.frozen?, hre2]
 have hre3 := twoSet_heap nm vl hre2
 have k0 : (twoSet w2 r nm vl).cell? ⟨r, 0, none⟩ = some (.string nm) := by simp [World.cell?, hre3]
 have k1 : (twoSet w2 r nm vl).cell? ⟨r, 1, none⟩ = some (.string vl) := by simp [World.cell?, hre3]
 have hb3 : Below w.heap.size w (twoSet w2 r nm vl) := (hb.setCell (p := ⟨r, 0, none⟩) (by simp [hr]) _).setCell (p := ⟨r, 1, none⟩) (by simp [hr]) _
 have HB3 : Hid (Below w.heap.size w (twoSet w2 r nm vl)) := hb3
 rw [← hr]
 unfold twoSet at k0 k1
 clear hre3 hre2 hb hb3 hb1 hb2 hr h0
 go_wp2
 exact bodyPost_ret (v := .agg #[.string nm, .string vl]) (by simp [results, Tryz.results126, go_sem, k0, k1]) rfl ⟨rfl, HB3.out⟩
theorem cell_set_other (w : World) (r o g p : Nat) (v : Value) (h : g ≠ r) : (w.setCell ⟨r, o, none⟩ v).cell? ⟨g, p, none⟩ = w.cell? ⟨g, p, none⟩ := by
 unfold World.cell?
 rw [heap_setCell_other _ _ g _ (fun e => h e)]
/-- Every text of the fields is short enough to be copied. -/
def CopyF (fs : List (ByteArray × ByteArray)) : Prop := ∀ i, i < fs.length → (nameAt fs i).size ≤ 281474976710656 ∧ (valAt fs i).size ≤ 281474976710656
theorem copied_any (v : Value) (n base : Nat) (fs : List (ByteArray × ByteArray)) (w : World) (hv : FieldsV w base v n fs) (hn : n ≤ 2000000) (hsz : CopyF fs) :
  Calls Tryz.prog 128 #[v] w fun e w' => RowF fs w e w' := by
 obtain ⟨i0, hi, hz0, hz1, hz2⟩ := info_parts info33
 obtain ⟨M, hM⟩ : ∃ M, M = madeCells (Value.agg #[.string ⟨#[]⟩, .string ⟨#[]⟩]).cells (((n : Nat) : Int).toNat * i0.size) := ⟨_, rfl⟩
 have hmk : ∀ W : World, (Instr.makeSlice 75 (.int .i64 (n : Int)) (.int .i64 (n : Int))).run Tryz.prog W = .ok (.slice (some ⟨W.heap.size, 0, none⟩) n n) (W.alloc (.cells M 74)) := fun W => by
  have h := run_make (P := Tryz.prog) W 75 74 i0 (.agg #[.string ⟨#[]⟩, .string ⟨#[]⟩]) Tryz.underlying75 hi hz0 .i64 .i64 (n : Int) (n : Int) (by omega) (by omega) (by rw [hz2]; omega) (by omega)
  rw [← hM] at h
  simpa using h
 have hMs : M.size = n * 2 := by rw [hM, size_madeCells, hz1]; simp
 have hlen := hv.len
 obtain ⟨oa, cap, rfl, hrow⟩ := hv.slice
 have HROW : Hid (∀ k, k < n → ∃ g, oa = some ⟨g, 0, none⟩ ∧ FieldRow base w g n cap fs) := hrow
 have HSZ : Hid (CopyF fs) := hsz
 clear hM hv hrow hsz
 have HP : Hid (PartRow (w.alloc (.cells M 74)) w.heap.size n 0 fs) := ⟨M, heap_alloc_new w _, hMs, fun i h => absurd h (by omega)⟩
 go_enter Tryz.func128, Tryz.ntmps128
 go_wp2
 go_loopw [10] (fun i wr => ∃ k : Nat, k ≤ n ∧ i = .int .i64 (k : Int) ∧ Hid (PartRow wr w.heap.size n k fs) ∧ Below w.heap.size w wr) (fun i _ => n - (intOf i).toNat)
 case atStart => exact ⟨0, Nat.zero_le _, rfl, HP, (Below.refl _ _).alloc (Nat.le_refl _) _⟩
 case round =>
  obtain ⟨k, hk, rfl, hpr, hbw⟩ := hrel
  by_cases hlt : k < n
  ·
   have hlt2 : (k : Int) < (n : Int) := by omega
   obtain ⟨g, rfl, row⟩ := HROW.out k hlt
   have hrowlt := row.lt
   have HRW : Hid (FieldRow base w g n cap fs) := row
   have row1 := row.below hbw row.lt
   have hc1 := row1.name k hlt
   have hc2 := row1.val k hlt
   obtain ⟨z1, z2⟩ := HSZ.out k (by omega)
   obtain ⟨nm, hnm⟩ := exq (nameAt fs k)
   obtain ⟨vl, hvl⟩ := exq (valAt fs k)
   rw [← hnm] at hc1 z1
   rw [← hvl] at hc2 z2
   have HNM : Hid (nm = nameAt fs k) := hnm
   have HVL : Hid (vl = valAt fs k) := hvl
   clear hnm hvl row row1
   have hgr : g < w.heap.size := hrowlt
   have HA : Hid (∀ w0 w1, Below wr.heap.size wr w0 → Below w0.heap.size w0 w1 → (w1.cell? ⟨g, k * 2, none⟩ = some (.string nm) ∧ w1.cell? ⟨g, k * 2 + 1, none⟩ = some (.string vl)) ∧ (∃ u, w1.cell? ⟨w.heap.size, k * 2, none⟩ = some u) ∧ (∃ u, w1.cell? ⟨w.heap.size, k * 2 + 1, none⟩ = some u) ∧ w1.frozen? ⟨w.heap.size, k * 2, none⟩ = false ∧ w1.frozen? ⟨w.heap.size, k * 2 + 1, none⟩ = false ∧ Hid (PartRow ((w1.setCell ⟨w.heap.size, k * 2, none⟩ (.string nm)).setCell ⟨w.heap.size, k * 2 + 1, none⟩ (.string vl)) w.heap.size n (k + 1) fs) ∧ Below w.heap.size w w1 ∧ (((w1.setCell ⟨w.heap.size, k * 2, none⟩ (.string nm)).setCell ⟨w.heap.size, k * 2 + 1, none⟩ (.string vl)).cell? ⟨g, k * 2, none⟩ = some (.string nm) ∧ ((w1.setCell ⟨w.heap.size, k * 2, none⟩ (.string nm)).setCell ⟨w.heap.size, k * 2 + 1, none⟩ (.string vl)).cell? ⟨g, k * 2 + 1, none⟩ = some (.string vl))) := fun w0 w1 h h' => by
    have hx := h.trans (h'.mono h.size)
    have hy := hbw.trans (hx.mono hbw.size)
    have row1 := HRW.out.below hy hgr
    have a1 := row1.name k hlt
    have a2 := row1.val k hlt
    rw [← HNM.out] at a1
    rw [← HVL.out] at a2
    have hpr1 := hpr.out.below hx hpr.out.lt
    have hput := hpr1.put hlt
    rw [← HNM.out, ← HVL.out] at hput
    exact ⟨⟨a1, a2⟩, hpr1.cell (k * 2) (by omega), hpr1.cell (k * 2 + 1) (by omega), hpr1.frozen _, hpr1.frozen _, hput, hy, by rw [cell_set_other _ _ _ _ _ _ (by omega), cell_set_other _ _ _ _ _ _ (by omega)]; exact a1, by rw [cell_set_other _ _ _ _ _ _ (by omega), cell_set_other _ _ _ _ _ _ (by omega)]; exact a2⟩
   go_wp2
   go_region_held3 (fun w' => w'.cell? ⟨g, k * 2, none⟩ = some (.string nm) ∧ w'.cell? ⟨g, k * 2 + 1, none⟩ = some (.string vl)) (first | assumption | go_keep) (first | (go_at_call 126; refine (newField_any nm vl _ z1 z2).mono ?_; rintro e w1 ⟨rfl, hb1⟩; obtain ⟨hcc, ⟨u0, hu0⟩, ⟨u1, hu1⟩, f0, f1, HPUT, hb2, hs1, hs2⟩ := HA.out _ w1 ((Below.refl _ wr).drew) hb1))
   go_wp2
   go_roundw
   case rel => exact ⟨k + 1, by omega, by go_num, HPUT, (hb2.setCell (Nat.le_refl _) _).setCell (Nat.le_refl _) _⟩
   case measure => simp [intOf]; omega
  ·
   obtain rfl : k = n := by omega
   go_wp2
   go_ret
   exact ⟨_, rfl, by rw [hlen]; exact hpr.out.owns hlen (by unfold maxLen; omega) (Nat.le_refl _), hbw⟩
theorem implGet_any (v : Value) (n base : Nat) (fs : List (ByteArray × ByteArray)) (name : ByteArray) (w : World) (hv : FieldsV w base v n fs) (hn : n ≤ 1073741824) (hsz : CopyF fs) :
  Calls Tryz.prog 16 #[v, .string name] w fun e w' => e = .returned (.tuple #[.string (getV fs name), .bool (getB fs name)]) ∧ Below w.heap.size w w' := by
 have hl := hv.len
 have hv0 := hv
 obtain ⟨oa, cap, rfl, hrow⟩ := hv0.slice
 clear hv0
 obtain ⟨k, hk⟩ := exq (atF fs name)
 have hle := atF_le fs name
 by_cases hin : atF fs name < fs.length
 ·
  have hV : Hid (getV fs name = valAt fs k) := by show _ = _; unfold getV; rw [if_pos hin, hk]
  have hB : Hid (getB fs name = true) := by show _ = _; unfold getB; simpa using hin
  obtain ⟨g, rfl, row⟩ := hrow k (by omega)
  have hc := row.val k (by omega)
  have hlt : (k : Int) < (n : Int) := by omega
  have hne : ((k : Int) == (n : Int)) = false := by rw [beq_eq_false_iff_ne]; omega
  obtain ⟨_, hz⟩ := hsz k (by omega)
  obtain ⟨vl, hvl⟩ := exq (valAt fs k)
  rw [← hvl] at hV hc hz
  go_enter Tryz.func16, Tryz.ntmps16
  go_wp2_with fail
  refine (place_any _ n base fs name _ hv hn).mono ?_
  rintro e w1 ⟨rfl, rfl⟩
  rw [← hk]
  clear hv hrow row hk hvl hle hin hsz
  go_wp2_with fail
  refine (clone_any vl _ hz).mono ?_
  rintro e w2 ⟨rfl, hb2⟩
  go_wp2
  go_ret2
  exact ⟨by rw [hV.out, hB.out]; rfl, hb2⟩
 ·
  have hV : Hid (getV fs name = ⟨#[]⟩) := by show _ = _; unfold getV; rw [if_neg hin]
  have hB : Hid (getB fs name = false) := by show _ = _; unfold getB; simpa using hin
  have hkn : k = n := by omega
  go_enter Tryz.func16, Tryz.ntmps16
  go_wp2_with fail
  refine (place_any _ n base fs name _ hv hn).mono ?_
  rintro e w1 ⟨rfl, rfl⟩
  rw [← hk, hkn]
  clear hv hrow hk hle hin hsz hkn
  go_wp2
  go_ret2
  exact ⟨by rw [hV.out, hB.out]; rfl, Below.refl _ _⟩
end Go.Proofs.YtmcmeeibogkpaaaGreatDoorR
namespace Go.Proofs.YtmcmeeibogkpaaaGreatDoorR
open Go.RowKit
open Go.Lib hiding intOf
/-- What one word says that is no age. -/
def saidF (x : ByteArray) : CcD := if x = nsW then ⟨true, false, false, false, false, 0⟩ else if x = ncW then ⟨false, true, false, false, false, 0⟩ else if x = prW then ⟨false, false, true, false, false, 0⟩ else if x = muW then ⟨false, false, false, true, false, 0⟩ else cc0
/-- What one word says. -/
noncomputable def saidB (x : ByteArray) : CcD := match ageOf x with
 | some n => ⟨false, false, false, false, true, n⟩
 | none => saidF x
def leastA (a b : CcD) : Int := if a.ha = false then b.age else if b.ha = false then a.age else min a.age b.age
def toge (a b : CcD) : CcD := ⟨a.ns || b.ns, a.nc || b.nc, a.pr || b.pr, a.mu || b.mu, a.ha || b.ha, leastA a b⟩
theorem ageOf_word {x : ByteArray} (h : x = nsW ∨ x = ncW ∨ x = prW ∨ x = muW) : ageOf x = none := by
 unfold ageOf
 rw [if_neg]
 rcases h with rfl | rfl | rfl | rfl <;> decide
theorem step_toge {c : CcD} (h : c.fit) (x : ByteArray) : ccStep c x = toge c (saidB x) := by
 obtain ⟨a0, a1, a2, a3, a4, ax⟩ := c
 have h3 : a4 = false → ax = 0 := h.2.2
 unfold ccStep saidB
 by_cases h0 : x = nsW
 ·
  rw [if_pos h0, ageOf_word (.inl h0)]
  unfold saidF
  rw [if_pos h0]
  cases a4 <;> simp [toge, leastA] <;> exact h3 rfl
 rw [if_neg h0]
 by_cases h1 : x = ncW
 ·
  rw [if_pos h1, ageOf_word (.inr (.inl h1))]
  unfold saidF
  rw [if_neg h0, if_pos h1]
  cases a4 <;> simp [toge, leastA] <;> exact h3 rfl
 rw [if_neg h1]
 by_cases h2 : x = prW
 ·
  rw [if_pos h2, ageOf_word (.inr (.inr (.inl h2)))]
  unfold saidF
  rw [if_neg h0, if_neg h1, if_pos h2]
  cases a4 <;> simp [toge, leastA] <;> exact h3 rfl
 rw [if_neg h2]
 by_cases h4 : x = muW
 ·
  rw [if_pos h4, ageOf_word (.inr (.inr (.inr h4)))]
  unfold saidF
  rw [if_neg h0, if_neg h1, if_neg h2, if_pos h4]
  cases a4 <;> simp [toge, leastA] <;> exact h3 rfl
 rw [if_neg h4]
 cases ageOf x with
 | none =>
  dsimp only
  unfold saidF
  rw [if_neg h0, if_neg h1, if_neg h2, if_neg h4]
  cases a4 <;> simp [toge, leastA, cc0] <;> exact h3 rfl
 | some n => cases a4 <;> simp [toge, leastA]
theorem putCc_other {w : World} {g j : Nat} {d : CcD} (h : j ≠ g) : (putCc w g d).heap[j]? = w.heap[j]? := by
 unfold putCc
 rw [heap_setCell_other _ _ j _ h, heap_setCell_other _ _ j _ h, heap_setCell_other _ _ j _ h, heap_setCell_other _ _ j _ h, heap_setCell_other _ _ j _ h, heap_setCell_other _ _ j _ h]
/-- 'wpAnyH_take', its place named. -/
theorem wpAnyH_takeD {P : Program} {ops : Array Oper} {Q : Exit → Act → World → Prop} {md : Region.Mode} {S : World → Prop} {i : Nat} {oi : Oper} {v : Value} {fuel : Nat} {listed : Array Bool} {a : Act} {w : World} (d : Option Tmp) (hi : ops[i]? = some oi) (hd : oi.dst = d)
  (hs : Region.noSelect ops = true) (hf : Region.free md ops listed i = true) (hr : (Region.ready md ops listed).contains i = true)
  (hQ : ∀ c a w, Q (.panic c) (a.put oi.dst v) w → Q (.panic c) a w) (hy : YieldsIf P ops S oi v a) (hS : S w)
  (h : wpAnyH P md ops Q S fuel (listed.setIfInBounds i true) (a.put d v) w) : wpAnyH P md ops Q S (fuel + 1) listed a w :=
 wpAnyH_take hi hs hf hr hQ hy hS (hd ▸ h)
theorem yieldsIf_guard {P : Program} {ops : Array Oper} {S : World → Prop} {o : Oper} {v : Value} {a : Act} (g : Bool) (hw : Region.wanted o (yielded ops a.tmps) = g) (hv : g = true → ∀ w, S w → (execOp a.eval o).run P w = .ok (.value v) w) : YieldsIf P ops S o (if g = true then v else undef) a := by
 cases g with
 | true => exact Or.inl ⟨hw, by simpa using hv rfl⟩
 | false => exact Or.inr ⟨hw, by simp⟩
theorem leastAge_any (a b : CcD) (w : World) :
  Calls Tryz.prog 164 #[a.v, b.v] w fun e w' => e = .returned (.int .i64 (leastA a b)) ∧ Below w.heap.size w w' := by
 obtain ⟨a0, a1, a2, a3, a4, ax⟩ := a
 obtain ⟨b0, b1, b2, b3, b4, bx⟩ := b
 have HB : Hid (∀ o1 o2, Below w.heap.size w ((w.alloc o1).alloc o2)) := fun o1 o2 => ((Below.refl _ w).alloc (Nat.le_refl _) _).alloc (by simp) _
 have HE : Hid (leastA ⟨a0, a1, a2, a3, a4, ax⟩ ⟨b0, b1, b2, b3, b4, bx⟩ = if a4 = false then bx else if b4 = false then ax else min ax bx) := rfl
 show Calls _ _ #[.agg #[.bool a0, .bool a1, .bool a2, .bool a3, .bool a4, .int .i64 ax], .agg #[.bool b0, .bool b1, .bool b2, .bool b3, .bool b4, .int .i64 bx]] _ _
 cases a4 with
 | false =>
  go_enter Tryz.func164, Tryz.ntmps164
  go_wp2
  go_ret
  exact ⟨by rw [HE.out]; rfl, HB.out _ _⟩
 | true =>
  cases b4 with
  | false =>
   go_enter Tryz.func164, Tryz.ntmps164
   go_wp2
   go_ret
   exact ⟨by rw [HE.out]; rfl, HB.out _ _⟩
  | true =>
   go_enter Tryz.func164, Tryz.ntmps164
   go_wp2
   go_ret
   exact ⟨by rw [HE.out]; rfl, HB.out _ _⟩
theorem together_any (a b : CcD) (w : World) :
  Calls Tryz.prog 152 #[a.v, b.v] w fun e w' => e = .returned (toge a b).v ∧ Below w.heap.size w w' := by
 obtain ⟨a0, a1, a2, a3, a4, ax⟩ := a
 obtain ⟨b0, b1, b2, b3, b4, bx⟩ := b
 show Calls _ _ #[.agg #[.bool a0, .bool a1, .bool a2, .bool a3, .bool a4, .int .i64 ax], .agg #[.bool b0, .bool b1, .bool b2, .bool b3, .bool b4, .int .i64 bx]] _ _
 obtain ⟨H, hH⟩ := exq (w.heap.size)
 have HW : Hid (w.heap.size = H) := hH.symm
 obtain ⟨W1, hW1⟩ := exq (((w.alloc (.cells #[.bool a0, .bool a1, .bool a2, .bool a3, .bool a4, .int .i64 ax] 89)).alloc (.cells #[.bool b0, .bool b1, .bool b2, .bool b3, .bool b4, .int .i64 bx] 89)).alloc (.cells #[.bool false, .bool false, .bool false, .bool false, .bool false, .int .i64 0] 89))
 have HS1 : CcAt W1 H (⟨a0, a1, a2, a3, a4, ax⟩ : CcD) ∧ CcAt W1 (H + 1) (⟨b0, b1, b2, b3, b4, bx⟩ : CcD) ∧ CcAt W1 (H + 1 + 1) cc0 ∧ Below H w W1 := by
  have e1 := heap_alloc_new w (.cells #[.bool a0, .bool a1, .bool a2, .bool a3, .bool a4, .int .i64 ax] 89)
  have e2 := heap_alloc_new (w.alloc (.cells #[.bool a0, .bool a1, .bool a2, .bool a3, .bool a4, .int .i64 ax] 89)) (.cells #[.bool b0, .bool b1, .bool b2, .bool b3, .bool b4, .int .i64 bx] 89)
  have e3 := heap_alloc_new ((w.alloc (.cells #[.bool a0, .bool a1, .bool a2, .bool a3, .bool a4, .int .i64 ax] 89)).alloc (.cells #[.bool b0, .bool b1, .bool b2, .bool b3, .bool b4, .int .i64 bx] 89)) (.cells #[.bool false, .bool false, .bool false, .bool false, .bool false, .int .i64 0] 89)
  rw [World.size_alloc] at e2
  rw [World.size_alloc, World.size_alloc] at e3
  refine ⟨?_, ?_, ?_, ?_⟩
  · unfold CcAt; rw [hW1, hH, heap_alloc_old _ _ (by simp; omega), heap_alloc_old _ _ (by simp)]; exact e1
  · unfold CcAt; rw [hW1, hH, heap_alloc_old _ _ (by simp)]; exact e2
  · unfold CcAt; rw [hW1, hH]; exact e3
  · rw [hW1, hH]; exact (((Below.refl _ w).alloc (Nat.le_refl _) _).alloc (by simp) _).alloc (by simp; omega) _
 have HW1 : Hid (((w.alloc (.cells #[.bool a0, .bool a1, .bool a2, .bool a3, .bool a4, .int .i64 ax] 89)).alloc (.cells #[.bool b0, .bool b1, .bool b2, .bool b3, .bool b4, .int .i64 bx] 89)).alloc (.cells #[.bool false, .bool false, .bool false, .bool false, .bool false, .int .i64 0] 89) = W1) := hW1.symm
 have HL := leastAge_any (⟨a0, a1, a2, a3, a4, ax⟩ : CcD) (⟨b0, b1, b2, b3, b4, bx⟩ : CcD)
 dsimp only [CcD.v] at HL
 obtain ⟨m, hm⟩ : ∃ m, m = leastA (⟨a0, a1, a2, a3, a4, ax⟩ : CcD) (⟨b0, b1, b2, b3, b4, bx⟩ : CcD) := ⟨_, rfl⟩
 rw [← hm] at HL
 have HLL : Hid _ := HL
 have HM : Hid (m = leastA (⟨a0, a1, a2, a3, a4, ax⟩ : CcD) (⟨b0, b1, b2, b3, b4, bx⟩ : CcD)) := hm
 clear hW1 HL hm
 go_enter Tryz.func152, Tryz.ntmps152
 go_upto_region 1 with fail
 rw [HW1.out, ← hH]
 clear hH HW1
 refine wp_region_held_drew (S := fun W => CcAt W H (⟨a0, a1, a2, a3, a4, ax⟩ : CcD) ∧ CcAt W (H + 1) (⟨b0, b1, b2, b3, b4, bx⟩ : CcD) ∧ (∃ c, CcAt W (H + 1 + 1) c) ∧ Below H w W) (by kernel_rfl) ⟨HS1.1, HS1.2.1, ⟨_, HS1.2.2.1⟩, HS1.2.2.2.drew⟩ (fun hHeld => ?_)
 clear HS1
 refine wpAnyH_takeD (i := 0) (v := .pointer (some ⟨H, 0, none⟩)) (some 5) rfl rfl (by kernel_rfl) (by kernel_rfl) (by kernel_rfl) (fun _ _ _ h => h) (Or.inl ⟨by rfl, by intro W hSW; obtain ⟨⟨p0, p1, p2, p3, p4, p5⟩, ⟨r0, r1, r2, r3, r4, r5⟩⟩ := And.intro hSW.1.cells hSW.2.1.cells; dsimp only at p0 p1 p2 p3 p4 p5 r0 r1 r2 r3 r4 r5; go_simp⟩) (by assumption) ?_
 go_frame
 refine wpAnyH_takeD (i := 1) (v := .bool a0) (some 6) rfl rfl (by kernel_rfl) (by kernel_rfl) (by kernel_rfl) (fun _ _ _ h => h) (Or.inl ⟨by rfl, by intro W hSW; obtain ⟨⟨p0, p1, p2, p3, p4, p5⟩, ⟨r0, r1, r2, r3, r4, r5⟩⟩ := And.intro hSW.1.cells hSW.2.1.cells; dsimp only at p0 p1 p2 p3 p4 p5 r0 r1 r2 r3 r4 r5; go_simp⟩) (by assumption) ?_
 go_frame
 refine wpAnyH_takeD (i := 2) (v := .bool a0) (some 7) rfl rfl (by kernel_rfl) (by kernel_rfl) (by kernel_rfl) (fun _ _ _ h => h) (Or.inl ⟨by rfl, by intro W hSW; obtain ⟨⟨p0, p1, p2, p3, p4, p5⟩, ⟨r0, r1, r2, r3, r4, r5⟩⟩ := And.intro hSW.1.cells hSW.2.1.cells; dsimp only at p0 p1 p2 p3 p4 p5 r0 r1 r2 r3 r4 r5; go_simp⟩) (by assumption) ?_
 go_frame
 refine wpAnyH_takeD (i := 3) (v := if (!a0) = true then .pointer (some ⟨H + 1, 0, none⟩) else undef) (some 8) rfl rfl (by kernel_rfl) (by kernel_rfl) (by kernel_rfl) (fun _ _ _ h => h) (yieldsIf_guard (!a0) (by cases a0 <;> rfl) (fun hg => by cases a0 with | true => cases hg | false => (intro W hSW; obtain ⟨⟨p0, p1, p2, p3, p4, p5⟩, ⟨r0, r1, r2, r3, r4, r5⟩⟩ := And.intro hSW.1.cells hSW.2.1.cells; dsimp only at p0 p1 p2 p3 p4 p5 r0 r1 r2 r3 r4 r5; go_simp))) (by assumption) ?_
 go_frame
 refine wpAnyH_takeD (i := 4) (v := if (!a0) = true then .bool b0 else undef) (some 9) rfl rfl (by kernel_rfl) (by kernel_rfl) (by kernel_rfl) (fun _ _ _ h => h) (yieldsIf_guard (!a0) (by cases a0 <;> rfl) (fun hg => by cases a0 with | true => cases hg | false => (intro W hSW; obtain ⟨⟨p0, p1, p2, p3, p4, p5⟩, ⟨r0, r1, r2, r3, r4, r5⟩⟩ := And.intro hSW.1.cells hSW.2.1.cells; dsimp only at p0 p1 p2 p3 p4 p5 r0 r1 r2 r3 r4 r5; go_simp))) (by assumption) ?_
 go_frame
 refine wpAnyH_takeD (i := 5) (v := .bool (a0 || b0)) (some 10) rfl rfl (by kernel_rfl) (by kernel_rfl) (by kernel_rfl) (fun _ _ _ h => h) (Or.inl ⟨by rfl, by intro W hSW; cases a0 <;> go_simp⟩) (by assumption) ?_
 go_frame
 generalize (if (!a0) = true then Value.pointer (some ⟨H + 1, 0, none⟩) else undef) = z0
 generalize (if (!a0) = true then Value.bool b0 else undef) = y0
 refine wpAnyH_takeD (i := 6) (v := .pointer (some ⟨H, 1, none⟩)) (some 11) rfl rfl (by kernel_rfl) (by kernel_rfl) (by kernel_rfl) (fun _ _ _ h => h) (Or.inl ⟨by rfl, by intro W hSW; obtain ⟨⟨p0, p1, p2, p3, p4, p5⟩, ⟨r0, r1, r2, r3, r4, r5⟩⟩ := And.intro hSW.1.cells hSW.2.1.cells; dsimp only at p0 p1 p2 p3 p4 p5 r0 r1 r2 r3 r4 r5; go_simp⟩) (by assumption) ?_
 go_frame
 refine wpAnyH_takeD (i := 7) (v := .bool a1) (some 12) rfl rfl (by kernel_rfl) (by kernel_rfl) (by kernel_rfl) (fun _ _ _ h => h) (Or.inl ⟨by rfl, by intro W hSW; obtain ⟨⟨p0, p1, p2, p3, p4, p5⟩, ⟨r0, r1, r2, r3, r4, r5⟩⟩ := And.intro hSW.1.cells hSW.2.1.cells; dsimp only at p0 p1 p2 p3 p4 p5 r0 r1 r2 r3 r4 r5; go_simp⟩) (by assumption) ?_
 go_frame
 refine wpAnyH_takeD (i := 8) (v := .bool a1) (some 13) rfl rfl (by kernel_rfl) (by kernel_rfl) (by kernel_rfl) (fun _ _ _ h => h) (Or.inl ⟨by rfl, by intro W hSW; obtain ⟨⟨p0, p1, p2, p3, p4, p5⟩, ⟨r0, r1, r2, r3, r4, r5⟩⟩ := And.intro hSW.1.cells hSW.2.1.cells; dsimp only at p0 p1 p2 p3 p4 p5 r0 r1 r2 r3 r4 r5; go_simp⟩) (by assumption) ?_
 go_frame
 refine wpAnyH_takeD (i := 9) (v := if (!a1) = true then .pointer (some ⟨H + 1, 1, none⟩) else undef) (some 14) rfl rfl (by kernel_rfl) (by kernel_rfl) (by kernel_rfl) (fun _ _ _ h => h) (yieldsIf_guard (!a1) (by cases a1 <;> rfl) (fun hg => by cases a1 with | true => cases hg | false => (intro W hSW; obtain ⟨⟨p0, p1, p2, p3, p4, p5⟩, ⟨r0, r1, r2, r3, r4, r5⟩⟩ := And.intro hSW.1.cells hSW.2.1.cells; dsimp only at p0 p1 p2 p3 p4 p5 r0 r1 r2 r3 r4 r5; go_simp))) (by assumption) ?_
 go_frame
 refine wpAnyH_takeD (i := 10) (v := if (!a1) = true then .bool b1 else undef) (some 15) rfl rfl (by kernel_rfl) (by kernel_rfl) (by kernel_rfl) (fun _ _ _ h => h) (yieldsIf_guard (!a1) (by cases a1 <;> rfl) (fun hg => by cases a1 with | true => cases hg | false => (intro W hSW; obtain ⟨⟨p0, p1, p2, p3, p4, p5⟩, ⟨r0, r1, r2, r3, r4, r5⟩⟩ := And.intro hSW.1.cells hSW.2.1.cells; dsimp only at p0 p1 p2 p3 p4 p5 r0 r1 r2 r3 r4 r5; go_simp))) (by assumption) ?_
 go_frame
 refine wpAnyH_takeD (i := 11) (v := .bool (a1 || b1)) (some 16) rfl rfl (by kernel_rfl) (by kernel_rfl) (by kernel_rfl) (fun _ _ _ h => h) (Or.inl ⟨by rfl, by intro W hSW; cases a1 <;> go_simp⟩) (by assumption) ?_
 go_frame
 generalize (if (!a1) = true then Value.pointer (some ⟨H + 1, 1, none⟩) else undef) = z1
 generalize (if (!a1) = true then Value.bool b1 else undef) = y1
 refine wpAnyH_takeD (i := 12) (v := .pointer (some ⟨H, 2, none⟩)) (some 17) rfl rfl (by kernel_rfl) (by kernel_rfl) (by kernel_rfl) (fun _ _ _ h => h) (Or.inl ⟨by rfl, by intro W hSW; obtain ⟨⟨p0, p1, p2, p3, p4, p5⟩, ⟨r0, r1, r2, r3, r4, r5⟩⟩ := And.intro hSW.1.cells hSW.2.1.cells; dsimp only at p0 p1 p2 p3 p4 p5 r0 r1 r2 r3 r4 r5; go_simp⟩) (by assumption) ?_
 go_frame
 refine wpAnyH_takeD (i := 13) (v := .bool a2) (some 18) rfl rfl (by kernel_rfl) (by kernel_rfl) (by kernel_rfl) (fun _ _ _ h => h) (Or.inl ⟨by rfl, by intro W hSW; obtain ⟨⟨p0, p1, p2, p3, p4, p5⟩, ⟨r0, r1, r2, r3, r4, r5⟩⟩ := And.intro hSW.1.cells hSW.2.1.cells; dsimp only at p0 p1 p2 p3 p4 p5 r0 r1 r2 r3 r4 r5; go_simp⟩) (by assumption) ?_
 go_frame
 refine wpAnyH_takeD (i := 14) (v := .bool a2) (some 19) rfl rfl (by kernel_rfl) (by kernel_rfl) (by kernel_rfl) (fun _ _ _ h => h) (Or.inl ⟨by rfl, by intro W hSW; obtain ⟨⟨p0, p1, p2, p3, p4, p5⟩, ⟨r0, r1, r2, r3, r4, r5⟩⟩ := And.intro hSW.1.cells hSW.2.1.cells; dsimp only at p0 p1 p2 p3 p4 p5 r0 r1 r2 r3 r4 r5; go_simp⟩) (by assumption) ?_
 go_frame
 refine wpAnyH_takeD (i := 15) (v := if (!a2) = true then .pointer (some ⟨H + 1, 2, none⟩) else undef) (some 20) rfl rfl (by kernel_rfl) (by kernel_rfl) (by kernel_rfl) (fun _ _ _ h => h) (yieldsIf_guard (!a2) (by cases a2 <;> rfl) (fun hg => by cases a2 with | true => cases hg | false => (intro W hSW; obtain ⟨⟨p0, p1, p2, p3, p4, p5⟩, ⟨r0, r1, r2, r3, r4, r5⟩⟩ := And.intro hSW.1.cells hSW.2.1.cells; dsimp only at p0 p1 p2 p3 p4 p5 r0 r1 r2 r3 r4 r5; go_simp))) (by assumption) ?_
 go_frame
 refine wpAnyH_takeD (i := 16) (v := if (!a2) = true then .bool b2 else undef) (some 21) rfl rfl (by kernel_rfl) (by kernel_rfl) (by kernel_rfl) (fun _ _ _ h => h) (yieldsIf_guard (!a2) (by cases a2 <;> rfl) (fun hg => by cases a2 with | true => cases hg | false => (intro W hSW; obtain ⟨⟨p0, p1, p2, p3, p4, p5⟩, ⟨r0, r1, r2, r3, r4, r5⟩⟩ := And.intro hSW.1.cells hSW.2.1.cells; dsimp only at p0 p1 p2 p3 p4 p5 r0 r1 r2 r3 r4 r5; go_simp))) (by assumption) ?_
 go_frame
 refine wpAnyH_takeD (i := 17) (v := .bool (a2 || b2)) (some 22) rfl rfl (by kernel_rfl) (by kernel_rfl) (by kernel_rfl) (fun _ _ _ h => h) (Or.inl ⟨by rfl, by intro W hSW; cases a2 <;> go_simp⟩) (by assumption) ?_
 go_frame
 generalize (if (!a2) = true then Value.pointer (some ⟨H + 1, 2, none⟩) else undef) = z2
 generalize (if (!a2) = true then Value.bool b2 else undef) = y2
 refine wpAnyH_takeD (i := 18) (v := .pointer (some ⟨H, 3, none⟩)) (some 23) rfl rfl (by kernel_rfl) (by kernel_rfl) (by kernel_rfl) (fun _ _ _ h => h) (Or.inl ⟨by rfl, by intro W hSW; obtain ⟨⟨p0, p1, p2, p3, p4, p5⟩, ⟨r0, r1, r2, r3, r4, r5⟩⟩ := And.intro hSW.1.cells hSW.2.1.cells; dsimp only at p0 p1 p2 p3 p4 p5 r0 r1 r2 r3 r4 r5; go_simp⟩) (by assumption) ?_
 go_frame
 refine wpAnyH_takeD (i := 19) (v := .bool a3) (some 24) rfl rfl (by kernel_rfl) (by kernel_rfl) (by kernel_rfl) (fun _ _ _ h => h) (Or.inl ⟨by rfl, by intro W hSW; obtain ⟨⟨p0, p1, p2, p3, p4, p5⟩, ⟨r0, r1, r2, r3, r4, r5⟩⟩ := And.intro hSW.1.cells hSW.2.1.cells; dsimp only at p0 p1 p2 p3 p4 p5 r0 r1 r2 r3 r4 r5; go_simp⟩) (by assumption) ?_
 go_frame
 refine wpAnyH_takeD (i := 20) (v := .bool a3) (some 25) rfl rfl (by kernel_rfl) (by kernel_rfl) (by kernel_rfl) (fun _ _ _ h => h) (Or.inl ⟨by rfl, by intro W hSW; obtain ⟨⟨p0, p1, p2, p3, p4, p5⟩, ⟨r0, r1, r2, r3, r4, r5⟩⟩ := And.intro hSW.1.cells hSW.2.1.cells; dsimp only at p0 p1 p2 p3 p4 p5 r0 r1 r2 r3 r4 r5; go_simp⟩) (by assumption) ?_
 go_frame
 refine wpAnyH_takeD (i := 21) (v := if (!a3) = true then .pointer (some ⟨H + 1, 3, none⟩) else undef) (some 26) rfl rfl (by kernel_rfl) (by kernel_rfl) (by kernel_rfl) (fun _ _ _ h => h) (yieldsIf_guard (!a3) (by cases a3 <;> rfl) (fun hg => by cases a3 with | true => cases hg | false => (intro W hSW; obtain ⟨⟨p0, p1, p2, p3, p4, p5⟩, ⟨r0, r1, r2, r3, r4, r5⟩⟩ := And.intro hSW.1.cells hSW.2.1.cells; dsimp only at p0 p1 p2 p3 p4 p5 r0 r1 r2 r3 r4 r5; go_simp))) (by assumption) ?_
 go_frame
 refine wpAnyH_takeD (i := 22) (v := if (!a3) = true then .bool b3 else undef) (some 27) rfl rfl (by kernel_rfl) (by kernel_rfl) (by kernel_rfl) (fun _ _ _ h => h) (yieldsIf_guard (!a3) (by cases a3 <;> rfl) (fun hg => by cases a3 with | true => cases hg | false => (intro W hSW; obtain ⟨⟨p0, p1, p2, p3, p4, p5⟩, ⟨r0, r1, r2, r3, r4, r5⟩⟩ := And.intro hSW.1.cells hSW.2.1.cells; dsimp only at p0 p1 p2 p3 p4 p5 r0 r1 r2 r3 r4 r5; go_simp))) (by assumption) ?_
 go_frame
 refine wpAnyH_takeD (i := 23) (v := .bool (a3 || b3)) (some 28) rfl rfl (by kernel_rfl) (by kernel_rfl) (by kernel_rfl) (fun _ _ _ h => h) (Or.inl ⟨by rfl, by intro W hSW; cases a3 <;> go_simp⟩) (by assumption) ?_
 go_frame
 generalize (if (!a3) = true then Value.pointer (some ⟨H + 1, 3, none⟩) else undef) = z3
 generalize (if (!a3) = true then Value.bool b3 else undef) = y3
 refine wpAnyH_takeD (i := 24) (v := .pointer (some ⟨H, 4, none⟩)) (some 29) rfl rfl (by kernel_rfl) (by kernel_rfl) (by kernel_rfl) (fun _ _ _ h => h) (Or.inl ⟨by rfl, by intro W hSW; obtain ⟨⟨p0, p1, p2, p3, p4, p5⟩, ⟨r0, r1, r2, r3, r4, r5⟩⟩ := And.intro hSW.1.cells hSW.2.1.cells; dsimp only at p0 p1 p2 p3 p4 p5 r0 r1 r2 r3 r4 r5; go_simp⟩) (by assumption) ?_
 go_frame
 refine wpAnyH_takeD (i := 25) (v := .bool a4) (some 30) rfl rfl (by kernel_rfl) (by kernel_rfl) (by kernel_rfl) (fun _ _ _ h => h) (Or.inl ⟨by rfl, by intro W hSW; obtain ⟨⟨p0, p1, p2, p3, p4, p5⟩, ⟨r0, r1, r2, r3, r4, r5⟩⟩ := And.intro hSW.1.cells hSW.2.1.cells; dsimp only at p0 p1 p2 p3 p4 p5 r0 r1 r2 r3 r4 r5; go_simp⟩) (by assumption) ?_
 go_frame
 refine wpAnyH_takeD (i := 26) (v := .bool a4) (some 31) rfl rfl (by kernel_rfl) (by kernel_rfl) (by kernel_rfl) (fun _ _ _ h => h) (Or.inl ⟨by rfl, by intro W hSW; obtain ⟨⟨p0, p1, p2, p3, p4, p5⟩, ⟨r0, r1, r2, r3, r4, r5⟩⟩ := And.intro hSW.1.cells hSW.2.1.cells; dsimp only at p0 p1 p2 p3 p4 p5 r0 r1 r2 r3 r4 r5; go_simp⟩) (by assumption) ?_
 go_frame
 refine wpAnyH_takeD (i := 27) (v := if (!a4) = true then .pointer (some ⟨H + 1, 4, none⟩) else undef) (some 32) rfl rfl (by kernel_rfl) (by kernel_rfl) (by kernel_rfl) (fun _ _ _ h => h) (yieldsIf_guard (!a4) (by cases a4 <;> rfl) (fun hg => by cases a4 with | true => cases hg | false => (intro W hSW; obtain ⟨⟨p0, p1, p2, p3, p4, p5⟩, ⟨r0, r1, r2, r3, r4, r5⟩⟩ := And.intro hSW.1.cells hSW.2.1.cells; dsimp only at p0 p1 p2 p3 p4 p5 r0 r1 r2 r3 r4 r5; go_simp))) (by assumption) ?_
 go_frame
 refine wpAnyH_takeD (i := 28) (v := if (!a4) = true then .bool b4 else undef) (some 33) rfl rfl (by kernel_rfl) (by kernel_rfl) (by kernel_rfl) (fun _ _ _ h => h) (yieldsIf_guard (!a4) (by cases a4 <;> rfl) (fun hg => by cases a4 with | true => cases hg | false => (intro W hSW; obtain ⟨⟨p0, p1, p2, p3, p4, p5⟩, ⟨r0, r1, r2, r3, r4, r5⟩⟩ := And.intro hSW.1.cells hSW.2.1.cells; dsimp only at p0 p1 p2 p3 p4 p5 r0 r1 r2 r3 r4 r5; go_simp))) (by assumption) ?_
 go_frame
 refine wpAnyH_takeD (i := 29) (v := .bool (a4 || b4)) (some 34) rfl rfl (by kernel_rfl) (by kernel_rfl) (by kernel_rfl) (fun _ _ _ h => h) (Or.inl ⟨by rfl, by intro W hSW; cases a4 <;> go_simp⟩) (by assumption) ?_
 go_frame
 generalize (if (!a4) = true then Value.pointer (some ⟨H + 1, 4, none⟩) else undef) = z4
 generalize (if (!a4) = true then Value.bool b4 else undef) = y4
 refine wpAnyH_takeD (i := 30) (v := .agg #[.bool a0, .bool a1, .bool a2, .bool a3, .bool a4, .int .i64 ax]) (some 35) rfl rfl (by kernel_rfl) (by kernel_rfl) (by kernel_rfl) (fun _ _ _ h => h) (Or.inl ⟨by rfl, by intro W hSW; obtain ⟨⟨p0, p1, p2, p3, p4, p5⟩, ⟨r0, r1, r2, r3, r4, r5⟩⟩ := And.intro hSW.1.cells hSW.2.1.cells; dsimp only at p0 p1 p2 p3 p4 p5 r0 r1 r2 r3 r4 r5; go_simp⟩) (by assumption) ?_
 go_frame
 refine wpAnyH_takeD (i := 31) (v := .agg #[.bool b0, .bool b1, .bool b2, .bool b3, .bool b4, .int .i64 bx]) (some 36) rfl rfl (by kernel_rfl) (by kernel_rfl) (by kernel_rfl) (fun _ _ _ h => h) (Or.inl ⟨by rfl, by intro W hSW; obtain ⟨⟨p0, p1, p2, p3, p4, p5⟩, ⟨r0, r1, r2, r3, r4, r5⟩⟩ := And.intro hSW.1.cells hSW.2.1.cells; dsimp only at p0 p1 p2 p3 p4 p5 r0 r1 r2 r3 r4 r5; go_simp⟩) (by assumption) ?_
 go_frame
 refine rd1 32 rfl (fun K hK => ?_)
 go_simp
 refine (HLL.out _).mono ?_
 rintro e w2 ⟨rfl, bt⟩
 have hS2 : CcAt w2 H (⟨a0, a1, a2, a3, a4, ax⟩ : CcD) ∧ CcAt w2 (H + 1) (⟨b0, b1, b2, b3, b4, bx⟩ : CcD) ∧ (∃ c, CcAt w2 (H + 1 + 1) c) ∧ Below H w w2 :=
  ⟨hHeld.1.same (bt.block _ hHeld.1.lt), hHeld.2.1.same (bt.block _ hHeld.2.1.lt), hHeld.2.2.1.imp fun _ h => h.same (bt.block _ h.lt), hHeld.2.2.2.trans (bt.mono (Nat.le_of_lt hHeld.1.lt))⟩
 refine hK.out _ _ hS2 (fun hHeld2 => ?_)
 clear hK K hHeld bt hHeld2
 refine tkL 33 (.agg #[.bool (a0 || b0), .bool (a1 || b1), .bool (a2 || b2), .bool (a3 || b3), .bool (a4 || b4), .int .i64 m]) 38 rfl rfl (Or.inl ⟨by rfl, by intro W hSW; clear hSW; go_simp⟩) hS2 ?_
 go_frame
 refine rd1 34 rfl (fun K hK => ?_)
 obtain ⟨z, hz⟩ := hS2.2.2.1
 obtain ⟨r0, r1, r2, r3, r4, r5⟩ := hz.cells
 have f0 := hz.frozen 0
 have f1 := hz.frozen 1
 have f2 := hz.frozen 2
 have f3 := hz.frozen 3
 have f4 := hz.frozen 4
 have f5 := hz.frozen 5
 obtain ⟨c, hc⟩ : ∃ c : CcD, c = ⟨a0 || b0, a1 || b1, a2 || b2, a3 || b3, a4 || b4, m⟩ := ⟨_, rfl⟩
 have HC : Hid (c = toge (⟨a0, a1, a2, a3, a4, ax⟩ : CcD) (⟨b0, b1, b2, b3, b4, bx⟩ : CcD)) := by show _ = _; rw [hc, HM.out]; rfl
 have HP : Hid (CcAt (putCc w2 (H + 1 + 1) c) (H + 1 + 1) c) := hz.putAll c
 have HB : Hid (Below H w (putCc w2 (H + 1 + 1) c)) := below_putCc hS2.2.2.2 (by omega) c
 have HS3 : Hid (CcAt (putCc w2 (H + 1 + 1) c) H (⟨a0, a1, a2, a3, a4, ax⟩ : CcD) ∧ CcAt (putCc w2 (H + 1 + 1) c) (H + 1) (⟨b0, b1, b2, b3, b4, bx⟩ : CcD)) :=
  ⟨hS2.1.same (putCc_other (by omega)), hS2.2.1.same (putCc_other (by omega))⟩
 have HPC : Hid (putCc w2 (H + 1 + 1) c = (((((w2.setCell ⟨H + 1 + 1, 0, none⟩ (.bool (a0 || b0))).setCell ⟨H + 1 + 1, 1, none⟩ (.bool (a1 || b1))).setCell ⟨H + 1 + 1, 2, none⟩ (.bool (a2 || b2))).setCell ⟨H + 1 + 1, 3, none⟩ (.bool (a3 || b3))).setCell ⟨H + 1 + 1, 4, none⟩ (.bool (a4 || b4))).setCell ⟨H + 1 + 1, 5, none⟩ (.int .i64 m)) := by show _ = _; rw [hc]; rfl
 clear hS2 hz hc
 go_simp
 rw [← HPC.out]
 obtain ⟨w3, hw3⟩ := exq (putCc w2 (H + 1 + 1) c)
 rw [← hw3] at HP HB HS3 ⊢
 clear hw3 HPC r0 r1 r2 r3 r4 r5 f0 f1 f2 f3 f4 f5
 refine hK.out _ _ ⟨HS3.out.1, HS3.out.2, ⟨_, HP.out⟩, HB.out⟩ (fun _ => ?_)
 clear hK K
 refine wpAnyH_done (by kernel_rfl) ?_ _
 obtain ⟨m0, m1, m2, m3, m4, m5⟩ := HP.out.cells
 go_wp2_with fail
 refine bodyPost_ret (v := c.v) (by simp [results, Tryz.results152, go_sem, m0, m1, m2, m3, m4, m5, CcD.v]) rfl ?_
 exact ⟨by rw [HC.out], by rw [HW.out]; exact HB.out⟩
end Go.Proofs.YtmcmeeibogkpaaaGreatDoorR
namespace Go.Proofs.YtmcmeeibogkpaaaGreatDoorR
open Go.RowKit
open Go.Lib hiding intOf
/-- A call on the cursor answers an answer. -/
def RespDrawn (bmax : Nat) (w : World) (c : Nat) (a : Option Addr) (len cap : Nat) (e : Ending) (w' : World) : Prop :=
 ∃ (m : Int) (v : Value) (fs : List (ByteArray × ByteArray)) (b : ByteArray), e = .returned (.agg #[.int .i64 m, v, .string b]) ∧ (-1000 ≤ m ∧ m ≤ 1000) ∧ w'.ownsRow w.heap.size 74 2 v fs.length (flatF fs) ∧ fs.length ≤ 40 ∧ ShortF fs ∧ b.size ≤ bmax ∧ CurAt w' c a len cap ∧ w.grownBy w' (some c)
/-- While it is drawn: the answer's memory R, the variable r. -/
structure DResp (w : World) (c R r : Nat) (m : Int) (fv : Value) (fs : List (ByteArray × ByteArray)) (b : ByteArray) (a : Option Addr) (len cap : Nat) (W : World) : Prop where
 hR : W.heap[R]? = some (.cells #[.int .i64 0, .slice none 0 0, .string ⟨#[]⟩] 29)
 hr : W.heap[r]? = some (.cells #[.int .i64 m, fv, .string b] 29)
 own : W.ownsRow w.heap.size 74 2 fv fs.length (flatF fs)
 cur : CurAt W c a len cap
 grow : w.grownBy W (some c)
 apart : ∀ j, fv.ownBlock = some j → j ≠ R ∧ j ≠ r
theorem DResp.later {w : World} {c R r : Nat} {m : Int} {fv : Value} {fs : List (ByteArray × ByteArray)} {b : ByteArray} {a : Option Addr} {len cap : Nat} {W : World} {W' : World} (h : DResp w c R r m fv fs b a len cap W) (hcw : c < w.heap.size) (hRw : w.heap.size ≤ R) (hrw : w.heap.size ≤ r) (hcu : CurAt W' c a len cap) (hg : W.grownBy W' (some c)) : DResp w c R r m fv fs b a len cap W' := by
 refine ⟨?_, ?_, ?_, hcu, grownBy_trans h.grow hg, h.apart⟩
 · rw [hg.block R ((Array.getElem?_eq_some_iff.1 h.hR).1) (fun e => by have := Option.some.inj e; omega)]; exact h.hR
 · rw [hg.block r ((Array.getElem?_eq_some_iff.1 h.hr).1) (fun e => by have := Option.some.inj e; omega)]; exact h.hr
 · exact h.own.kept hg (by cases h2 : fv.ownBlock <;> simp; exact fun e => by have h7 := owns_ge h.own h2; omega)
theorem DResp.setStatus {w : World} {c R r : Nat} {m : Int} {fv : Value} {fs : List (ByteArray × ByteArray)} {b : ByteArray} {a : Option Addr} {len cap : Nat} {W : World} {m' : Int} (h : DResp w c R r m fv fs b a len cap W) (hcw : c < w.heap.size) (hrw : w.heap.size ≤ r) (hrR : R ≠ r) : DResp w c R r m' fv fs b a len cap (W.setCell ⟨r, 0, none⟩ (.int .i64 m')) := by
 refine ⟨?_, ?_, ?_, ?_, grown_later h.grow (grown_set W r 0 _) (fun g e => by cases e; exact hrw), h.apart⟩
 · rw [heap_setCell_other _ _ R _ (fun e => hrR e)]; exact h.hR
 ·
  have := heap_set W r 0 _ _ _ (.int .i64 m') h.hr
  simpa using this
 · exact h.own.kept (grown_set W r 0 _) (by cases h3 : fv.ownBlock <;> simp; exact (h.apart _ h3).2)
 ·
  obtain ⟨i, hh, hi, h4⟩ := h.cur
  refine ⟨i, hh, hi, ?_⟩
  rw [heap_setCell_other _ _ c _ (fun e => by have e2 : c = r := e; omega)]
  exact h4
theorem DResp.setFields {w : World} {c R r : Nat} {m : Int} {fv : Value} {fs : List (ByteArray × ByteArray)} {b : ByteArray} {a : Option Addr} {len cap : Nat} {W : World} {gv : Value} {gs : List (ByteArray × ByteArray)} (h : DResp w c R r m fv fs b a len cap W) (hcw : c < w.heap.size) (hrw : w.heap.size ≤ r) (hrR : R ≠ r) (hown : W.ownsRow w.heap.size 74 2 gv gs.length (flatF gs)) : DResp w c R r m gv gs b a len cap (W.setCell ⟨r, 1, none⟩ (gv)) := by
 have hap : ∀ j, gv.ownBlock = some j → j ≠ R ∧ j ≠ r := fun j hj => by
  obtain ⟨cur, hcj⟩ := owns_heap hown hj
  refine ⟨fun e => ?_, fun e => ?_⟩
  ·
   rw [e, h.hR] at hcj
   simp at hcj
  ·
   rw [e, h.hr] at hcj
   simp at hcj
 refine ⟨?_, ?_, ?_, ?_, grown_later h.grow (grown_set W r 1 _) (fun g e => by cases e; exact hrw), hap⟩
 · rw [heap_setCell_other _ _ R _ (fun e => hrR e)]; exact h.hR
 ·
  have := heap_set W r 1 _ _ _ (gv) h.hr
  simpa using this
 · exact hown.kept (grown_set W r 1 _) (by cases h3 : gv.ownBlock <;> simp; exact (hap _ h3).2)
 ·
  obtain ⟨i, hh, hi, h4⟩ := h.cur
  refine ⟨i, hh, hi, ?_⟩
  rw [heap_setCell_other _ _ c _ (fun e => by have e2 : c = r := e; omega)]
  exact h4
theorem DResp.setBody {w : World} {c R r : Nat} {m : Int} {fv : Value} {fs : List (ByteArray × ByteArray)} {b : ByteArray} {a : Option Addr} {len cap : Nat} {W : World} {b' : ByteArray} (h : DResp w c R r m fv fs b a len cap W) (hcw : c < w.heap.size) (hrw : w.heap.size ≤ r) (hrR : R ≠ r) : DResp w c R r m fv fs b' a len cap (W.setCell ⟨r, 2, none⟩ (.string b')) := by
 refine ⟨?_, ?_, ?_, ?_, grown_later h.grow (grown_set W r 2 _) (fun g e => by cases e; exact hrw), h.apart⟩
 · rw [heap_setCell_other _ _ R _ (fun e => hrR e)]; exact h.hR
 ·
  have := heap_set W r 2 _ _ _ (.string b') h.hr
  simpa using this
 · exact h.own.kept (grown_set W r 2 _) (by cases h3 : fv.ownBlock <;> simp; exact (h.apart _ h3).2)
 ·
  obtain ⟨i, hh, hi, h4⟩ := h.cur
  refine ⟨i, hh, hi, ?_⟩
  rw [heap_setCell_other _ _ c _ (fun e => by have e2 : c = r := e; omega)]
  exact h4
/-- The answer handed back. -/
theorem DResp.fin {w : World} {c R r : Nat} {m : Int} {fv : Value} {fs : List (ByteArray × ByteArray)} {b : ByteArray} {a : Option Addr} {len cap : Nat} {W : World} (h : DResp w c R r m fv fs b a len cap W) (hcw : c < w.heap.size) (hRw : w.heap.size ≤ R) (hm : -1000 ≤ m ∧ m ≤ 1000) (hf : fs.length ≤ 40) (hsh : ShortF fs) {bmax : Nat} (hb : b.size ≤ bmax) :
  (threeSet W R (.int .i64 m) fv (.string b)).heap[R]? = some (.cells #[.int .i64 m, fv, .string b] 29) ∧ RespDrawn bmax w c a len cap (.returned (.agg #[.int .i64 m, fv, .string b])) (threeSet W R (.int .i64 m) fv (.string b)) := by
 have hg : W.grownBy (threeSet W R (.int .i64 m) fv (.string b)) (some R) := by
  unfold threeSet
  exact grown_then (grown_then (grown_set _ _ _ _) (grown_set _ _ _ _)) (grown_set _ _ _ _)
 refine ⟨three_set h.hR _ _ _, m, fv, fs, b, rfl, hm, ?_, hf, hsh, hb, ?_, grown_later h.grow hg (fun g e => by cases e; exact hRw)⟩
 · exact h.own.kept hg (by cases h3 : fv.ownBlock <;> simp; exact (h.apart _ h3).1)
 ·
  obtain ⟨i, hh, hi, h4⟩ := h.cur
  refine ⟨i, hh, hi, ?_⟩
  rw [hg.block c (Array.getElem?_eq_some_iff.1 h4).1 (fun e => by have := Option.some.inj e; omega)]
  exact h4
/-- How long the body is that lies there. -/
def bodyLenP (r : Nat) (W : World) : Nat := match W.cell? ⟨r, 2, none⟩ with | some (.string t) => t.size | _ => 0
theorem l3DrawResp_any (c B : Nat) (a : Option Addr) (len cap : Nat) (zs : List Int) (w : World) (hcur : CurAt w c a len cap) (hcode : CodeAt w B a len zs) (hB : B ≤ c) :
  Calls Tryz.prog 122 #[.pointer (some ⟨c, 0, none⟩)] w fun e w' => RespDrawn 14 w c a len cap e w' := by
 have hcw := hcur.lt
 have HCO : Hid (∀ W, w.grownBy W (some c) → CodeAt W B a len zs) := fun W h => hcode.grown h hB
 obtain ⟨R, hR⟩ := exq (w.heap.size)
 have hg0 : w.grownBy (w.alloc (.cells #[.int .i64 0, .slice none 0 0, .string ⟨#[]⟩] 29)) (some c) := World.grownBy_alloc w _ _
 have hcu0 := hcur.below ((Below.refl _ w).alloc (Nat.le_refl _) (.cells #[.int .i64 0, .slice none 0 0, .string ⟨#[]⟩] 29)) hcw
 have hco0 := HCO.out _ hg0
 have hz0' : (w.alloc (.cells #[.int .i64 0, .slice none 0 0, .string ⟨#[]⟩] 29)).heap[R]? = some (.cells #[.int .i64 0, .slice none 0 0, .string ⟨#[]⟩] 29) := by rw [hR]; exact heap_alloc_new w _
 have hRlt : R < (w.alloc (.cells #[.int .i64 0, .slice none 0 0, .string ⟨#[]⟩] 29)).heap.size := by rw [hR]; simp
 have hRc : R ≠ c := by omega
 have hRw : w.heap.size ≤ R := by omega
 have HRE : Hid (R = w.heap.size) := hR
 obtain ⟨w0, hw0⟩ := exq (w.alloc (.cells #[.int .i64 0, .slice none 0 0, .string ⟨#[]⟩] 29))
 have HW0 : Hid (w0 = w.alloc (.cells #[.int .i64 0, .slice none 0 0, .string ⟨#[]⟩] 29)) := hw0
 have HS0 : Hid (w0.heap.size = w.heap.size + 1) := by show _ = _; rw [hw0]; simp
 rw [← hw0] at hg0 hcu0 hco0 hz0' hRlt
 clear hcur hcode hR hw0
 go_enter Tryz.func122, Tryz.ntmps122
 go_wp2_with fail
 rw [← HW0.out, ← HS0.out]
 refine (pickInt_new c B [200, 200, 200, 200, 404, 500, 304] 200 500 (by decide) a len cap zs w0 hcu0 hco0 hB (by decide) (by decide)).mono ?_
 rintro e w1 ⟨m, rfl, hm1, hm2, hcu1, hg1⟩
 have hm : -1000 ≤ m ∧ m ≤ 1000 := by omega
 have hga1 := grownBy_trans hg0 hg1
 have hz1' : w1.heap[R]? = some (.cells #[.int .i64 0, .slice none 0 0, .string ⟨#[]⟩] 29) := by rw [hg1.block R hRlt (fun e => hRc (Option.some.inj e))]; exact hz0'
 have hR1 : R < w1.heap.size := (Array.getElem?_eq_some_iff.1 hz1').1
 clear hg0 hg1 hcu0 hco0 hz0' hRlt
 go_wp2_with fail
 refine (l2DrawRight_any c B a len cap zs _ hcu1 (HCO.out _ hga1) hB).mono ?_
 rintro e w2 ⟨fv, fs, rfl, hown, hfl, hsh, hcu2, hg2⟩
 obtain ⟨fo, fc, rfl⟩ := slice_of_owns hown
 have hga2 := grownBy_trans hga1 hg2
 have hz2' : w2.heap[R]? = some (.cells #[.int .i64 0, .slice none 0 0, .string ⟨#[]⟩] 29) := by rw [hg2.block R hR1 (fun e => hRc (Option.some.inj e))]; exact hz1'
 have hR2 : R < w2.heap.size := (Array.getElem?_eq_some_iff.1 hz2').1
 have HOWN : Hid (w2.ownsRow w1.heap.size 74 2 (.slice fo fs.length fc) fs.length (flatF fs)) := hown
 have HSZ1 : Hid (w.heap.size ≤ w1.heap.size ∧ R < w1.heap.size ∧ c < w1.heap.size) := ⟨hga1.size, hR1, hcu1.lt⟩
 clear hg2 hga1 hcu1 hz1' hR1 hown
 go_wp2_with fail
 refine (l3DrawBody_any c B a len cap zs _ hcu2 (HCO.out _ hga2) hB).mono ?_
 rintro e w3 ⟨b, rfl, hb, hcu3, hg3⟩
 have hga3 := grownBy_trans hga2 hg3
 have hz3' : w3.heap[R]? = some (.cells #[.int .i64 0, .slice none 0 0, .string ⟨#[]⟩] 29) := by rw [hg3.block R hR2 (fun e => hRc (Option.some.inj e))]; exact hz2'
 have hR3 : R < w3.heap.size := (Array.getElem?_eq_some_iff.1 hz3').1
 have HOWN3 : Hid (w3.ownsRow w1.heap.size 74 2 (.slice fo fs.length fc) fs.length (flatF fs)) := owns_grown HOWN.out hg3 HSZ1.out.2.2
 rw [← HRE.out]
 have hs1 := HSZ1.out
 clear hg3 hga2 hcu2 hz2' hR2 HOWN
 obtain ⟨r, hr⟩ := exq (w3.heap.size)
 have hrw : w.heap.size ≤ r := by rw [hr]; exact hga3.size
 have hrR : R ≠ r := by omega
 have HD0 : Hid (DResp w c R r m (.slice fo fs.length fc) fs b a len cap (w3.alloc (.cells #[.int .i64 m, .slice fo fs.length fc, .string b] 29))) := by
  have hgal : w3.grownBy (w3.alloc (.cells #[.int .i64 m, .slice fo fs.length fc, .string b] 29)) (some c) := World.grownBy_alloc w3 _ _
  refine ⟨?_, by rw [hr]; exact heap_alloc_new w3 _, (owns_wide HOWN3.out (by omega)).alloc _, hcu3.below ((Below.refl _ w3).alloc (Nat.le_refl _) _) hcu3.lt, grownBy_trans hga3 hgal, fun j hj => ⟨by have := owns_ge HOWN3.out hj; omega, by have := owns_lt HOWN3.out hj; omega⟩⟩
  rw [hgal.block R hR3 (fun e => hRc (Option.some.inj e))]; exact hz3'
 have HR' : Hid (r = w3.heap.size) := hr
 obtain ⟨wv, hwv⟩ := exq (w3.alloc (.cells #[.int .i64 m, .slice fo fs.length fc, .string b] 29))
 have HWV : Hid (wv = w3.alloc (.cells #[.int .i64 m, .slice fo fs.length fc, .string b] 29)) := hwv
 rw [← hwv] at HD0
 clear hr hz3' hR3 hcu3 hga3 hwv HOWN3 HSZ1 hs1
 go_upto_region 2 with fail
 rw [← HR'.out, ← HWV.out]
 go_wp2_with fail
 refine (l1Once_any c B 2 a len cap zs _ HD0.out.cur (HCO.out _ HD0.out.grow) hB (by omega) (by omega)).mono ?_
 rintro e wx ⟨hbb, hcux, hgx⟩
 obtain ⟨bb, rfl⟩ := hbb.out
 have HDX0 : Hid (DResp w c R r m (.slice fo fs.length fc) fs b a len cap wx) := HD0.out.later hcw hRw hrw hcux hgx
 clear hbb hcux hgx HD0 HWV HR' HW0 HS0 HRE
 cases bb with
 | false =>
  obtain ⟨⟨c0, c1, c2⟩, f0, f1, f2⟩ := three_facts HDX0.out.hr
  obtain ⟨⟨d0, d1, d2⟩, g0, g1, g2⟩ := three_facts HDX0.out.hR
  obtain ⟨hh, hfin⟩ := HDX0.out.fin (bmax := 14) hcw hRw hm (by omega) hsh (by omega)
  obtain ⟨⟨k0, k1, k2⟩, _⟩ := three_facts hh
  have HFIN : Hid _ := hfin
  unfold threeSet at k0 k1 k2
  clear hh hfin
  go_wp2_with fail
  exact bodyPost_ret (v := .agg #[.int .i64 m, (.slice fo fs.length fc), .string b]) (by simp [results, Tryz.results122, go_sem, k0, k1, k2]) rfl HFIN.out
 | true =>
  have HDX : Hid (DResp w c R r m (.slice fo fs.length fc) fs b a len cap wx.drew) := HDX0.out.later hcw hRw hrw HDX0.out.cur (grown_below ((Below.refl _ wx).drew) _)
  clear HDX0
  go_upto_region 3 with fail
  obtain ⟨wy, hwy⟩ := exq wx.drew
  refine wp_region_held_drew (S := fun _ => True) (by kernel_rfl) trivial (fun _ => ?_)
  rw [← hwy]
  rw [← hwy] at HDX
  clear hwy
  refine wpAnyH_takeD (i := 0) (v := .pointer (some ⟨r, 1, none⟩)) (some 14) rfl rfl (by kernel_rfl) (by kernel_rfl) (by kernel_rfl) (fun _ _ _ h => h) (Or.inl ⟨by rfl, by intro W _; go_simp⟩) trivial ?_
  go_frame
  refine wpAnyH_takeD (i := 2) (v := .pointer (some ⟨c, 0, none⟩)) (some 16) rfl rfl (by kernel_rfl) (by kernel_rfl) (by kernel_rfl) (fun _ _ _ h => h) (Or.inl ⟨by rfl, by intro W _; go_simp⟩) trivial ?_
  go_frame
  refine wpAnyH_ready (rs := [1, 3]) (by kernel_rfl) (by simp) ?_
  refine AllReadyH.cons rfl (fun K hK => ?_) (AllReadyH.cons rfl (fun K hK => ?_) AllReadyH.nil)
  ·
   obtain ⟨⟨c0, c1, c2⟩, f0, f1, f2⟩ := three_facts HDX.out.hr
   go_simp
   refine hK.out _ _ trivial (fun _ => ?_)
   clear hK K c0 c1 c2 f0 f1 f2
   refine rd1 3 rfl (fun K hK => ?_)
   go_simp
   refine hK.out _ _ trivial (fun _ => ?_)
   clear hK K
   refine rd1 4 rfl (fun K hK => ?_)
   go_simp
   refine (pick_new c B [⟨#[109, 97, 120, 45, 97, 103, 101, 61, 53]⟩, ⟨#[109, 97, 120, 45, 97, 103, 101, 61, 50, 48]⟩, ⟨#[109, 97, 120, 45, 97, 103, 101, 61, 57]⟩] 10 (by decide) a len cap zs wy HDX.out.cur (HCO.out _ HDX.out.grow) hB (by decide) (by decide)).mono ?_
   rintro e wb ⟨t, rfl, hts, hcub, hgb⟩
   have HDB : Hid (DResp w c R r m (.slice fo fs.length fc) fs b a len cap wb) := HDX.out.later hcw hRw hrw hcub hgb
   refine hK.out _ _ trivial (fun _ => ?_)
   clear hK K hcub hgb
   obtain ⟨⟨c0, c1, c2⟩, f0, f1, f2⟩ := three_facts HDB.out.hr
   refine rd1 5 rfl (fun K hK => ?_)
   go_simp
   refine (specPut_any _ fs.length w.heap.size fs ⟨#[99, 97, 99, 104, 101, 45, 99, 111, 110, 116, 114, 111, 108]⟩ t _ (FieldsV.of_owns HDB.out.own) (by omega)).mono ?_
   rintro e wd ⟨zv, rfl, ownz, bd⟩
   obtain ⟨oz, cz, rfl⟩ := slice_of_owns ownz
   have HDD : Hid (DResp w c R r m (.slice fo fs.length fc) fs b a len cap wd) := HDB.out.later hcw hRw hrw (HDB.out.cur.below bd HDB.out.cur.lt) (grown_below bd _)
   have HDE : Hid (DResp w c R r m (.slice oz (putF fs ⟨#[99, 97, 99, 104, 101, 45, 99, 111, 110, 116, 114, 111, 108]⟩ t).length cz) (putF fs ⟨#[99, 97, 99, 104, 101, 45, 99, 111, 110, 116, 114, 111, 108]⟩ t) b a len cap (wd.setCell ⟨r, 1, none⟩ (.slice oz (putF fs ⟨#[99, 97, 99, 104, 101, 45, 99, 111, 110, 116, 114, 111, 108]⟩ t).length cz))) := HDD.out.setFields hcw hrw hrR (owns_wide ownz (by have := HDB.out.grow.size; omega))
   refine hK.out _ _ trivial (fun _ => ?_)
   clear hK K c0 c1 c2 f0 f1 f2 ownz bd HDB
   obtain ⟨⟨c0, c1, c2⟩, f0, f1, f2⟩ := three_facts HDD.out.hr
   refine wpAnyH_takeD (i := 6) (v := .pointer (some ⟨r, 1, none⟩)) (some 20) rfl rfl (by kernel_rfl) (by kernel_rfl) (by kernel_rfl) (fun _ _ _ h => h) (Or.inl ⟨by rfl, by intro W _; go_simp⟩) trivial ?_
   go_frame
   refine rd1 7 rfl (fun K hK => ?_)
   go_simp
   refine hK.out _ _ trivial (fun _ => ?_)
   clear hK K c0 c1 c2 f0 f1 f2 HDD
   refine wpAnyH_done (by kernel_rfl) ?_ _
   have hpl : (putF fs ⟨#[99, 97, 99, 104, 101, 45, 99, 111, 110, 116, 114, 111, 108]⟩ t).length ≤ 40 := by have := putL_len fs ⟨#[99, 97, 99, 104, 101, 45, 99, 111, 110, 116, 114, 111, 108]⟩ t; omega
   have hps : ShortF (putF fs ⟨#[99, 97, 99, 104, 101, 45, 99, 111, 110, 116, 114, 111, 108]⟩ t) := putL_short hsh (by decide) (by omega)
   obtain ⟨PF, hPF⟩ := exq (putF fs ⟨#[99, 97, 99, 104, 101, 45, 99, 111, 110, 116, 114, 111, 108]⟩ t)
   rw [← hPF] at hpl hps HDE ⊢
   obtain ⟨np, hnp⟩ := exq PF.length
   rw [← hnp] at HDE ⊢
   clear hPF hnp
   obtain ⟨⟨c0, c1, c2⟩, f0, f1, f2⟩ := three_facts HDE.out.hr
   obtain ⟨⟨d0, d1, d2⟩, g0, g1, g2⟩ := three_facts HDE.out.hR
   obtain ⟨hh, hfin⟩ := HDE.out.fin (bmax := 14) hcw hRw hm hpl hps (by omega)
   obtain ⟨⟨k0, k1, k2⟩, _⟩ := three_facts hh
   have HFIN : Hid _ := hfin
   unfold threeSet at k0 k1 k2
   clear hh hfin
   go_wp2_with fail
   exact bodyPost_ret (v := .agg #[.int .i64 m, (.slice oz np cz), .string b]) (by simp [results, Tryz.results122, go_sem, k0, k1, k2]) rfl HFIN.out
  ·
   go_simp
   refine hK.out _ _ trivial (fun _ => ?_)
   clear hK K
   refine wpAnyH_ready (rs := [1, 4]) (by kernel_rfl) (by simp) ?_
   refine AllReadyH.cons rfl (fun K hK => ?_) (AllReadyH.cons rfl (fun K hK => ?_) AllReadyH.nil)
   ·
    have c1a : (wy.alloc (.cells #[.string ⟨#[109, 97, 120, 45, 97, 103, 101, 61, 53]⟩, .string ⟨#[109, 97, 120, 45, 97, 103, 101, 61, 50, 48]⟩, .string ⟨#[109, 97, 120, 45, 97, 103, 101, 61, 57]⟩] 9)).cell? ⟨r, 1, none⟩ = some (.slice fo fs.length fc) := (((Below.refl _ wy).alloc (Nat.le_refl _) (.cells #[.string ⟨#[109, 97, 120, 45, 97, 103, 101, 61, 53]⟩, .string ⟨#[109, 97, 120, 45, 97, 103, 101, 61, 50, 48]⟩, .string ⟨#[109, 97, 120, 45, 97, 103, 101, 61, 57]⟩] 9)).cell (p := ⟨r, 1, none⟩) (Array.getElem?_eq_some_iff.1 HDX.out.hr).1).trans (three_facts HDX.out.hr).1.2.1
    go_simp
    refine hK.out _ _ trivial (fun _ => ?_)
    clear hK K c1a
    refine rd1 4 rfl (fun K hK => ?_)
    go_simp
    refine (pick_new c B [⟨#[109, 97, 120, 45, 97, 103, 101, 61, 53]⟩, ⟨#[109, 97, 120, 45, 97, 103, 101, 61, 50, 48]⟩, ⟨#[109, 97, 120, 45, 97, 103, 101, 61, 57]⟩] 10 (by decide) a len cap zs wy HDX.out.cur (HCO.out _ HDX.out.grow) hB (by decide) (by decide)).mono ?_
    rintro e wb ⟨t, rfl, hts, hcub, hgb⟩
    have HDB : Hid (DResp w c R r m (.slice fo fs.length fc) fs b a len cap wb) := HDX.out.later hcw hRw hrw hcub hgb
    refine hK.out _ _ trivial (fun _ => ?_)
    clear hK K hcub hgb
    obtain ⟨⟨c0, c1, c2⟩, f0, f1, f2⟩ := three_facts HDB.out.hr
    refine rd1 5 rfl (fun K hK => ?_)
    go_simp
    refine (specPut_any _ fs.length w.heap.size fs ⟨#[99, 97, 99, 104, 101, 45, 99, 111, 110, 116, 114, 111, 108]⟩ t _ (FieldsV.of_owns HDB.out.own) (by omega)).mono ?_
    rintro e wd ⟨zv, rfl, ownz, bd⟩
    obtain ⟨oz, cz, rfl⟩ := slice_of_owns ownz
    have HDD : Hid (DResp w c R r m (.slice fo fs.length fc) fs b a len cap wd) := HDB.out.later hcw hRw hrw (HDB.out.cur.below bd HDB.out.cur.lt) (grown_below bd _)
    have HDE : Hid (DResp w c R r m (.slice oz (putF fs ⟨#[99, 97, 99, 104, 101, 45, 99, 111, 110, 116, 114, 111, 108]⟩ t).length cz) (putF fs ⟨#[99, 97, 99, 104, 101, 45, 99, 111, 110, 116, 114, 111, 108]⟩ t) b a len cap (wd.setCell ⟨r, 1, none⟩ (.slice oz (putF fs ⟨#[99, 97, 99, 104, 101, 45, 99, 111, 110, 116, 114, 111, 108]⟩ t).length cz))) := HDD.out.setFields hcw hrw hrR (owns_wide ownz (by have := HDB.out.grow.size; omega))
    refine hK.out _ _ trivial (fun _ => ?_)
    clear hK K c0 c1 c2 f0 f1 f2 ownz bd HDB
    obtain ⟨⟨c0, c1, c2⟩, f0, f1, f2⟩ := three_facts HDD.out.hr
    refine wpAnyH_takeD (i := 6) (v := .pointer (some ⟨r, 1, none⟩)) (some 20) rfl rfl (by kernel_rfl) (by kernel_rfl) (by kernel_rfl) (fun _ _ _ h => h) (Or.inl ⟨by rfl, by intro W _; go_simp⟩) trivial ?_
    go_frame
    refine rd1 7 rfl (fun K hK => ?_)
    go_simp
    refine hK.out _ _ trivial (fun _ => ?_)
    clear hK K c0 c1 c2 f0 f1 f2 HDD
    refine wpAnyH_done (by kernel_rfl) ?_ _
    have hpl : (putF fs ⟨#[99, 97, 99, 104, 101, 45, 99, 111, 110, 116, 114, 111, 108]⟩ t).length ≤ 40 := by have := putL_len fs ⟨#[99, 97, 99, 104, 101, 45, 99, 111, 110, 116, 114, 111, 108]⟩ t; omega
    have hps : ShortF (putF fs ⟨#[99, 97, 99, 104, 101, 45, 99, 111, 110, 116, 114, 111, 108]⟩ t) := putL_short hsh (by decide) (by omega)
    obtain ⟨PF, hPF⟩ := exq (putF fs ⟨#[99, 97, 99, 104, 101, 45, 99, 111, 110, 116, 114, 111, 108]⟩ t)
    rw [← hPF] at hpl hps HDE ⊢
    obtain ⟨np, hnp⟩ := exq PF.length
    rw [← hnp] at HDE ⊢
    clear hPF hnp
    obtain ⟨⟨c0, c1, c2⟩, f0, f1, f2⟩ := three_facts HDE.out.hr
    obtain ⟨⟨d0, d1, d2⟩, g0, g1, g2⟩ := three_facts HDE.out.hR
    obtain ⟨hh, hfin⟩ := HDE.out.fin (bmax := 14) hcw hRw hm hpl hps (by omega)
    obtain ⟨⟨k0, k1, k2⟩, _⟩ := three_facts hh
    have HFIN : Hid _ := hfin
    unfold threeSet at k0 k1 k2
    clear hh hfin
    go_wp2_with fail
    exact bodyPost_ret (v := .agg #[.int .i64 m, (.slice oz np cz), .string b]) (by simp [results, Tryz.results122, go_sem, k0, k1, k2]) rfl HFIN.out
   ·
    go_simp
    refine (pick_new c B [⟨#[109, 97, 120, 45, 97, 103, 101, 61, 53]⟩, ⟨#[109, 97, 120, 45, 97, 103, 101, 61, 50, 48]⟩, ⟨#[109, 97, 120, 45, 97, 103, 101, 61, 57]⟩] 10 (by decide) a len cap zs wy HDX.out.cur (HCO.out _ HDX.out.grow) hB (by decide) (by decide)).mono ?_
    rintro e wb ⟨t, rfl, hts, hcub, hgb⟩
    have HDB : Hid (DResp w c R r m (.slice fo fs.length fc) fs b a len cap wb) := HDX.out.later hcw hRw hrw hcub hgb
    refine hK.out _ _ trivial (fun _ => ?_)
    clear hK K hcub hgb
    obtain ⟨⟨c0, c1, c2⟩, f0, f1, f2⟩ := three_facts HDB.out.hr
    refine rd1 1 rfl (fun K hK => ?_)
    go_simp
    refine hK.out _ _ trivial (fun _ => ?_)
    clear hK K
    refine rd1 5 rfl (fun K hK => ?_)
    go_simp
    refine (specPut_any _ fs.length w.heap.size fs ⟨#[99, 97, 99, 104, 101, 45, 99, 111, 110, 116, 114, 111, 108]⟩ t _ (FieldsV.of_owns HDB.out.own) (by omega)).mono ?_
    rintro e wd ⟨zv, rfl, ownz, bd⟩
    obtain ⟨oz, cz, rfl⟩ := slice_of_owns ownz
    have HDD : Hid (DResp w c R r m (.slice fo fs.length fc) fs b a len cap wd) := HDB.out.later hcw hRw hrw (HDB.out.cur.below bd HDB.out.cur.lt) (grown_below bd _)
    have HDE : Hid (DResp w c R r m (.slice oz (putF fs ⟨#[99, 97, 99, 104, 101, 45, 99, 111, 110, 116, 114, 111, 108]⟩ t).length cz) (putF fs ⟨#[99, 97, 99, 104, 101, 45, 99, 111, 110, 116, 114, 111, 108]⟩ t) b a len cap (wd.setCell ⟨r, 1, none⟩ (.slice oz (putF fs ⟨#[99, 97, 99, 104, 101, 45, 99, 111, 110, 116, 114, 111, 108]⟩ t).length cz))) := HDD.out.setFields hcw hrw hrR (owns_wide ownz (by have := HDB.out.grow.size; omega))
    refine hK.out _ _ trivial (fun _ => ?_)
    clear hK K c0 c1 c2 f0 f1 f2 ownz bd HDB
    obtain ⟨⟨c0, c1, c2⟩, f0, f1, f2⟩ := three_facts HDD.out.hr
    refine wpAnyH_takeD (i := 6) (v := .pointer (some ⟨r, 1, none⟩)) (some 20) rfl rfl (by kernel_rfl) (by kernel_rfl) (by kernel_rfl) (fun _ _ _ h => h) (Or.inl ⟨by rfl, by intro W _; go_simp⟩) trivial ?_
    go_frame
    refine rd1 7 rfl (fun K hK => ?_)
    go_simp
    refine hK.out _ _ trivial (fun _ => ?_)
    clear hK K c0 c1 c2 f0 f1 f2 HDD
    refine wpAnyH_done (by kernel_rfl) ?_ _
    have hpl : (putF fs ⟨#[99, 97, 99, 104, 101, 45, 99, 111, 110, 116, 114, 111, 108]⟩ t).length ≤ 40 := by have := putL_len fs ⟨#[99, 97, 99, 104, 101, 45, 99, 111, 110, 116, 114, 111, 108]⟩ t; omega
    have hps : ShortF (putF fs ⟨#[99, 97, 99, 104, 101, 45, 99, 111, 110, 116, 114, 111, 108]⟩ t) := putL_short hsh (by decide) (by omega)
    obtain ⟨PF, hPF⟩ := exq (putF fs ⟨#[99, 97, 99, 104, 101, 45, 99, 111, 110, 116, 114, 111, 108]⟩ t)
    rw [← hPF] at hpl hps HDE ⊢
    obtain ⟨np, hnp⟩ := exq PF.length
    rw [← hnp] at HDE ⊢
    clear hPF hnp
    obtain ⟨⟨c0, c1, c2⟩, f0, f1, f2⟩ := three_facts HDE.out.hr
    obtain ⟨⟨d0, d1, d2⟩, g0, g1, g2⟩ := three_facts HDE.out.hR
    obtain ⟨hh, hfin⟩ := HDE.out.fin (bmax := 14) hcw hRw hm hpl hps (by omega)
    obtain ⟨⟨k0, k1, k2⟩, _⟩ := three_facts hh
    have HFIN : Hid _ := hfin
    unfold threeSet at k0 k1 k2
    clear hh hfin
    go_wp2_with fail
    exact bodyPost_ret (v := .agg #[.int .i64 m, (.slice oz np cz), .string b]) (by simp [results, Tryz.results122, go_sem, k0, k1, k2]) rfl HFIN.out
theorem l3DrawBadResp_any (c B : Nat) (a : Option Addr) (len cap : Nat) (zs : List Int) (w : World) (hcur : CurAt w c a len cap) (hcode : CodeAt w B a len zs) (hB : B ≤ c) :
  Calls Tryz.prog 87 #[.pointer (some ⟨c, 0, none⟩)] w fun e w' => RespDrawn 140 w c a len cap e w' := by
 have hcw := hcur.lt
 have HCO : Hid (∀ W, w.grownBy W (some c) → CodeAt W B a len zs) := fun W h => hcode.grown h hB
 obtain ⟨R, hR⟩ := exq (w.heap.size)
 have hg0 : w.grownBy (w.alloc (.cells #[.int .i64 0, .slice none 0 0, .string ⟨#[]⟩] 29)) (some c) := World.grownBy_alloc w _ _
 have hcu0 := hcur.below ((Below.refl _ w).alloc (Nat.le_refl _) (.cells #[.int .i64 0, .slice none 0 0, .string ⟨#[]⟩] 29)) hcw
 have hco0 := HCO.out _ hg0
 have hz0' : (w.alloc (.cells #[.int .i64 0, .slice none 0 0, .string ⟨#[]⟩] 29)).heap[R]? = some (.cells #[.int .i64 0, .slice none 0 0, .string ⟨#[]⟩] 29) := by rw [hR]; exact heap_alloc_new w _
 have hRlt : R < (w.alloc (.cells #[.int .i64 0, .slice none 0 0, .string ⟨#[]⟩] 29)).heap.size := by rw [hR]; simp
 have hRc : R ≠ c := by omega
 have hRw : w.heap.size ≤ R := by omega
 have HRE : Hid (R = w.heap.size) := hR
 obtain ⟨w0, hw0⟩ := exq (w.alloc (.cells #[.int .i64 0, .slice none 0 0, .string ⟨#[]⟩] 29))
 have HW0 : Hid (w0 = w.alloc (.cells #[.int .i64 0, .slice none 0 0, .string ⟨#[]⟩] 29)) := hw0
 have HS0 : Hid (w0.heap.size = w.heap.size + 1) := by show _ = _; rw [hw0]; simp
 rw [← hw0] at hg0 hcu0 hco0 hz0' hRlt
 clear hcur hcode hR hw0
 go_enter Tryz.func87, Tryz.ntmps87
 go_wp2_with fail
 rw [← HW0.out]
 refine (l3DrawResp_any c B a len cap zs _ hcu0 hco0 hB).mono ?_
 rintro e w1 ⟨m, fv, fs, b, rfl, hm, hown, hfl, hsh, hb, hcu1, hg1⟩
 obtain ⟨fo, fc, rfl⟩ := slice_of_owns hown
 have hz1' : w1.heap[R]? = some (.cells #[.int .i64 0, .slice none 0 0, .string ⟨#[]⟩] 29) := by rw [hg1.block R hRlt (fun e => hRc (Option.some.inj e))]; exact hz0'
 have hR1 : R < w1.heap.size := (Array.getElem?_eq_some_iff.1 hz1').1
 have hga1 := grownBy_trans hg0 hg1
 have hs0 := HS0.out
 obtain ⟨r, hr⟩ := exq (w1.heap.size)
 have hrw : w.heap.size ≤ r := by rw [hr]; exact hga1.size
 have hrR : R ≠ r := by omega
 have HD0 : Hid (DResp w c R r m (.slice fo fs.length fc) fs b a len cap (w1.alloc (.cells #[.int .i64 m, .slice fo fs.length fc, .string b] 29))) := by
  have hgal : w1.grownBy (w1.alloc (.cells #[.int .i64 m, .slice fo fs.length fc, .string b] 29)) (some c) := World.grownBy_alloc w1 _ _
  refine ⟨?_, by rw [hr]; exact heap_alloc_new w1 _, (owns_wide hown (by omega)).alloc _, hcu1.below ((Below.refl _ w1).alloc (Nat.le_refl _) _) hcu1.lt, grownBy_trans hga1 hgal, fun j hj => ⟨by have := owns_ge hown hj; omega, by have := owns_lt hown hj; omega⟩⟩
  rw [hgal.block R hR1 (fun e => hRc (Option.some.inj e))]; exact hz1'
 have HR' : Hid (r = w1.heap.size) := hr
 obtain ⟨wv, hwv⟩ := exq (w1.alloc (.cells #[.int .i64 m, .slice fo fs.length fc, .string b] 29))
 have HWV : Hid (wv = w1.alloc (.cells #[.int .i64 m, .slice fo fs.length fc, .string b] 29)) := hwv
 rw [← hwv] at HD0
 rw [← HRE.out]
 clear hr hz1' hR1 hcu1 hga1 hwv hown hg1 hg0 hcu0 hco0 hz0' hRlt hs0
 go_wp2_with fail
 rw [← HR'.out, ← HWV.out]
 refine (l1Below_any c B 20 a len cap zs _ HD0.out.cur (HCO.out _ HD0.out.grow) hB (by omega) (by omega)).mono ?_
 rintro e wa ⟨x, rfl, hx0, hx1, hcua, hgaa⟩
 have hda : Hid (DResp w c R r m (.slice fo fs.length fc) fs b a len cap wa) := HD0.out.later hcw hRw hrw hcua hgaa
 clear hcua hgaa HD0 HWV HR' HW0 HS0 HRE
 obtain ⟨⟨c0, c1, c2⟩, f0, f1, f2⟩ := three_facts hda.out.hr
 obtain ⟨⟨d0, d1, d2⟩, g0, g1, g2⟩ := three_facts hda.out.hR
 by_cases x0 : x = 0
 ·
  subst x0
  have hwas : wa.heap.size = wa.heap.size := rfl
  go_wp2_with fail
  refine (pickInt_new c B [99, 100, 599, 600, -1] (-1) 600 (by decide) a len cap zs wa hda.out.cur (HCO.out _ hda.out.grow) hB (by decide) (by decide)).mono ?_
  rintro e wb ⟨y, rfl, hy0, hy1, hcub, hgb⟩
  have hdb : Hid (DResp w c R r m (.slice fo fs.length fc) fs b a len cap wb) := hda.out.later hcw hRw hrw hcub hgb
  have hdc : Hid (DResp w c R r y (.slice fo fs.length fc) fs b a len cap (wb.setCell ⟨r, 0, none⟩ (.int .i64 y))) := hdb.out.setStatus (m' := y) hcw hrw hrR
  clear c0 c1 c2 f0 f1 f2 d0 d1 d2 g0 g1 g2 hcub hgb hda hwas
  obtain ⟨⟨c0, c1, c2⟩, f0, f1, f2⟩ := three_facts hdb.out.hr
  obtain ⟨⟨i0, i1, i2⟩, j0, j1, j2⟩ := three_facts hdc.out.hr
  obtain ⟨⟨d0, d1, d2⟩, g0, g1, g2⟩ := three_facts hdc.out.hR
  obtain ⟨hh, hfin⟩ := hdc.out.fin (bmax := 140) hcw hRw ⟨by omega, by omega⟩ hfl hsh (by omega)
  obtain ⟨⟨k0, k1, k2⟩, _⟩ := three_facts hh
  have HFIN : Hid _ := hfin
  unfold threeSet at k0 k1 k2
  clear hh hfin
  go_wp2_with fail
  exact bodyPost_ret (v := .agg #[.int .i64 y, (.slice fo fs.length fc), .string b]) (by simp [results, Tryz.results87, go_sem, k0, k1, k2]) rfl HFIN.out
 ·
  by_cases x1 : x = 1
  ·
   subst x1
   go_wp2_with fail
   refine (l2Draw_any c B a len cap zs _ hda.out.cur (HCO.out _ hda.out.grow) hB).mono ?_
   rintro e wb ⟨gv, gs, rfl, howng, hgl, hgsh, hcub, hgb⟩
   obtain ⟨go, gc, rfl⟩ := slice_of_owns howng
   have hdb : Hid (DResp w c R r m (.slice fo fs.length fc) fs b a len cap wb) := hda.out.later hcw hRw hrw hcub hgb
   have hdc : Hid (DResp w c R r m (.slice go gs.length gc) gs b a len cap (wb.setCell ⟨r, 1, none⟩ (.slice go gs.length gc))) := hdb.out.setFields hcw hrw hrR (owns_wide howng (by have := hda.out.grow.size; omega))
   clear c0 c1 c2 f0 f1 f2 d0 d1 d2 g0 g1 g2 hcub hgb hda howng
   obtain ⟨⟨c0, c1, c2⟩, f0, f1, f2⟩ := three_facts hdb.out.hr
   obtain ⟨⟨i0, i1, i2⟩, j0, j1, j2⟩ := three_facts hdc.out.hr
   obtain ⟨⟨d0, d1, d2⟩, g0, g1, g2⟩ := three_facts hdc.out.hR
   obtain ⟨hh, hfin⟩ := hdc.out.fin (bmax := 140) hcw hRw hm hgl hgsh (by omega)
   obtain ⟨⟨k0, k1, k2⟩, _⟩ := three_facts hh
   have HFIN : Hid _ := hfin
   unfold threeSet at k0 k1 k2
   clear hh hfin
   go_wp2_with fail
   exact bodyPost_ret (v := .agg #[.int .i64 m, (.slice go gs.length gc), .string b]) (by simp [results, Tryz.results87, go_sem, k0, k1, k2]) rfl HFIN.out
  ·
   by_cases x2 : x = 2
   ·
    subst x2
    clear c0 c1 c2 f0 f1 f2 d0 d1 d2 g0 g1 g2
    go_wp2_with fail
    go_loopw [] (fun wr => ∃ b2 : ByteArray, b2.size ≤ 121 ∧ Hid (DResp w c R r m (.slice fo fs.length fc) fs b2 a len cap wr)) (fun wr => 122 - bodyLenP r wr)
    case atStart => exact ⟨b, by omega, hda⟩
    case round =>
     obtain ⟨b2, hb2, hdr⟩ := hrel
     have hdw : Hid (DResp w c R r m (.slice fo fs.length fc) fs b2 a len cap wr.drew) := hdr.out.later hcw hRw hrw hdr.out.cur (grown_below ((Below.refl _ wr).drew) _)
     obtain ⟨⟨c0, c1, c2⟩, f0, f1, f2⟩ := three_facts hdr.out.hr
     have HL0 : Hid (bodyLenP r wr = b2.size) := by show _ = _; unfold bodyLenP; rw [c2]
     have HA : Hid (∀ wb, CurAt wb c a len cap → wr.drew.grownBy wb (some c) → wb.cell? ⟨r, 2, none⟩ = some (.string b2) ∧ Hid (DResp w c R r m (.slice fo fs.length fc) fs b2 a len cap wb)) := fun wb h1 h2 => by
      have h3 := hdw.out.later hcw hRw hrw h1 h2
      exact ⟨(three_facts h3.hr).1.2.2, h3⟩
     clear c0 c1 f0 f1 f2
     go_wp2_with fail
     go_region_held3 (fun W => W.cell? ⟨r, 2, none⟩ = some (.string b2)) (first | assumption | go_keep) (first | (go_at_call 83; refine (l1Below_any c B 2 a len cap zs _ hdw.out.cur (HCO.out _ hdw.out.grow) hB (by omega) (by omega)).mono ?_; rintro e wb ⟨y, rfl, hy0, hy1, hcub, hgb⟩; obtain ⟨hcb3, hdb⟩ := HA.out wb hcub hgb; have hwy : IntKind.i64.wrap (120 + y) = 120 + y := by rw [IntKind.wrap_i64]; omega))
     clear hcub hgb hdw HA c2
     have hdc : Hid (DResp w c R r m (.slice fo fs.length fc) fs (b2 ++ ⟨#[98]⟩) a len cap (wb.setCell ⟨r, 2, none⟩ (.string (b2 ++ ⟨#[98]⟩)))) := hdb.out.setBody (b' := b2 ++ (⟨#[98]⟩ : ByteArray)) hcw hrw hrR
     obtain ⟨⟨c0, c1, c2⟩, f0, f1, f2⟩ := three_facts hdb.out.hr
     obtain ⟨⟨d0, d1, d2⟩, g0, g1, g2⟩ := three_facts hdb.out.hR
     have e98 : (⟨#[98]⟩ : ByteArray).size = 1 := rfl
     by_cases hlt : (b2.size : Int) < 120 + y
     ·
      have HL1 : Hid (bodyLenP r (wb.setCell ⟨r, 2, none⟩ (.string (b2 ++ ⟨#[98]⟩))) = b2.size + 1) := by
       show _ = _
       have := (three_facts hdc.out.hr).1.2.2
       unfold bodyLenP; rw [this]; simp only [ByteArray.size_append]; omega
      have q1 : ¬ 9223372036854775807 < b2.size + 1 := by omega
      clear d0 d1 d2 g0 g1 g2
      go_wp2
      go_roundw
      case rel => exact ⟨_, by simp only [ByteArray.size_append]; omega, hdc⟩
      case measure => rw [HL1.out, HL0.out]; omega
     ·
      have hdec : decide ((b2.size : Int) < 120 + y) = false := by simpa using hlt
      clear hdc hdr hda HL0
      obtain ⟨hh, hfin⟩ := hdb.out.fin (bmax := 140) hcw hRw hm hfl hsh (by omega)
      obtain ⟨⟨k0, k1, k2⟩, _⟩ := three_facts hh
      have HFIN : Hid _ := hfin
      unfold threeSet at k0 k1 k2
      clear hh hfin
      go_wp2_with fail
      exact bodyPost_ret (v := .agg #[.int .i64 m, (.slice fo fs.length fc), .string b2]) (by simp [results, Tryz.results87, go_sem, k0, k1, k2]) rfl HFIN.out
   ·
    have e0 : (x == 0) = false := by rw [beq_eq_false_iff_ne]; exact x0
    have e1 : (x == 1) = false := by rw [beq_eq_false_iff_ne]; exact x1
    have e2 : (x == 2) = false := by rw [beq_eq_false_iff_ne]; exact x2
    obtain ⟨hh, hfin⟩ := hda.out.fin (bmax := 140) hcw hRw hm hfl hsh (by omega)
    obtain ⟨⟨k0, k1, k2⟩, _⟩ := three_facts hh
    have HFIN : Hid _ := hfin
    unfold threeSet at k0 k1 k2
    clear hh hfin
    go_wp2_with fail
    exact bodyPost_ret (v := .agg #[.int .i64 m, (.slice fo fs.length fc), .string b]) (by simp [results, Tryz.results87, go_sem, k0, k1, k2]) rfl HFIN.out
end Go.Proofs.YtmcmeeibogkpaaaGreatDoorR
namespace Go.Proofs.YtmcmeeibogkpaaaGreatDoorR
open Go.RowKit
open Go.Lib hiding intOf
/-- A block's content behind a call. -/
theorem blk_below {W W' : World} {r : Nat} {o : Obj} (h : W.heap[r]? = some o) (b : Below W.heap.size W W') : W'.heap[r]? = some o := by
 rw [b.block r (Array.getElem?_eq_some_iff.1 h).1]; exact h
theorem own_ne {W : World} {r : Nat} {cs : Array Value} {T t : TypeId} {base size n : Nat} {v : Value} {xs : List Value} (ho : W.ownsRow base t size v n xs) (h : W.heap[r]? = some (.cells cs T)) (hT : T ≠ t) (j : Nat) (hj : v.ownBlock = some j) : j ≠ r := fun e => by
 subst e
 rcases ho.2 with ⟨rfl, _⟩ | ⟨g, cap, cur, rfl, _, h1, _⟩
 · cases hj
 ·
  cases hj
  rw [h] at h1
  cases h1
  exact hT rfl
end Go.Proofs.YtmcmeeibogkpaaaGreatDoorR
namespace Go.Proofs.YtmcmeeibogkpaaaGreatDoorR
open Go.RowKit
open Go.Lib hiding intOf
def varyName : ByteArray := ⟨#[118, 97, 114, 121]⟩
def dashT : ByteArray := ⟨#[45]⟩
/-- The names that an answer hangs on. -/
def varyP (fs : List (ByteArray × ByteArray)) : List ByteArray := (splitL (getV fs varyName)).map lowerOf
/-- What fields tell of a name. -/
def valOf (fs : List (ByteArray × ByteArray)) (x : ByteArray) : ByteArray := if getB fs x = true then getV fs x else dashT
def valsP (xs : List ByteArray) (fs : List (ByteArray × ByteArray)) : List ByteArray := xs.map (valOf fs)
theorem valsP_len (xs : List ByteArray) (fs : List (ByteArray × ByteArray)) : (valsP xs fs).length = xs.length := by simp [valsP]
/-- A list of texts that is read. -/
def TextsA (w : World) (oa : Option Addr) (n : Nat) (xs : List ByteArray) : Prop :=
 xs.length = n ∧ ∀ i, i < n → ∃ g, oa = some ⟨g, 0, none⟩ ∧ g < w.heap.size ∧ w.cell? ⟨g, i, none⟩ = some (.string (textAt xs i))
theorem TextsA.below {w w' : World} {oa : Option Addr} {n : Nat} {xs : List ByteArray} (h : TextsA w oa n xs) (hb : Below w.heap.size w w') : TextsA w' oa n xs :=
 ⟨h.1, fun i hi => by
  obtain ⟨g, h1, h2, h3⟩ := h.2 i hi
  exact ⟨g, h1, Nat.lt_of_lt_of_le h2 hb.size, by rw [hb.cell (p := ⟨g, i, none⟩) h2]; exact h3⟩⟩
theorem texts_own {w : World} {base n : Nat} {v : Value} {xs : List ByteArray} (h : w.ownsRow base 9 1 v n (xs.map Value.string)) : ∃ oa cap, v = .slice oa n cap ∧ TextsA w oa n xs := by
 have hl : xs.length = n := by have := h.1; simpa using this
 rcases row_form h with ⟨oa, ca, rfl, rfl, rfl⟩ | ⟨g, cap, rfl, hp, r⟩
 · exact ⟨oa, ca, rfl, rfl, fun i hi => absurd hi (by omega)⟩
 · exact ⟨_, _, rfl, hl, fun i hi => ⟨g, rfl, r.lt, r.cell i hi⟩⟩
/-- The first j texts in small letters. -/
def loTo (xs : List ByteArray) (j : Nat) : List ByteArray := (xs.take j).map lowerOf ++ xs.drop j
theorem loTo_zero (xs : List ByteArray) : loTo xs 0 = xs := by simp [loTo]
theorem loTo_all (xs : List ByteArray) (j : Nat) (h : xs.length ≤ j) : loTo xs j = xs.map lowerOf := by
 simp [loTo, List.take_of_length_le h, List.drop_of_length_le h]
theorem loTo_at (xs : List ByteArray) (j : Nat) : textAt (loTo xs j) j = textAt xs j := by
 unfold textAt loTo
 rw [List.getD_eq_getElem?_getD, List.getD_eq_getElem?_getD]
 by_cases h : j < xs.length
 · rw [List.getElem?_append_right (by simp; omega), List.length_map, List.length_take, Nat.min_eq_left (by omega), Nat.sub_self, List.getElem?_drop, Nat.add_zero]
 · rw [List.getElem?_eq_none (by simp; omega), List.getElem?_eq_none (by omega)]
theorem loTo_step (xs : List ByteArray) (j : Nat) (h : j < xs.length) : (loTo xs j).set j (lowerOf (textAt xs j)) = loTo xs (j + 1) := by
 have e : xs.drop j = textAt xs j :: xs.drop (j + 1) := by
  rw [List.drop_eq_getElem_cons h]
  congr 1
  unfold textAt
  rw [List.getD_eq_getElem?_getD, List.getElem?_eq_getElem h]
  rfl
 have e2 : xs.take (j + 1) = xs.take j ++ [textAt xs j] := by
  rw [List.take_add_one, List.getElem?_eq_getElem h]
  unfold textAt
  rw [List.getD_eq_getElem?_getD, List.getElem?_eq_getElem h]
  rfl
 unfold loTo
 rw [List.set_append_right _ _ (by simp; omega), List.length_map, List.length_take, Nat.min_eq_left (by omega), Nat.sub_self, e, List.set_cons_zero, e2, List.map_append]
 simp
theorem valsP_snoc (xs : List ByteArray) (fs : List (ByteArray × ByteArray)) (i : Nat) (h : i < xs.length) : valsP (xs.take (i + 1)) fs = valsP (xs.take i) fs ++ [valOf fs (textAt xs i)] := by
 rw [List.take_add_one, List.getElem?_eq_getElem h]
 unfold textAt valsP
 rw [List.getD_eq_getElem?_getD, List.getElem?_eq_getElem h, List.map_append]
 rfl
theorem specVaryOf_any (v : Value) (n base : Nat) (fs : List (ByteArray × ByteArray)) (w : World) (hv : FieldsV w base v n fs) (hn : n ≤ 1073741824) (hsz : (getV fs varyName).size ≤ 1048576) :
  Calls Tryz.prog 63 #[v] w fun e w' => RowIs w.heap.size (varyP fs) w e w' := by
 obtain ⟨s, hs⟩ := exq (getV fs varyName)
 have HS : Hid (getV fs varyName = s) := hs.symm
 have HE : Hid (varyP fs = (splitL s).map lowerOf) := by show _ = _; unfold varyP; rw [HS.out]
 rw [← hs] at hsz
 obtain ⟨hl1, hl2⟩ := splitL_le s
 clear hs
 go_enter Tryz.func63, Tryz.ntmps63
 go_wp2_with fail
 refine (specGet_any v n base fs varyName _ hv hn).mono ?_
 rintro e w1 ⟨rfl, rfl⟩
 rw [HS.out]
 clear hv
 go_wp2_with fail
 refine (specSplit_any s _ hsz).mono ?_
 rintro e w2 ⟨V, rfl, O, b2⟩
 obtain ⟨xs, hxs⟩ := exq (splitL s)
 rw [← hxs] at hl1 hl2 O HE
 obtain ⟨m, hm⟩ := exq xs.length
 rw [← hm] at hl1 O
 have HM : Hid (xs.length = m) := hm.symm
 have H2 : Hid (∀ x ∈ xs, x.size ≤ s.size) := hl2
 clear hxs hm hl2
 rcases row_form O with ⟨oa, ca, rfl, h0, h1⟩ | ⟨g, cap, rfl, hp, r1⟩
 ·
  subst h0 h1
  go_wp2_with fail
  refine wp_loop_rounds 1 ?_
  rw [rounds_succ]
  go_wp2_with fail
  go_ret
  exact RowIs.of (by rw [HE.out]; rfl) rfl O b2
 ·
  clear O
  have HB2 : Hid (Below w1.heap.size w1 w2) := b2
  have HR1 : Hid (TextRow w1.heap.size w2 g m cap (loTo xs 0)) := by show TextRow _ _ _ _ _ _; rw [loTo_zero]; exact r1
  clear b2 r1
  go_wp2_with fail
  go_loopw [6] (fun i wr => ∃ j : Nat, j ≤ m ∧ i = .int .i64 (j : Int) ∧ Hid (Below w1.heap.size w1 wr) ∧ Hid (TextRow w1.heap.size wr g m cap (loTo xs j))) (fun i _ => m - (intOf i).toNat)
  case atStart => exact ⟨0, Nat.zero_le _, rfl, HB2, HR1⟩
  case round =>
   obtain ⟨j, hj, rfl, HB, HR⟩ := hrel
   by_cases hlt : j < m
   ·
    have hlt2 : (j : Int) < (m : Int) := by omega
    obtain ⟨x, hx⟩ := exq (textAt xs j)
    have hc := HR.out.cell j hlt
    rw [loTo_at, ← hx] at hc
    have HST : Hid ((loTo xs j).set j (lowerOf x) = loTo xs (j + 1)) := by show _ = _; rw [hx]; exact loTo_step xs j (by rw [HM.out]; exact hlt)
    have hxz : x.size ≤ 1048576 := by
     refine Nat.le_trans (H2.out x ?_) hsz
     rw [hx]
     unfold textAt
     rw [List.getD_eq_getElem?_getD, List.getElem?_eq_getElem (by rw [HM.out]; exact hlt)]
     exact List.getElem_mem _
    clear hx
    go_wp2_with fail
    refine (specLower_any x _ hxz).mono ?_
    rintro e w3 ⟨rfl, hb3⟩
    have hrow := HR.out.below hb3 HR.out.lt
    have hc3 := hrow.cell j hlt
    have hf3 := hrow.frozen j
    have HB3 : Hid (Below w1.heap.size w1 (w3.setCell ⟨g, j, none⟩ (.string (lowerOf x)))) := (HB.out.trans (hb3.mono HB.out.size)).setCell HR.out.base _
    have HR3 : Hid (TextRow w1.heap.size (w3.setCell ⟨g, j, none⟩ (.string (lowerOf x))) g m cap (loTo xs (j + 1))) := by
     show TextRow _ _ _ _ _ _
     rw [← HST.out]
     exact hrow.set j hlt _
    clear hb3 hrow HB HR HST hc
    go_wp2_with fail
    go_roundw
    case rel => exact ⟨j + 1, by omega, by go_num, HB3, HR3⟩
    case measure => simp [intOf]; omega
   ·
    obtain rfl : j = m := by omega
    go_wp2_with fail
    go_ret
    exact RowIs.of (by rw [HE.out, loTo_all xs j (by rw [HM.out]; exact Nat.le_refl _)]) (by rw [loTo_all xs j (by rw [HM.out]; exact Nat.le_refl _), List.length_map, HM.out]) HR.out.owns HB.out
theorem specValuesOf_any (oa : Option Addr) (m cm : Nat) (xs : List ByteArray) (v : Value) (n base : Nat) (fs : List (ByteArray × ByteArray)) (w : World) (hx : TextsA w oa m xs) (hm : m ≤ 1048577) (hv : FieldsV w base v n fs) (hn : n ≤ 1073741824) :
  Calls Tryz.prog 146 #[.slice oa m cm, v] w fun e w' => RowIs w.heap.size (valsP xs fs) w e w' := by
 obtain ⟨i0, hi, hz0, hz1, hz2⟩ := info_parts info9
 have HLEN : Hid (xs.length = m) := hx.1
 have HX : Hid (∀ W, Below w.heap.size w W → TextsA W oa m xs) := fun W h => hx.below h
 have HV : Hid (∀ W, Below w.heap.size w W → FieldsV W base v n fs) := fun W h => hv.below h
 clear hx hv
 go_enter Tryz.func146, Tryz.ntmps146
 have H0 : Hid ((w.alloc (Obj.cells #[] 9)).ownsRow w.heap.size 9 1 (.slice (some ⟨w.heap.size, 0, none⟩) 0 0) 0 (([] : List ByteArray).map Value.string)) := ⟨rfl, .inr ⟨w.heap.size, 0, #[], rfl, Nat.le_refl _, heap_alloc_new w _, Nat.le_refl _, Nat.zero_le _, rfl, rfl⟩⟩
 go_wp2_with fail
 go_loopw [5, 6] (fun a c wr => ∃ (i : Nat) (ys : List ByteArray), c = .int .i64 (i : Int) ∧ i ≤ m ∧ ys.length = i ∧ Hid (wr.ownsRow w.heap.size 9 1 a ys.length (ys.map Value.string)) ∧ Hid (Below w.heap.size w wr) ∧ Hid (ys = valsP (xs.take i) fs)) (fun _ c _ => m - (intOf c).toNat)
 case atStart => exact ⟨0, [], rfl, by omega, rfl, H0, (Below.refl _ _).alloc (Nat.le_refl _) _, rfl⟩
 case round =>
  obtain ⟨i, ys, rfl, hi', hyl, HO, HB, HE⟩ := hrel
  have h63 : ys.length + 1 ≤ maxLen := by unfold maxLen; omega
  have h47 : (ys.length + 1) * 16 ≤ 140737488355328 := by omega
  have HYL : Hid (ys.length = i) := hyl
  clear hyl
  by_cases hlt : (i : Int) < (m : Int)
  ·
   obtain ⟨g, rfl, hg, hc⟩ := (HX.out wr HB.out).2 i (by omega)
   obtain ⟨x, hxx⟩ := exq (textAt xs i)
   rw [← hxx] at hc
   have HE2 : Hid (ys ++ [valOf fs x] = valsP (xs.take (i + 1)) fs) := by
    show _ = _
    rw [valsP_snoc xs fs i (by rw [HLEN.out]; omega), HE.out, hxx]
   clear hxx
   go_wp2_with fail
   refine (specGet_any v n base fs x _ (HV.out _ HB.out) hn).mono ?_
   rintro e w2 ⟨rfl, rfl⟩
   obtain ⟨s, hs⟩ := exq (getV fs x)
   obtain ⟨th, hth⟩ := exq (getB fs x)
   rw [← hs, ← hth]
   obtain ⟨y, hy⟩ := exq (valOf fs x)
   rw [← hy] at HE2
   have HY : Hid (y = if th = true then s else dashT) := by show _ = _; rw [hy, hs, hth]; rfl
   have HBS : ∀ o, w.heap.size ≤ (w2.alloc o).heap.size := fun o => by have := HB.out.size; simp; omega
   clear hc hs hth hy HE
   cases th with
   | true =>
    have HY2 : Hid (s = y) := by show _ = _; rw [HY.out]; rfl
    rw [HY2.out]
    go_wp2_with (at_builtin; refine wpList_append_own _ rfl _ _ 27 rfl w.heap.size 9 i0 (.string ⟨#[]⟩) 1 16 Tryz.underlying27 hi hz0 hz1 hz2 rfl (by decide) _ _ _ rfl (HO.out.alloc _) ⟨w2.heap.size, 0, none⟩ 1 1 [.string y] rfl rfl (cell_one_new _ _ _) (one_text _) h63 h47 (HBS _) ?_)
    intro v3 w3 hown3 hgrow3 _
    have HB3 : Hid (Below w.heap.size w w3) := ((HB.out.alloc HB.out.size _).grown hgrow3 (HBS _) (fun g hg => owns_ge HO.out hg))
    have HO3 : Hid (w3.ownsRow w.heap.size 9 1 v3 (ys ++ [y]).length ((ys ++ [y]).map Value.string)) := by
     show World.ownsRow _ _ _ _ _ _ _
     rw [List.length_append, List.map_append]
     exact hown3
    clear hown3 hgrow3 HBS HB HO HY HY2
    go_wp2_with fail
    go_roundw
    case rel => exact ⟨i + 1, ys ++ [y], by go_num, by omega, by rw [List.length_append, HYL.out]; rfl, HO3, HB3, HE2⟩
    case measure => simp [intOf]; omega
   | false =>
    have HY2 : Hid (y = ⟨#[45]⟩) := by show _ = _; rw [HY.out]; rfl
    rw [HY2.out] at HE2
    go_wp2_with (at_builtin; refine wpList_append_own _ rfl _ _ 27 rfl w.heap.size 9 i0 (.string ⟨#[]⟩) 1 16 Tryz.underlying27 hi hz0 hz1 hz2 rfl (by decide) _ _ _ rfl (HO.out.alloc _) ⟨w2.heap.size, 0, none⟩ 1 1 [.string ⟨#[45]⟩] rfl rfl (cell_one_new _ _ _) (one_text _) h63 h47 (HBS _) ?_)
    intro v3 w3 hown3 hgrow3 _
    have HB3 : Hid (Below w.heap.size w w3) := ((HB.out.alloc HB.out.size _).grown hgrow3 (HBS _) (fun g hg => owns_ge HO.out hg))
    have HO3 : Hid (w3.ownsRow w.heap.size 9 1 v3 (ys ++ [(⟨#[45]⟩ : ByteArray)]).length ((ys ++ [(⟨#[45]⟩ : ByteArray)]).map Value.string)) := by
     show World.ownsRow _ _ _ _ _ _ _
     rw [List.length_append, List.map_append]
     exact hown3
    clear hown3 hgrow3 HBS HB HO HY HY2
    go_wp2_with fail
    go_roundw
    case rel => exact ⟨i + 1, ys ++ [(⟨#[45]⟩ : ByteArray)], by go_num, by omega, by rw [List.length_append, HYL.out]; rfl, HO3, HB3, HE2⟩
    case measure => simp [intOf]; omega
  ·
   obtain rfl : i = m := by omega
   have hE := HE.out
   rw [List.take_of_length_le (by rw [HLEN.out]; exact Nat.le_refl _)] at hE
   have HE3 : Hid (ys = valsP xs fs) := hE
   clear hE HE
   go_wp2_with fail
   go_ret
   exact RowIs.of HE3.out rfl HO.out HB.out
end Go.Proofs.YtmcmeeibogkpaaaGreatDoorR
namespace Go.Proofs.YtmcmeeibogkpaaaGreatDoorR
open Go.RowKit
open Go.Lib hiding intOf
theorem cell_of {W : World} {R : Nat} {cs : Array Value} {t : TypeId} (h : W.heap[R]? = some (.cells cs t)) (i : Nat) : W.cell? ⟨R, i, none⟩ = cs[i]? := by simp [World.cell?, h]
theorem frozen_of {W : World} {R : Nat} {cs : Array Value} {t : TypeId} (h : W.heap[R]? = some (.cells cs t)) (i : Nat) : W.frozen? ⟨R, i, none⟩ = false := by simp [World.frozen?, h]
/-- Rows of two types lie apart. -/
theorem own_type_ne {W : World} {b1 b2 z1 z2 n1 n2 : Nat} {t1 t2 : TypeId} {v1 v2 : Value} {xs ys : List Value} (h1 : W.ownsRow b1 t1 z1 v1 n1 xs) (h2 : W.ownsRow b2 t2 z2 v2 n2 ys) (ht : t1 ≠ t2) (j : Nat) (hj : v1.ownBlock = some j) : v2.ownBlock ≠ some j := fun e => by
 rcases h1.2 with ⟨rfl, _⟩ | ⟨g, cap, cur, rfl, _, k1, _⟩
 · cases hj
 ·
  cases hj
  rcases h2.2 with ⟨rfl, _⟩ | ⟨g2, cap2, cur2, rfl, _, k2, _⟩
  · cases e
  ·
   cases e
   rw [k1] at k2
   cases k2
   exact ht rfl
/-- A row whose block lies from there on is owned from there on. -/
theorem owns_lift {w : World} {B base : Nat} {e : TypeId} {size : Nat} {v : Value} {n : Nat} {xs : List Value} (h : w.ownsRow base e size v n xs) (hB : ∀ g, v.ownBlock = some g → B ≤ g) : w.ownsRow B e size v n xs := by
 refine ⟨h.1, ?_⟩
 rcases h.2 with h0 | ⟨g, cap, cur, rfl, _, h1⟩
 · exact .inl h0
 · exact .inr ⟨g, cap, cur, rfl, hB g rfl, h1⟩
end Go.Proofs.YtmcmeeibogkpaaaGreatDoorR
namespace Go.Proofs.YtmcmeeibogkpaaaGreatDoorR
open Go.RowKit
open Go.Lib hiding intOf
theorem cur_set {W : World} {c q : Nat} {a : Option Addr} {len cap : Nat} (h : CurAt W c a len cap) (hne : q ≠ c) (o : Nat) (v : Value) : CurAt (W.setCell ⟨q, o, none⟩ v) c a len cap := by
 obtain ⟨i, x, hi, hh⟩ := h
 exact ⟨i, x, hi, by rw [heap_setCell_other _ _ c _ (fun e => hne e.symm)]; exact hh⟩
theorem own_cur {W : World} {base size n c : Nat} {t : TypeId} {v : Value} {xs : List Value} {a : Option Addr} {len cap : Nat} (ho : W.ownsRow base t size v n xs) (h : CurAt W c a len cap) (hT : 116 ≠ t) (j : Nat) (hj : v.ownBlock = some j) : j ≠ c := by
 obtain ⟨i, x, hi, hh⟩ := h
 exact own_ne ho hh hT j hj
theorem grown_own {w W : World} {q : Nat} {row : Option Nat} (h : w.grownBy W row) (hq : w.heap.size ≤ q) (o : Nat) (v : Value) : w.grownBy (W.setCell ⟨q, o, none⟩ v) row :=
 ⟨h.os, h.tape, h.output, by rw [World.size_setCell]; exact h.size, fun i hi hne => by rw [heap_setCell_other _ _ i _ (fun e => by have e2 : i = q := e; omega)]; exact h.block i hi hne⟩
theorem grown_row {w W W' : World} {row r2 : Option Nat} (h : w.grownBy W row) (h2 : W.grownBy W' r2) (hr : ∀ g, r2 = some g → w.heap.size ≤ g) : w.grownBy W' row :=
 ⟨h2.os.trans h.os, h2.tape.trans h.tape, h2.output.trans h.output, Nat.le_trans h.size h2.size, fun i hi hne => (h2.block i (Nat.lt_of_lt_of_le hi h.size) (fun e => by have := hr i e.symm; omega)).trans (h.block i hi hne)⟩
end Go.Proofs.YtmcmeeibogkpaaaGreatDoorR
namespace Go.Proofs.YtmcmeeibogkpaaaGreatDoorR
open Go.RowKit
open Go.Lib hiding intOf
/-- An object's three lists, in memory of one's own, no two in one block. -/
structure ObjO (W : World) (base : Nat) (v1 : Value) (n1 : Nat) (xs : List ByteArray) (v2 : Value) (n2 : Nat) (ys : List ByteArray) (v3 : Value) (n3 : Nat) (fs : List (ByteArray × ByteArray)) : Prop where
 names : W.ownsRow base 9 1 v1 n1 (xs.map Value.string)
 vals : W.ownsRow base 9 1 v2 n2 (ys.map Value.string)
 flds : W.ownsRow base 74 2 v3 n3 (flatF fs)
 ne : ∀ j, v1.ownBlock = some j → v2.ownBlock ≠ some j
end Go.Proofs.YtmcmeeibogkpaaaGreatDoorR
namespace Go.Proofs.YtmcmeeibogkpaaaGreatDoorR
open Go.RowKit
open Go.Lib hiding intOf
def tagName : ByteArray := ⟨#[101, 116, 97, 103]⟩
def inmName : ByteArray := ⟨#[105, 102, 45, 110, 111, 110, 101, 45, 109, 97, 116, 99, 104]⟩
/-- Names are right: at most four words. -/
def NamesP (xs : List ByteArray) : Prop := (∀ x ∈ xs, TokOk x) ∧ xs.length ≤ 4
def MayP (m : Int) (p : ByteArray) (fs : List (ByteArray × ByteArray)) (b : ByteArray) (st : Int) (gs : List (ByteArray × ByteArray)) (c : ByteArray) : Prop :=
 (ReqP m p fs b ∧ RespP st gs c ∧ m = 1 ∧ st = 200) ∧ (ccR (getV fs ccName)).ns = false ∧ (ccR (getV gs ccName)).ns = false ∧ (ccR (getV gs ccName)).pr = false ∧ (ccR (getV gs ccName)).ha = true ∧ NamesP (varyP gs)
/-- Each field put. -/
def putAll (fs gs : List (ByteArray × ByteArray)) : List (ByteArray × ByteArray) := gs.foldl (fun l f => putF l f.1 f.2) fs
open Classical in
noncomputable def mergeF (st : Int) (fs : List (ByteArray × ByteArray)) (b : ByteArray) (gs : List (ByteArray × ByteArray)) : List (ByteArray × ByteArray) :=
 if RespP st (putAll fs gs) b then putAll fs gs else fs
def SameP (fs gs : List (ByteArray × ByteArray)) : Prop := getB fs inmName = true ∧ getB gs tagName = true ∧ getV fs inmName = getV gs tagName
open Classical in
noncomputable def shortF (gs : List (ByteArray × ByteArray)) : List (ByteArray × ByteArray) := gs.filter fun f => decide (f.1 = tagName ∨ f.1 = varyName ∨ f.1 = ccName)
theorem putF_le (fs : List (ByteArray × ByteArray)) (name value : ByteArray) : (putF fs name value).length ≤ fs.length + 1 := by
 unfold putF
 split
 · rw [List.length_set]; omega
 · rw [List.length_append]; simp
theorem putAll_le (fs gs : List (ByteArray × ByteArray)) : (putAll fs gs).length ≤ fs.length + gs.length := by
 unfold putAll
 induction gs generalizing fs with
 | nil => simp
 | cons f r ih =>
  rw [List.foldl_cons, List.length_cons]
  have h1 := ih (putF fs f.1 f.2)
  have h2 := putF_le fs f.1 f.2
  omega
theorem putAll_snoc (fs gs : List (ByteArray × ByteArray)) (f : ByteArray × ByteArray) : putAll fs (gs ++ [f]) = putF (putAll fs gs) f.1 f.2 := by simp [putAll]
theorem take_field (gs : List (ByteArray × ByteArray)) (k : Nat) (h : k < gs.length) : gs.take (k + 1) = gs.take k ++ [(nameAt gs k, valAt gs k)] := by
 rw [List.take_add_one, List.getElem?_eq_getElem h]
 unfold nameAt valAt
 rw [List.getD_eq_getElem?_getD, List.getElem?_eq_getElem h]
 rfl
open Classical in
theorem shortF_snoc (gs : List (ByteArray × ByteArray)) (f : ByteArray × ByteArray) : shortF (gs ++ [f]) = if f.1 = tagName ∨ f.1 = varyName ∨ f.1 = ccName then shortF gs ++ [f] else shortF gs := by
 unfold shortF
 rw [List.filter_append]
 by_cases h : f.1 = tagName ∨ f.1 = varyName ∨ f.1 = ccName
 · rw [if_pos h]; simp [h]
 · rw [if_neg h]; simp [h]
theorem shortF_le (gs : List (ByteArray × ByteArray)) : (shortF gs).length ≤ gs.length := List.length_filter_le _ _
theorem put_at (fs : List (ByteArray × ByteArray)) (name value : ByteArray) (i : Nat) (M : Nat) (h : ∀ i, i < fs.length → (nameAt fs i).size ≤ M ∧ (valAt fs i).size ≤ M) (h1 : name.size ≤ M) (h2 : value.size ≤ M) (hi : i < (putF fs name value).length) : (nameAt (putF fs name value) i).size ≤ M ∧ (valAt (putF fs name value) i).size ≤ M := by
 have hm : ∀ f ∈ fs, f.1.size ≤ M ∧ f.2.size ≤ M := fun f hf => by
  obtain ⟨j, hj, e⟩ := List.getElem_of_mem hf
  have := h j hj
  unfold nameAt valAt at this
  rw [List.getD_eq_getElem?_getD, List.getElem?_eq_getElem hj] at this
  rw [← e]
  exact this
 have hp : ∀ f ∈ putF fs name value, f.1.size ≤ M ∧ f.2.size ≤ M := fun f hf => by
  unfold putF at hf
  split at hf
  ·
   rename_i hin
   rcases List.mem_or_eq_of_mem_set hf with hf | hf
   · exact hm f hf
   ·
    subst hf
    refine ⟨?_, h2⟩
    first
     | exact h1
     | exact (h _ hin).1
  ·
   rcases List.mem_append.1 hf with hf | hf
   · exact hm f hf
   · rw [List.mem_singleton.1 hf]; exact ⟨h1, h2⟩
 unfold nameAt valAt
 rw [List.getD_eq_getElem?_getD, List.getElem?_eq_getElem hi]
 exact hp _ (List.getElem_mem hi)
theorem put_walk (fs : List (ByteArray × ByteArray)) (name value : ByteArray) (h : WalkF fs.length fs) (h1 : name.size ≤ maxLen) (h2 : value.size ≤ maxLen) : WalkF (putF fs name value).length (putF fs name value) :=
 fun i hi => put_at fs name value i maxLen h h1 h2 hi
end Go.Proofs.YtmcmeeibogkpaaaGreatDoorR
namespace Go.Proofs.YtmcmeeibogkpaaaGreatDoorR
open Go.RowKit
open Go.Lib hiding intOf
theorem textAt_mem (xs : List ByteArray) (j : Nat) (h : j < xs.length) : textAt xs j ∈ xs := by
 unfold textAt
 rw [List.getD_eq_getElem?_getD, List.getElem?_eq_getElem h]
 exact List.getElem_mem _
theorem take_textAt (xs : List ByteArray) (j : Nat) (h : j < xs.length) : xs.take (j + 1) = xs.take j ++ [textAt xs j] := by
 rw [List.take_add_one, List.getElem?_eq_getElem h]
 unfold textAt
 rw [List.getD_eq_getElem?_getD, List.getElem?_eq_getElem h]
 rfl
open Classical in
theorem l8Texts_any (oa ob : Option Addr) (m cm n cn : Nat) (xs ys : List ByteArray) (w : World) (hx : TextsA w oa m xs) (hy : TextsA w ob n ys) (hm : m ≤ 2000000) :
  Calls Tryz.prog 62 #[.slice oa m cm, .slice ob n cn] w fun e w' => e = .returned (.bool (decide (xs = ys))) ∧ Below w.heap.size w w' := by
 have HX : Hid (∀ W, Below w.heap.size w W → TextsA W oa m xs) := fun W h => hx.below h
 have HY : Hid (∀ W, Below w.heap.size w W → TextsA W ob n ys) := fun W h => hy.below h
 have HLX : Hid (xs.length = m) := hx.1
 have HLY : Hid (ys.length = n) := hy.1
 clear hx hy
 go_enter Tryz.func62, Tryz.ntmps62
 go_wp2_with fail
 go_loopw [5] (fun i wr => ∃ j : Nat, j ≤ m ∧ j ≤ n ∧ i = .int .i64 (j : Int) ∧ Below w.heap.size w wr ∧ Hid (xs.take j = ys.take j)) (fun i _ => m - (intOf i).toNat)
 case atStart => exact ⟨0, Nat.zero_le _, Nat.zero_le _, rfl, Below.refl _ _, by show _ = _; simp⟩
 case round =>
  obtain ⟨j, hj, hj2, rfl, hbw, HN⟩ := hrel
  by_cases hlt : (j : Int) < (m : Int)
  ·
   by_cases hlt2 : (j : Int) < (n : Int)
   ·
    have hjx : j < xs.length := by rw [HLX.out]; omega
    have hjy : j < ys.length := by rw [HLY.out]; omega
    obtain ⟨g, rfl, hg, hc⟩ := (HX.out wr hbw).2 j (by omega)
    obtain ⟨g2, rfl, hg2, hc2⟩ := (HY.out wr hbw).2 j (by omega)
    obtain ⟨x, hxx⟩ := exq (textAt xs j)
    obtain ⟨y, hyy⟩ := exq (textAt ys j)
    rw [← hxx] at hc
    rw [← hyy] at hc2
    by_cases he : x = y
    ·
     have HN2 : Hid (xs.take (j + 1) = ys.take (j + 1)) := by
      show _ = _
      rw [take_textAt xs j hjx, take_textAt ys j hjy, ← hxx, ← hyy, HN.out, he]
     subst he
     clear hxx hyy hjx hjy HN
     go_wp2_with fail
     go_quiet (fail)
     go_wp2
     go_roundw
     case rel => exact ⟨j + 1, by omega, by omega, by go_num, below_drewN hbw _, HN2⟩
     case measure => simp [intOf]; omega
    ·
     have t0 : (x.toList == y.toList) = false := text_beq_no he
     have t1 : (x.toList != y.toList) = true := by rw [bne, t0]; rfl
     have HE : Hid (decide (xs = ys) = false) := decide_eq_false (fun h => he (by rw [hxx, hyy, h]))
     clear he hxx hyy hjx hjy HN
     go_wp2_with fail
     go_quiet (fail)
     go_wp2
     go_ret
     exact ⟨by rw [HE.out]; rfl, below_drewN hbw _⟩
   ·
    have HE : Hid (decide (xs = ys) = decide ((m : Int) = (n : Int))) := by
     show _ = _
     rw [decide_eq_decide]
     constructor
     · intro h; have h1 := HLX.out; have h2 := HLY.out; rw [h] at h1; omega
     · intro h; omega
    clear HN
    go_wp2_with fail
    go_ret
    exact ⟨by rw [HE.out]; rfl, hbw⟩
  ·
   have HE : Hid (decide (xs = ys) = decide ((m : Int) = (n : Int))) := by
    show _ = _
    rw [decide_eq_decide]
    constructor
    · intro h; have h1 := HLX.out; have h2 := HLY.out; rw [h] at h1; omega
    ·
     intro h
     have h1 := HN.out
     rw [List.take_of_length_le (by rw [HLX.out]; omega), List.take_of_length_le (by rw [HLY.out]; omega)] at h1
     exact h1
   clear HN
   go_wp2_with fail
   go_ret
   exact ⟨by rw [HE.out]; rfl, hbw⟩
end Go.Proofs.YtmcmeeibogkpaaaGreatDoorR
namespace Go.Proofs.YtmcmeeibogkpaaaGreatDoorR
open Go.RowKit
open Go.Lib hiding intOf
/-- An object is right. -/
def ObjP (p : ByteArray) (xs ys : List ByteArray) (st : Int) (fs : List (ByteArray × ByteArray)) (b : ByteArray) (t : Int) : Prop :=
 RespP st fs b ∧ PathOk p ∧ (0 ≤ t ∧ t ≤ 1000000) ∧ NamesP xs ∧ xs = varyP fs ∧ ys.length = xs.length ∧ ∀ y ∈ ys, ValOk y
theorem texts_view {w : World} {base n p : Nat} {o : Option Addr} {xs : List ByteArray} (h : w.ownsRow base 9 1 (.slice o n p) n (xs.map Value.string)) : TextsA w o n xs := by
 obtain ⟨oa, ca, he, hx⟩ := texts_own h
 cases he
 exact hx
end Go.Proofs.YtmcmeeibogkpaaaGreatDoorR
namespace Go.Proofs.YtmcmeeibogkpaaaGreatDoorR
open Go.RowKit
open Go.Lib hiding intOf
theorem l9Names_any (oa : Option Addr) (m cm : Nat) (xs : List ByteArray) (w : World) (hx : TextsA w oa m xs) (hm : m ≤ 2000000) (hsz : ∀ i, i < m → (textAt xs i).size ≤ maxLen) :
  Calls Tryz.prog 61 #[.slice oa m cm] w fun e w' => BoolIs (NamesP xs) w e w' := by
 have HX : Hid (∀ W, Below w.heap.size w W → TextsA W oa m xs) := fun W h => hx.below h
 have HL : Hid (xs.length = m) := hx.1
 have HS : Hid (∀ i, i < m → (textAt xs i).size ≤ maxLen) := hsz
 clear hx hsz
 go_enter Tryz.func61, Tryz.ntmps61
 go_wp2_with fail
 go_loopw [3] (fun i wr => ∃ j : Nat, j ≤ m ∧ i = .int .i64 (j : Int) ∧ Below w.heap.size w wr ∧ Hid (∀ x ∈ xs.take j, TokOk x)) (fun i _ => m - (intOf i).toNat)
 case atStart => exact ⟨0, Nat.zero_le _, rfl, Below.refl _ _, fun x hx => by simp at hx⟩
 case round =>
  obtain ⟨j, hj, rfl, hbw, HN⟩ := hrel
  by_cases hlt : (j : Int) < (m : Int)
  ·
   have hjx : j < xs.length := by rw [HL.out]; omega
   obtain ⟨g, rfl, hg, hc⟩ := (HX.out wr hbw).2 j (by omega)
   have hs := HS.out j (by omega)
   obtain ⟨x, hxx⟩ := exq (textAt xs j)
   rw [← hxx] at hc hs
   have HM : Hid (x ∈ xs) := by show _ ∈ _; rw [hxx]; exact textAt_mem xs j hjx
   have HT : Hid (xs.take (j + 1) = xs.take j ++ [x]) := by show _ = _; rw [take_textAt xs j hjx, hxx]
   clear hxx hjx
   go_wp2_with fail
   refine (specTokenOk_any x _ hs).mono ?_
   rintro e w1 ⟨t, rfl, ht, b1⟩
   have hb1 : Below w.heap.size w w1 := hbw.trans (b1.mono hbw.size)
   clear b1 hbw hc
   cases t with
   | false =>
    have HF : Hid (¬ NamesP xs) := fun h => nomatch ht.2 (h.1 x HM.out)
    clear ht HN
    go_wp2_with fail
    go_ret
    exact BoolIs.no HF.out hb1
   | true =>
    have HN2 : Hid (∀ y ∈ xs.take (j + 1), TokOk y) := by
     intro y hy
     rw [HT.out] at hy
     rcases List.mem_append.1 hy with hy | hy
     · exact HN.out y hy
     · rw [List.mem_singleton.1 hy]; exact ht.1 rfl
    clear ht HN
    go_wp2_with fail
    go_roundw
    case rel => exact ⟨j + 1, by omega, by go_num, hb1, HN2⟩
    case measure => simp [intOf]; omega
  ·
   have HA : Hid (∀ x ∈ xs, TokOk x) := by
    have h := HN.out
    rw [List.take_of_length_le (by rw [HL.out]; omega)] at h
    exact h
   have HQ : Hid (((m : Int) ≤ 4) ↔ NamesP xs) := ⟨fun h => ⟨HA.out, by rw [HL.out]; omega⟩, fun h => by have := h.2; rw [HL.out] at this; omega⟩
   clear HN
   go_wp2_with fail
   go_ret
   exact ⟨decide ((m : Int) ≤ 4), rfl, by rw [decide_eq_true_iff]; exact HQ.out, hbw⟩
theorem l9Copy_any (v : Value) (n base : Nat) (fs : List (ByteArray × ByteArray)) (w : World) (hv : FieldsV w base v n fs) (hn : n ≤ 2000000) :
  Calls Tryz.prog 94 #[v] w fun e w' => RowF fs w e w' := by
 obtain ⟨i0, hi, hz0, hz1, hz2⟩ := info_parts info33
 have hl := hv.len
 have h63a : 0 + n ≤ maxLen := by unfold maxLen; omega
 have h47a : (0 + n) * 32 ≤ 140737488355328 := by omega
 have hown0 : (w.alloc (.cells #[] 74)).ownsRow w.heap.size 74 2 (.slice (some ⟨w.heap.size, 0, none⟩) 0 0) 0 [] := ⟨rfl, .inr ⟨w.heap.size, 0, #[], rfl, Nat.le_refl _, heap_alloc_new w _, Nat.le_refl _, Nat.zero_le _, rfl, rfl⟩⟩
 have hbs0 : w.heap.size ≤ (w.alloc (.cells #[] 74)).heap.size := by simp
 have hv1 := hv.below ((Below.refl _ w).alloc (Nat.le_refl _) (.cells #[] 74))
 rcases hv1.src with ⟨rfl, rfl, rfl⟩ | ⟨ad, cap, rfl, hcs⟩
 ·
  have hb2 : Below w.heap.size w (w.alloc (.cells #[] 74)) := (Below.refl _ w).alloc (Nat.le_refl _) _
  clear hv
  go_enter Tryz.func94, Tryz.ntmps94
  go_wp2_with (at_builtin; refine wpList_append_own_none rfl _ _ 24 rfl w.heap.size 74 i0 2 Tryz.underlying24 hi _ _ _ rfl hown0 rfl ?_)
  go_wp2
  go_ret
  exact ⟨_, rfl, hown0, hb2⟩
 ·
  have hnl : (flatF fs).length = n * 2 := by rw [flatF_len, hl]
  go_enter Tryz.func94, Tryz.ntmps94
  go_wp2_with (at_builtin; refine wpList_append_own _ rfl _ _ 24 rfl w.heap.size 74 i0 (.agg #[.string ⟨#[]⟩, .string ⟨#[]⟩]) 2 32 Tryz.underlying24 hi hz0 hz1 hz2 rfl (by decide) _ _ _ rfl hown0 ad n cap (flatF fs) rfl hnl hcs (flat_one _) h63a h47a hbs0 ?_)
  intro v1 w2 hown1 hgrow _
  have hb2 : Below w.heap.size w w2 := ((Below.refl _ w).alloc (Nat.le_refl _) _).grown hgrow hbs0 (fun g hg => owns_ge hown0 hg)
  have hown2 : w2.ownsRow w.heap.size 74 2 v1 fs.length (flatF fs) := by rw [hl]; simpa using hown1
  clear hgrow hown1 hown0 hbs0 hv1 hcs hv
  go_wp2
  go_ret
  exact ⟨_, rfl, hown2, hb2⟩
theorem specSame_any (m : Int) (p : ByteArray) (v : Value) (b : ByteArray) (n base : Nat) (fs : List (ByteArray × ByteArray)) (u : Value) (k base2 : Nat) (gs : List (ByteArray × ByteArray)) (w : World) (hv : FieldsV w base v n fs) (hn : n ≤ 1073741824) (hu : FieldsV w base2 u k gs) (hk : k ≤ 1073741824) :
  Calls Tryz.prog 45 #[.agg #[.int .i64 m, .string p, v, .string b], u] w fun e w' => BoolIs (SameP fs gs) w e w' := by
 obtain ⟨oa, cap, rfl, _⟩ := hv.slice
 obtain ⟨W0, hW0⟩ := exq (w.alloc (.cells #[.int .i64 m, .string p, .slice oa n cap, .string b] 26))
 have HW0 : Hid (w.alloc (.cells #[.int .i64 m, .string p, .slice oa n cap, .string b] 26) = W0) := hW0.symm
 have b0 : Below w.heap.size w W0 := by rw [hW0]; exact (Below.refl _ w).alloc (Nat.le_refl _) _
 have hv0 := hv.below b0
 have HU : Hid (FieldsV W0 base2 u k gs) := hu.below b0
 obtain ⟨⟨_, _, c2, _⟩, _⟩ := four_facts (show W0.heap[w.heap.size]? = some (.cells #[.int .i64 m, .string p, .slice oa n cap, .string b] 26) by rw [hW0]; exact heap_alloc_new w _)
 have HB : Hid (Below w.heap.size w W0) := b0
 obtain ⟨s, hs⟩ := exq (getV fs inmName)
 obtain ⟨t, ht⟩ := exq (getV gs tagName)
 obtain ⟨f1, hf1⟩ := exq (getB fs inmName)
 obtain ⟨f2, hf2⟩ := exq (getB gs tagName)
 have HQ : Hid (SameP fs gs ↔ f1 = true ∧ f2 = true ∧ s = t) := by show _ ↔ _; rw [hs, ht, hf1, hf2]; rfl
 have HE1 : Hid (getV fs inmName = s) := hs.symm
 have HE2 : Hid (getV gs tagName = t) := ht.symm
 have HE3 : Hid (getB fs inmName = f1) := hf1.symm
 have HE4 : Hid (getB gs tagName = f2) := hf2.symm
 obtain ⟨r, hr⟩ := exq (w.heap.size)
 have HR : Hid (w.heap.size = r) := hr.symm
 rw [← hr] at c2
 clear hW0 b0 hv hu hs ht hf1 hf2
 go_enter Tryz.func45, Tryz.ntmps45
 go_upto_region 1 with fail
 rw [HW0.out, ← hr]
 clear hr HW0
 go_wp2_with fail
 refine (specGet_any _ n base fs inmName _ hv0 hn).mono ?_
 rintro e w1 ⟨rfl, rfl⟩
 rw [HE1.out, HE3.out]
 clear hv0 c2
 go_wp2_with fail
 refine (specGet_any u k base2 gs tagName _ HU.out hk).mono ?_
 rintro e w2 ⟨rfl, rfl⟩
 rw [HE2.out, HE4.out]
 cases f1 with
 | false =>
  have HF : Hid (¬ SameP fs gs) := fun h => nomatch (HQ.out.1 h).1
  go_wp2_with fail
  go_ret
  exact BoolIs.no HF.out HB.out
 | true =>
  cases f2 with
  | false =>
   have HF : Hid (¬ SameP fs gs) := fun h => nomatch (HQ.out.1 h).2.1
   go_wp2_with fail
   go_ret
   exact BoolIs.no HF.out HB.out
  | true =>
   have HT : Hid ((s.toList == t.toList) = true ↔ SameP fs gs) := by show _ ↔ _; rw [HQ.out, text_beq]; simp
   go_wp2_with fail
   go_ret
   exact ⟨_, rfl, HT.out, HB.out⟩
end Go.Proofs.YtmcmeeibogkpaaaGreatDoorR
namespace Go.Proofs.YtmcmeeibogkpaaaGreatDoorR
open Go.RowKit
open Go.Lib hiding intOf
theorem specObjOk_any (p : ByteArray) (o1 : Option Addr) (n1 c1 : Nat) (xs : List ByteArray) (o2 : Option Addr) (n2 c2 : Nat) (ys : List ByteArray) (st : Int) (v3 : Value) (n3 base : Nat) (fs : List (ByteArray × ByteArray)) (b : ByteArray) (t : Int) (w : World) (h1 : TextsA w o1 n1 xs) (h2 : TextsA w o2 n2 ys) (h3 : FieldsV w base v3 n3 fs) (hn1 : n1 ≤ 2000000) (hn2 : n2 ≤ 2000000) (hn3 : n3 ≤ 2000000) (hs1 : ∀ i, i < n1 → (textAt xs i).size ≤ maxLen) (hs2 : ∀ i, i < n2 → (textAt ys i).size ≤ maxLen) (hs3 : WalkF n3 fs) (hp : p.size ≤ maxLen) (hx : b.size ≤ maxLen) (hg : (getV fs varyName).size ≤ 1048576) :
  Calls Tryz.prog 15 #[.agg #[.string p, .slice o1 n1 c1, .slice o2 n2 c2, .int .i64 st, v3, .string b, .int .i64 t]] w fun e w' => BoolIs (ObjP p xs ys st fs b t) w e w' := by
 obtain ⟨o3, c3, rfl, _⟩ := h3.slice
 have HV1 : Hid (∀ W, Below w.heap.size w W → TextsA W o1 n1 xs) := fun W h => h1.below h
 have HV2 : Hid (∀ W, Below w.heap.size w W → TextsA W o2 n2 ys) := fun W h => h2.below h
 have HV3 : Hid (∀ W, Below w.heap.size w W → FieldsV W base (.slice o3 n3 c3) n3 fs) := fun W h => h3.below h
 have HL1 : Hid (xs.length = n1) := h1.1
 have HL2 : Hid (ys.length = n2) := h2.1
 have HS1 : Hid (∀ i, i < n1 → (textAt xs i).size ≤ maxLen) := hs1
 have HS2 : Hid (∀ i, i < n2 → (textAt ys i).size ≤ maxLen) := hs2
 have HS3 : Hid (WalkF n3 fs) := hs3
 have HPM : Hid (p.size ≤ maxLen) := hp
 have HX : Hid (b.size ≤ maxLen) := hx
 have HG : Hid ((getV fs varyName).size ≤ 1048576) := hg
 obtain ⟨vl, hvl⟩ := exq (varyP fs)
 have HVL : Hid (varyP fs = vl) := hvl.symm
 clear h1 h2 h3 hs1 hs2 hs3 hp hx hg hvl
 have hb0 : Below w.heap.size w w := Below.refl _ _
 go_enter Tryz.func15, Tryz.ntmps15
 go_upto_region 1 with fail
 obtain ⟨qv1, hqv1⟩ := exq ((w).heap.size)
 obtain ⟨w1, hW1⟩ := exq ((w).alloc (.cells #[.string p, .slice o1 n1 c1, .slice o2 n2 c2, .int .i64 st, .slice o3 n3 c3, .string b, .int .i64 t] 31))
 have hz1 : (w).heap.size = qv1 := hqv1.symm
 first | rw [← hW1, ← hqv1] | rw [← hW1]
 have hs1 := hsa hW1 hz1
 have bw := bal hW1
 have hb1 := hbt hb0 bw
 have HBv1_1 := hnew hW1 hz1
 clear hb0 bw hW1 hz1
 clear hs1 hqv1
 go_upto_region 1 with fail
 refine wp_region_held_drew (S := fun W => W.heap[qv1]? = some (.cells #[.string p, .slice o1 n1 c1, .slice o2 n2 c2, .int .i64 st, .slice o3 n3 c3, .string b, .int .i64 t] 31)) (by kernel_rfl) HBv1_1.out (fun _ => ?_)
 obtain ⟨w2, hX⟩ := exq w1.drew
 have bw := bdr hX
 rw [← hX]
 have hb2 := hbt hb1 bw
 have HBv1_2 := hblk HBv1_1 bw
 have hS2 := HBv1_2.out
 clear hb1 HBv1_1 bw hX
 refine tkP 0 (.pointer (some ⟨qv1, 3, none⟩)) 4 rfl rfl hS2 ?_
 go_frame
 refine tkL 1 (.agg #[.int .i64 st, .slice o3 n3 c3, .string b]) 5 rfl rfl (Or.inl ⟨by rfl, by intro W hW; have hhv1 := hW; have y3 := (cell_of hhv1 3).trans rfl; have y4 := (cell_of hhv1 4).trans rfl; have y5 := (cell_of hhv1 5).trans rfl; go_simp⟩) hS2 ?_
 go_frame
 refine rd1 2 rfl (fun K hK => ?_)
 go_simp
 refine (specRespOk_any st _ b n3 base fs _ (HV3.out _ hb2) (by omega) HS3.out HX.out).mono ?_
 rintro e w3 ⟨u1, rfl, htu1, bw⟩
 have hb3 := hbt hb2 bw
 have HBv1_3 := hblk HBv1_2 bw
 clear hb2 HBv1_2 bw
 have hS3 := HBv1_3.out
 refine hK.out _ _ hS3 (fun _ => ?_)
 clear hK K hS2
 cases u1 with
 | false =>
  have HF : Hid (¬ ObjP p xs ys st fs b t) := fun h => nomatch htu1.2 h.1
  clear htu1
  refine tkP 3 (.bool true) 7 rfl rfl hS3 ?_
  go_frame
  refine tkP 4 (.bool true) 8 rfl rfl hS3 ?_
  go_frame
  refine tkN 5 9 rfl rfl hS3 ?_
  go_frame
  refine tkN 6 10 rfl rfl hS3 ?_
  go_frame
  refine tkN 7 11 rfl rfl hS3 ?_
  go_frame
  refine tkN 8 12 rfl rfl hS3 ?_
  go_frame
  refine tkP 9 (.bool true) 13 rfl rfl hS3 ?_
  go_frame
  refine tkP 10 (.bool true) 14 rfl rfl hS3 ?_
  go_frame
  refine tkN 11 15 rfl rfl hS3 ?_
  go_frame
  refine tkN 12 16 rfl rfl hS3 ?_
  go_frame
  refine tkN 13 17 rfl rfl hS3 ?_
  go_frame
  refine tkN 14 18 rfl rfl hS3 ?_
  go_frame
  refine tkP 15 (.bool true) 19 rfl rfl hS3 ?_
  go_frame
  refine tkP 16 (.bool true) 20 rfl rfl hS3 ?_
  go_frame
  refine tkN 17 21 rfl rfl hS3 ?_
  go_frame
  refine tkN 18 22 rfl rfl hS3 ?_
  go_frame
  refine tkN 19 23 rfl rfl hS3 ?_
  go_frame
  refine tkN 20 24 rfl rfl hS3 ?_
  go_frame
  refine tkP 21 (.bool true) 25 rfl rfl hS3 ?_
  go_frame
  refine tkP 22 (.bool true) 26 rfl rfl hS3 ?_
  go_frame
  refine tkN 23 27 rfl rfl hS3 ?_
  go_frame
  refine tkN 24 28 rfl rfl hS3 ?_
  go_frame
  refine tkN 25 29 rfl rfl hS3 ?_
  go_frame
  refine tkN 26 30 rfl rfl hS3 ?_
  go_frame
  refine tkN 27 31 rfl rfl hS3 ?_
  go_frame
  refine tkN 28 32 rfl rfl hS3 ?_
  go_frame
  refine tkN 29 33 rfl rfl hS3 ?_
  go_frame
  refine tkN 30 34 rfl rfl hS3 ?_
  go_frame
  refine tkP 31 (.bool true) 35 rfl rfl hS3 ?_
  go_frame
  refine tkP 32 (.bool true) 36 rfl rfl hS3 ?_
  go_frame
  refine tkN 33 37 rfl rfl hS3 ?_
  go_frame
  refine tkN 34 38 rfl rfl hS3 ?_
  go_frame
  refine tkN 35 39 rfl rfl hS3 ?_
  go_frame
  refine tkN 36 40 rfl rfl hS3 ?_
  go_frame
  refine tkN 37 41 rfl rfl hS3 ?_
  go_frame
  refine tkN 38 42 rfl rfl hS3 ?_
  go_frame
  refine tkN 39 43 rfl rfl hS3 ?_
  go_frame
  refine tkP 40 (.bool true) 44 rfl rfl hS3 ?_
  go_frame
  clear hS3
  refine wpAnyH_done (by kernel_rfl) ?_ _
  go_wp2_with fail
  go_ret
  exact BoolIs.no HF.out hb3
 | true =>
  have HR : Hid (RespP st fs b) := htu1.1 rfl
  clear htu1
  refine tkP 3 (.bool false) 7 rfl rfl hS3 ?_
  go_frame
  refine tkP 4 (.bool false) 8 rfl rfl hS3 ?_
  go_frame
  refine tkP 5 (.pointer (some ⟨qv1, 0, none⟩)) 9 rfl rfl hS3 ?_
  go_frame
  refine tkL 6 (.string p) 10 rfl rfl (Or.inl ⟨by rfl, by intro W hW; have hhv1 := hW; have y0 := (cell_of hhv1 0).trans rfl; go_simp⟩) hS3 ?_
  go_frame
  refine rd1 7 rfl (fun K hK => ?_)
  go_simp
  refine (l3Path_any p _ HPM.out).mono ?_
  rintro e w4 ⟨u2, rfl, htu2, bw⟩
  have hb4 := hbt hb3 bw
  have HBv1_4 := hblk HBv1_3 bw
  clear hb3 HBv1_3 bw
  have hS4 := HBv1_4.out
  refine hK.out _ _ hS4 (fun _ => ?_)
  clear hK K hS3
  cases u2 with
  | false =>
   have HF : Hid (¬ ObjP p xs ys st fs b t) := fun h => nomatch htu2.2 h.2.1
   clear htu2
   refine tkP 8 (.bool true) 12 rfl rfl hS4 ?_
   go_frame
   refine tkP 9 (.bool true) 13 rfl rfl hS4 ?_
   go_frame
   refine tkP 10 (.bool true) 14 rfl rfl hS4 ?_
   go_frame
   refine tkN 11 15 rfl rfl hS4 ?_
   go_frame
   refine tkN 12 16 rfl rfl hS4 ?_
   go_frame
   refine tkN 13 17 rfl rfl hS4 ?_
   go_frame
   refine tkN 14 18 rfl rfl hS4 ?_
   go_frame
   refine tkP 15 (.bool true) 19 rfl rfl hS4 ?_
   go_frame
   refine tkP 16 (.bool true) 20 rfl rfl hS4 ?_
   go_frame
   refine tkN 17 21 rfl rfl hS4 ?_
   go_frame
   refine tkN 18 22 rfl rfl hS4 ?_
   go_frame
   refine tkN 19 23 rfl rfl hS4 ?_
   go_frame
   refine tkN 20 24 rfl rfl hS4 ?_
   go_frame
   refine tkP 21 (.bool true) 25 rfl rfl hS4 ?_
   go_frame
   refine tkP 22 (.bool true) 26 rfl rfl hS4 ?_
   go_frame
   refine tkN 23 27 rfl rfl hS4 ?_
   go_frame
   refine tkN 24 28 rfl rfl hS4 ?_
   go_frame
   refine tkN 25 29 rfl rfl hS4 ?_
   go_frame
   refine tkN 26 30 rfl rfl hS4 ?_
   go_frame
   refine tkN 27 31 rfl rfl hS4 ?_
   go_frame
   refine tkN 28 32 rfl rfl hS4 ?_
   go_frame
   refine tkN 29 33 rfl rfl hS4 ?_
   go_frame
   refine tkN 30 34 rfl rfl hS4 ?_
   go_frame
   refine tkP 31 (.bool true) 35 rfl rfl hS4 ?_
   go_frame
   refine tkP 32 (.bool true) 36 rfl rfl hS4 ?_
   go_frame
   refine tkN 33 37 rfl rfl hS4 ?_
   go_frame
   refine tkN 34 38 rfl rfl hS4 ?_
   go_frame
   refine tkN 35 39 rfl rfl hS4 ?_
   go_frame
   refine tkN 36 40 rfl rfl hS4 ?_
   go_frame
   refine tkN 37 41 rfl rfl hS4 ?_
   go_frame
   refine tkN 38 42 rfl rfl hS4 ?_
   go_frame
   refine tkN 39 43 rfl rfl hS4 ?_
   go_frame
   refine tkP 40 (.bool true) 44 rfl rfl hS4 ?_
   go_frame
   clear hS4
   refine wpAnyH_done (by kernel_rfl) ?_ _
   go_wp2_with fail
   go_ret
   exact BoolIs.no HF.out hb4
  | true =>
   have HP : Hid (PathOk p) := htu2.1 rfl
   clear htu2
   refine tkP 8 (.bool false) 12 rfl rfl hS4 ?_
   go_frame
   refine tkP 9 (.bool false) 13 rfl rfl hS4 ?_
   go_frame
   refine tkP 10 (.bool false) 14 rfl rfl hS4 ?_
   go_frame
   refine tkP 11 (.pointer (some ⟨qv1, 6, none⟩)) 15 rfl rfl hS4 ?_
   go_frame
   refine tkL 12 (.int .i64 t) 16 rfl rfl (Or.inl ⟨by rfl, by intro W hW; have hhv1 := hW; have y6 := (cell_of hhv1 6).trans rfl; go_simp⟩) hS4 ?_
   go_frame
   refine rd1 13 rfl (fun K hK => ?_)
   go_simp
   refine (l1In_any t 0 1000000 _).mono ?_
   rintro e w5 ⟨rfl, hwe⟩
   have bw : Below (w4).heap.size (w4) w5 := by rw [hwe]; exact Below.refl _ _
   clear hwe
   obtain ⟨u3, hu3⟩ : ∃ u3, u3 = decide ((0 : Int) ≤ t ∧ t ≤ 1000000) := ⟨_, rfl⟩
   rw [← hu3]
   have hb5 := hbt hb4 bw
   have HBv1_5 := hblk HBv1_4 bw
   clear hb4 HBv1_4 bw
   have hS5 := HBv1_5.out
   refine hK.out _ _ hS5 (fun _ => ?_)
   clear hK K hS4
   cases u3 with
   | false =>
    have HF : Hid (¬ ObjP p xs ys st fs b t) := fun h => absurd h.2.2.1 (of_decide_eq_false hu3.symm)
    clear hu3
    refine tkP 14 (.bool true) 18 rfl rfl hS5 ?_
    go_frame
    refine tkP 15 (.bool true) 19 rfl rfl hS5 ?_
    go_frame
    refine tkP 16 (.bool true) 20 rfl rfl hS5 ?_
    go_frame
    refine tkN 17 21 rfl rfl hS5 ?_
    go_frame
    refine tkN 18 22 rfl rfl hS5 ?_
    go_frame
    refine tkN 19 23 rfl rfl hS5 ?_
    go_frame
    refine tkN 20 24 rfl rfl hS5 ?_
    go_frame
    refine tkP 21 (.bool true) 25 rfl rfl hS5 ?_
    go_frame
    refine tkP 22 (.bool true) 26 rfl rfl hS5 ?_
    go_frame
    refine tkN 23 27 rfl rfl hS5 ?_
    go_frame
    refine tkN 24 28 rfl rfl hS5 ?_
    go_frame
    refine tkN 25 29 rfl rfl hS5 ?_
    go_frame
    refine tkN 26 30 rfl rfl hS5 ?_
    go_frame
    refine tkN 27 31 rfl rfl hS5 ?_
    go_frame
    refine tkN 28 32 rfl rfl hS5 ?_
    go_frame
    refine tkN 29 33 rfl rfl hS5 ?_
    go_frame
    refine tkN 30 34 rfl rfl hS5 ?_
    go_frame
    refine tkP 31 (.bool true) 35 rfl rfl hS5 ?_
    go_frame
    refine tkP 32 (.bool true) 36 rfl rfl hS5 ?_
    go_frame
    refine tkN 33 37 rfl rfl hS5 ?_
    go_frame
    refine tkN 34 38 rfl rfl hS5 ?_
    go_frame
    refine tkN 35 39 rfl rfl hS5 ?_
    go_frame
    refine tkN 36 40 rfl rfl hS5 ?_
    go_frame
    refine tkN 37 41 rfl rfl hS5 ?_
    go_frame
    refine tkN 38 42 rfl rfl hS5 ?_
    go_frame
    refine tkN 39 43 rfl rfl hS5 ?_
    go_frame
    refine tkP 40 (.bool true) 44 rfl rfl hS5 ?_
    go_frame
    clear hS5
    refine wpAnyH_done (by kernel_rfl) ?_ _
    go_wp2_with fail
    go_ret
    exact BoolIs.no HF.out hb5
   | true =>
    have HT : Hid (0 ≤ t ∧ t ≤ 1000000) := (show 0 ≤ t ∧ t ≤ 1000000 from of_decide_eq_true hu3.symm)
    clear hu3
    refine tkP 14 (.bool false) 18 rfl rfl hS5 ?_
    go_frame
    refine tkP 15 (.bool false) 19 rfl rfl hS5 ?_
    go_frame
    refine tkP 16 (.bool false) 20 rfl rfl hS5 ?_
    go_frame
    refine tkP 17 (.pointer (some ⟨qv1, 1, none⟩)) 21 rfl rfl hS5 ?_
    go_frame
    refine tkL 18 (.slice o1 n1 c1) 22 rfl rfl (Or.inl ⟨by rfl, by intro W hW; have hhv1 := hW; have y1 := (cell_of hhv1 1).trans rfl; go_simp⟩) hS5 ?_
    go_frame
    refine rd1 19 rfl (fun K hK => ?_)
    go_simp
    refine (l9Names_any _ _ _ xs _ (HV1.out _ hb5) (by omega) HS1.out).mono ?_
    rintro e w6 ⟨u4, rfl, htu4, bw⟩
    have hb6 := hbt hb5 bw
    have HBv1_6 := hblk HBv1_5 bw
    clear hb5 HBv1_5 bw
    have hS6 := HBv1_6.out
    refine hK.out _ _ hS6 (fun _ => ?_)
    clear hK K hS5
    cases u4 with
    | false =>
     have HF : Hid (¬ ObjP p xs ys st fs b t) := fun h => nomatch htu4.2 h.2.2.2.1
     clear htu4
     refine tkP 20 (.bool true) 24 rfl rfl hS6 ?_
     go_frame
     refine tkP 21 (.bool true) 25 rfl rfl hS6 ?_
     go_frame
     refine tkP 22 (.bool true) 26 rfl rfl hS6 ?_
     go_frame
     refine tkN 23 27 rfl rfl hS6 ?_
     go_frame
     refine tkN 24 28 rfl rfl hS6 ?_
     go_frame
     refine tkN 25 29 rfl rfl hS6 ?_
     go_frame
     refine tkN 26 30 rfl rfl hS6 ?_
     go_frame
     refine tkN 27 31 rfl rfl hS6 ?_
     go_frame
     refine tkN 28 32 rfl rfl hS6 ?_
     go_frame
     refine tkN 29 33 rfl rfl hS6 ?_
     go_frame
     refine tkN 30 34 rfl rfl hS6 ?_
     go_frame
     refine tkP 31 (.bool true) 35 rfl rfl hS6 ?_
     go_frame
     refine tkP 32 (.bool true) 36 rfl rfl hS6 ?_
     go_frame
     refine tkN 33 37 rfl rfl hS6 ?_
     go_frame
     refine tkN 34 38 rfl rfl hS6 ?_
     go_frame
     refine tkN 35 39 rfl rfl hS6 ?_
     go_frame
     refine tkN 36 40 rfl rfl hS6 ?_
     go_frame
     refine tkN 37 41 rfl rfl hS6 ?_
     go_frame
     refine tkN 38 42 rfl rfl hS6 ?_
     go_frame
     refine tkN 39 43 rfl rfl hS6 ?_
     go_frame
     refine tkP 40 (.bool true) 44 rfl rfl hS6 ?_
     go_frame
     clear hS6
     refine wpAnyH_done (by kernel_rfl) ?_ _
     go_wp2_with fail
     go_ret
     exact BoolIs.no HF.out hb6
    | true =>
     have HNM : Hid (NamesP xs) := htu4.1 rfl
     clear htu4
     refine tkP 20 (.bool false) 24 rfl rfl hS6 ?_
     go_frame
     refine tkP 21 (.bool false) 25 rfl rfl hS6 ?_
     go_frame
     refine tkP 22 (.bool false) 26 rfl rfl hS6 ?_
     go_frame
     refine tkP 23 (.pointer (some ⟨qv1, 1, none⟩)) 27 rfl rfl hS6 ?_
     go_frame
     refine tkL 24 (.slice o1 n1 c1) 28 rfl rfl (Or.inl ⟨by rfl, by intro W hW; have hhv1 := hW; have y1 := (cell_of hhv1 1).trans rfl; go_simp⟩) hS6 ?_
     go_frame
     refine tkP 25 (.pointer (some ⟨qv1, 3, none⟩)) 29 rfl rfl hS6 ?_
     go_frame
     refine tkP 26 (.pointer (some ⟨qv1, 4, none⟩)) 30 rfl rfl hS6 ?_
     go_frame
     refine tkL 27 (.slice o3 n3 c3) 31 rfl rfl (Or.inl ⟨by rfl, by intro W hW; have hhv1 := hW; have y4 := (cell_of hhv1 4).trans rfl; go_simp⟩) hS6 ?_
     go_frame
     refine rd1 28 rfl (fun K hK => ?_)
     go_simp
     refine (specVaryOf_any _ n3 base fs _ (HV3.out _ hb6) (by omega) HG.out).mono ?_
     rintro e w7 ⟨vv, rfl, ownY, bw⟩
     obtain ⟨oY, pY, rfl⟩ := slice_of_owns ownY
     rw [HVL.out] at ownY ⊢
     have hb7 := hbt hb6 bw
     have HBv1_7 := hblk HBv1_6 bw
     have HOY_7 := hwd ownY hb6.size
     clear ownY
     clear hb6 HBv1_6 bw
     have hS7 := HBv1_7.out
     refine hK.out _ _ hS7 (fun _ => ?_)
     clear hK K hS6
     refine rd1 29 rfl (fun K hK => ?_)
     go_simp
     refine (l8Texts_any _ _ _ _ _ _ xs vl _ (HV1.out _ hb7) (texts_view HOY_7.out) (by omega)).mono ?_
     rintro e w8 ⟨rfl, bw⟩
     obtain ⟨u5, hu5⟩ := exq (decide (xs = vl))
     rw [← hu5]
     have hb8 := hbt hb7 bw
     have HOY_8 := hown HOY_7 bw
     have HBv1_8 := hblk HBv1_7 bw
     clear hb7 HOY_7 HBv1_7 bw
     have hS8 := HBv1_8.out
     refine hK.out _ _ hS8 (fun _ => ?_)
     clear hK K hS7
     cases u5 with
     | false =>
      have HF : Hid (¬ ObjP p xs ys st fs b t) := fun h => absurd (h.2.2.2.2.1.trans HVL.out) (of_decide_eq_false hu5.symm)
      clear hu5
      refine tkP 30 (.bool true) 34 rfl rfl hS8 ?_
      go_frame
      refine tkP 31 (.bool true) 35 rfl rfl hS8 ?_
      go_frame
      refine tkP 32 (.bool true) 36 rfl rfl hS8 ?_
      go_frame
      refine tkN 33 37 rfl rfl hS8 ?_
      go_frame
      refine tkN 34 38 rfl rfl hS8 ?_
      go_frame
      refine tkN 35 39 rfl rfl hS8 ?_
      go_frame
      refine tkN 36 40 rfl rfl hS8 ?_
      go_frame
      refine tkN 37 41 rfl rfl hS8 ?_
      go_frame
      refine tkN 38 42 rfl rfl hS8 ?_
      go_frame
      refine tkN 39 43 rfl rfl hS8 ?_
      go_frame
      refine tkP 40 (.bool true) 44 rfl rfl hS8 ?_
      go_frame
      clear hS8
      refine wpAnyH_done (by kernel_rfl) ?_ _
      go_wp2_with fail
      go_ret
      exact BoolIs.no HF.out hb8
     | true =>
      have HE : Hid (xs = vl) := (show xs = vl from of_decide_eq_true hu5.symm)
      clear hu5
      refine tkP 30 (.bool false) 34 rfl rfl hS8 ?_
      go_frame
      refine tkP 31 (.bool false) 35 rfl rfl hS8 ?_
      go_frame
      refine tkP 32 (.bool false) 36 rfl rfl hS8 ?_
      go_frame
      refine tkP 33 (.pointer (some ⟨qv1, 2, none⟩)) 37 rfl rfl hS8 ?_
      go_frame
      refine tkL 34 (.slice o2 n2 c2) 38 rfl rfl (Or.inl ⟨by rfl, by intro W hW; have hhv1 := hW; have y2 := (cell_of hhv1 2).trans rfl; go_simp⟩) hS8 ?_
      go_frame
      refine tkP 35 (.int .i64 (n2 : Int)) 39 rfl rfl hS8 ?_
      go_frame
      refine tkP 36 (.pointer (some ⟨qv1, 1, none⟩)) 40 rfl rfl hS8 ?_
      go_frame
      refine tkL 37 (.slice o1 n1 c1) 41 rfl rfl (Or.inl ⟨by rfl, by intro W hW; have hhv1 := hW; have y1 := (cell_of hhv1 1).trans rfl; go_simp⟩) hS8 ?_
      go_frame
      refine tkP 38 (.int .i64 (n1 : Int)) 42 rfl rfl hS8 ?_
      go_frame
      by_cases hc1 : (n2 : Int) = (n1 : Int)
      ·
       have hc1b : (((n2 : Int) : Int) == ((n1 : Int) : Int)) = true := by simpa using hc1
       have hc1n : (((n2 : Int) : Int) != ((n1 : Int) : Int)) = false := by simpa using hc1
       have hc1H : Hid ((n2 : Int) = (n1 : Int)) := hc1
       clear hc1
       refine tkP 39 (.bool false) 43 rfl rfl hS8 ?_
       go_frame
       refine tkP 40 (.bool false) 44 rfl rfl hS8 ?_
       go_frame
       clear hS8
       refine wpAnyH_done (by kernel_rfl) ?_ _
       clear hc1b hc1n
       have HEQ := hc1H
       clear hc1H
       have HQ : Hid ((∀ y ∈ ys, ValOk y) ↔ ObjP p xs ys st fs b t) := ⟨fun h => ⟨HR.out, HP.out, HT.out, HNM.out, HE.out.trans HVL.out.symm, by have h1 := HL1.out; have h2 := HL2.out; have h3 := HEQ.out; omega, h⟩, fun h => h.2.2.2.2.2.2⟩
       go_wp2_with fail
       go_loopw [3] (fun i wr => ∃ j : Nat, j ≤ n2 ∧ i = .int .i64 (j : Int) ∧ Hid (Below w.heap.size w wr ∧ (wr).heap[qv1]? = some (.cells #[.string p, .slice o1 n1 c1, .slice o2 n2 c2, .int .i64 st, .slice o3 n3 c3, .string b, .int .i64 t] 31)) ∧ Hid (∀ x ∈ ys.take j, ValOk x)) (fun i _ => n2 - (intOf i).toNat)
       case atStart => exact ⟨0, Nat.zero_le _, rfl, ⟨hb8, HBv1_8.out⟩, fun x hx => by simp at hx⟩
       case round =>
        obtain ⟨j, hj, rfl, HW, HN⟩ := hrel
        have cc2 : wr.cell? ⟨qv1, 2, none⟩ = some (.slice o2 n2 c2) := (cell_of HW.out.2 2).trans rfl
        by_cases hlt : (j : Int) < (n2 : Int)
        ·
         have hjx : j < ys.length := by rw [HL2.out]; omega
         obtain ⟨g, hog, hg, hc⟩ := (HV2.out wr HW.out.1).2 j (by omega)
         subst hog
         have hs := HS2.out j (by omega)
         obtain ⟨x, hxx⟩ := exq (textAt ys j)
         rw [← hxx] at hc hs
         have HM : Hid (x ∈ ys) := by show _ ∈ _; rw [hxx]; exact textAt_mem ys j hjx
         have HTK : Hid (ys.take (j + 1) = ys.take j ++ [x]) := by show _ = _; rw [take_textAt ys j hjx, hxx]
         clear hxx hjx
         go_wp2_with fail
         refine (specValueOk_any x _ hs).mono ?_
         rintro e w90 ⟨tx, rfl, htx, bw⟩
         have HW2 : Hid (Below w.heap.size w w90 ∧ (w90).heap[qv1]? = some (.cells #[.string p, .slice o1 n1 c1, .slice (some ⟨g, 0, none⟩) n2 c2, .int .i64 st, .slice o3 n3 c3, .string b, .int .i64 t] 31)) := ⟨HW.out.1.trans (bw.mono HW.out.1.size), blk_below HW.out.2 bw⟩
         clear bw cc2 hc HW
         cases tx with
         | false =>
          have HF : Hid (¬ ObjP p xs ys st fs b t) := fun h => nomatch htx.2 (HQ.out.2 h x HM.out)
          clear htx HN
          go_wp2_with fail
          go_ret
          exact BoolIs.no HF.out HW2.out.1
         | true =>
          have HN2 : Hid (∀ y ∈ ys.take (j + 1), ValOk y) := by
           intro y hy
           rw [HTK.out] at hy
           rcases List.mem_append.1 hy with hy | hy
           · exact HN.out y hy
           · rw [List.mem_singleton.1 hy]; exact htx.1 rfl
          clear htx HN
          go_wp2_with fail
          go_roundw
          case rel => exact ⟨j + 1, by omega, by go_num, HW2, HN2⟩
          case measure => simp [intOf]; omega
        ·
         have HA : Hid (ObjP p xs ys st fs b t) := HQ.out.1 (by
          have h := HN.out
          rw [List.take_of_length_le (by rw [HL2.out]; omega)] at h
          exact h)
         clear HN
         go_wp2_with fail
         go_ret
         exact ⟨true, rfl, ⟨fun _ => HA.out, fun _ => rfl⟩, HW.out.1⟩
      ·
       have hc1b : (((n2 : Int) : Int) == ((n1 : Int) : Int)) = false := by simpa using hc1
       have hc1n : (((n2 : Int) : Int) != ((n1 : Int) : Int)) = true := by simpa using hc1
       have HF : Hid (¬ ObjP p xs ys st fs b t) := fun h => by have h1 := h.2.2.2.2.2.1; have h2 := HL1.out; have h3 := HL2.out; omega
       have hc1H : Hid (¬ ((n2 : Int) = (n1 : Int))) := hc1
       clear hc1
       refine tkP 39 (.bool true) 43 rfl rfl hS8 ?_
       go_frame
       refine tkP 40 (.bool true) 44 rfl rfl hS8 ?_
       go_frame
       clear hS8
       refine wpAnyH_done (by kernel_rfl) ?_ _
       go_wp2_with fail
       go_ret
       exact BoolIs.no HF.out hb8
end Go.Proofs.YtmcmeeibogkpaaaGreatDoorR
