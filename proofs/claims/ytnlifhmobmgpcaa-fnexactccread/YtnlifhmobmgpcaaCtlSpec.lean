/- 'CcRead' of the specification: a contract over the translation. -/
import Derived.Test.YtnlifhmobmgpcaaCtlPlain
import Derived.Test.YtnlifhmobmgpcaaNum
import Derived.Test.YtnlifhmobmgpcaaChunkTextS
import Derived.Test.YtnlifhmobmgpcaaStreamRows
namespace Go.Proofs.Ytnlifhmobmgpcaa
open Go.RowKit
open Go.Lib hiding intOf

theorem maW_list : maW.toList = [109, 97, 120, 45, 97, 103, 101, 61] := by rw [ByteArray.toList_eq]; rfl
theorem nsW_list : nsW.toList = [110, 111, 45, 115, 116, 111, 114, 101] := by rw [ByteArray.toList_eq]; rfl
theorem ncW_list : ncW.toList = [110, 111, 45, 99, 97, 99, 104, 101] := by rw [ByteArray.toList_eq]; rfl
theorem prW_list : prW.toList = [112, 114, 105, 118, 97, 116, 101] := by rw [ByteArray.toList_eq]; rfl
theorem muW_list : muW.toList = [109, 117, 115, 116, 45, 114, 101, 118, 97, 108, 105, 100, 97, 116, 101] := by rw [ByteArray.toList_eq]; rfl
theorem ageOf_short {s : ByteArray} (h : s.size < 8) : ageOf s = none := by
  unfold ageOf
  rw [if_neg]
  intro e
  have := congrArg List.length e
  rw [List.length_take, bs_len] at this
  have h8 : (bs maW).length = 8 := rfl
  omega
theorem ageOf_yes {s : ByteArray} (h : s.extract 0 8 = maW) : ageOf s = some (numV (s.extract 8 s.size)) := by
  have e : (bs s).take 8 = bs maW := by rw [← h, bs_extract, List.drop_zero]
  have d : (⟨((bs s).drop 8).toArray⟩ : ByteArray) = s.extract 8 s.size := by
    rw [← text_bs (s.extract 8 s.size), bs_extract, List.take_of_length_le (by rw [bs_len]; exact Nat.le_refl _)]
  unfold ageOf
  rw [if_pos e, d]
theorem ageOf_no {s : ByteArray} (h : s.extract 0 8 ≠ maW) : ageOf s = none := by
  unfold ageOf
  rw [if_neg]
  intro e
  apply h
  rw [← text_bs (s.extract 0 8), bs_extract, List.drop_zero, e, text_bs]

/-- What l6Age answers. -/
def AgeIs (s : ByteArray) (w : World) (e : Ending) (w' : World) : Prop :=
  ∃ (n : Int) (b : Bool), e = .returned (.tuple #[.int .i64 n, .bool b]) ∧ (b = true → ageOf s = some n) ∧ (b = false → ageOf s = none) ∧ Below w.heap.size w w'
set_option maxHeartbeats 1000000 in
theorem l6Age_any (s : ByteArray) (w : World) (hs : s.size ≤ 4000000) :
    Calls Try.prog 42 #[.string s] w fun e w' => AgeIs s w e w' := by
  by_cases h8 : s.size < 8
  · have HN : Hid (ageOf s = none) := ageOf_short h8
    have h8' : (s.size : Int) < 8 := by omega
    clear h8
    go_enter Try.func42, Try.ntmps42
    go_wp2_with fail
    refine bodyPost_ret (v := .tuple #[.int .i64 0, .bool false]) (by simp [results, Try.results42, go_sem]) rfl ?_
    exact ⟨0, false, rfl, nofun, fun _ => HN.out, Below.refl _ _⟩
  · have h8' : ¬ (s.size : Int) < 8 := by omega
    have h8'' : (8 : Int) ≤ (s.size : Int) := by omega
    by_cases hp : s.extract 0 8 = maW
    · have ht : ((s.extract 0 8).toList == maW.toList) = true := (text_beq _ _).2 hp
      rw [maW_list] at ht
      have HY : Hid (ageOf s = some (numV (s.extract 8 s.size))) := ageOf_yes hp
      have hes : (s.extract 8 s.size).size ≤ maxLen := by rw [ByteArray.size_extract]; unfold maxLen; omega
      clear hp h8
      go_enter Try.func42, Try.ntmps42
      go_wp2_with fail
      refine (specNumRead_any (s.extract 8 s.size) _ hes).mono ?_
      rintro e w1 ⟨b, n, rfl, hb1, hb2, hb3, b1⟩
      have HV : Hid (numV (s.extract 8 s.size) = n) := by
        show _ = _
        unfold numV
        cases b with
        | true => rw [if_pos (hb1.1 rfl), hb2 rfl]
        | false => rw [if_neg (fun h => nomatch hb1.2 h), hb3 rfl]
      clear hb1 hb2 hb3
      go_wp2_with fail
      refine bodyPost_ret (v := .tuple #[.int .i64 n, .bool true]) (by simp [results, Try.results42, go_sem]) rfl ?_
      exact ⟨n, true, rfl, fun _ => by rw [HY.out, HV.out], nofun, b1⟩
    · have ht : ((s.extract 0 8).toList == maW.toList) = false := text_beq_no hp
      rw [maW_list] at ht
      have HN : Hid (ageOf s = none) := ageOf_no hp
      clear hp h8
      go_enter Try.func42, Try.ntmps42
      go_wp2_with fail
      refine bodyPost_ret (v := .tuple #[.int .i64 0, .bool false]) (by simp [results, Try.results42, go_sem]) rfl ?_
      exact ⟨0, false, rfl, nofun, fun _ => HN.out, Below.refl _ _⟩

theorem ccLow_size (s : ByteArray) : (lowerOf s).size = s.size := by unfold lowerOf; rw [strOfNums_size, lowXs_len]
/-- The cells of it. -/
def CcD.cs (c : CcD) : Array Value := #[.bool c.ns, .bool c.nc, .bool c.pr, .bool c.mu, .bool c.ha, .int .i64 c.age]
/-- A block that holds it. -/
def CcAt (w : World) (g : Nat) (c : CcD) : Prop := w.heap[g]? = some (.cells c.cs 34)
theorem CcAt.cells {w : World} {g : Nat} {c : CcD} (h : CcAt w g c) : w.cell? ⟨g, 0, none⟩ = some (.bool c.ns) ∧ w.cell? ⟨g, 1, none⟩ = some (.bool c.nc) ∧ w.cell? ⟨g, 2, none⟩ = some (.bool c.pr) ∧ w.cell? ⟨g, 3, none⟩ = some (.bool c.mu) ∧ w.cell? ⟨g, 4, none⟩ = some (.bool c.ha) ∧ w.cell? ⟨g, 5, none⟩ = some (.int .i64 c.age) := by
  unfold CcAt CcD.cs at h
  refine ⟨?_, ?_, ?_, ?_, ?_, ?_⟩ <;> simp [World.cell?, h]
theorem CcAt.frozen {w : World} {g : Nat} {c : CcD} (h : CcAt w g c) (o : Nat) : w.frozen? ⟨g, o, none⟩ = false := by
  unfold CcAt at h
  simp [World.frozen?, h]
theorem CcAt.lt {w : World} {g : Nat} {c : CcD} (h : CcAt w g c) : g < w.heap.size := (Array.getElem?_eq_some_iff.1 h).1
theorem CcAt.same {w w' : World} {g : Nat} {c : CcD} (h : CcAt w g c) (hs : w'.heap[g]? = w.heap[g]?) : CcAt w' g c := by unfold CcAt; rw [hs]; exact h
theorem CcAt.put0 {w : World} {g : Nat} {c : CcD} (h : CcAt w g c) (x : Bool) : CcAt (w.setCell ⟨g, 0, none⟩ (.bool x)) g { c with ns := x } := by unfold CcAt at *; rw [heap_set _ _ _ _ _ _ _ h]; rfl
theorem CcAt.put1 {w : World} {g : Nat} {c : CcD} (h : CcAt w g c) (x : Bool) : CcAt (w.setCell ⟨g, 1, none⟩ (.bool x)) g { c with nc := x } := by unfold CcAt at *; rw [heap_set _ _ _ _ _ _ _ h]; rfl
theorem CcAt.put2 {w : World} {g : Nat} {c : CcD} (h : CcAt w g c) (x : Bool) : CcAt (w.setCell ⟨g, 2, none⟩ (.bool x)) g { c with pr := x } := by unfold CcAt at *; rw [heap_set _ _ _ _ _ _ _ h]; rfl
theorem CcAt.put3 {w : World} {g : Nat} {c : CcD} (h : CcAt w g c) (x : Bool) : CcAt (w.setCell ⟨g, 3, none⟩ (.bool x)) g { c with mu := x } := by unfold CcAt at *; rw [heap_set _ _ _ _ _ _ _ h]; rfl
theorem CcAt.put4 {w : World} {g : Nat} {c : CcD} (h : CcAt w g c) (x : Bool) : CcAt (w.setCell ⟨g, 4, none⟩ (.bool x)) g { c with ha := x } := by unfold CcAt at *; rw [heap_set _ _ _ _ _ _ _ h]; rfl
theorem CcAt.put5 {w : World} {g : Nat} {c : CcD} (h : CcAt w g c) (x : Int) : CcAt (w.setCell ⟨g, 5, none⟩ (.int .i64 x)) g { c with age := x } := by unfold CcAt at *; rw [heap_set _ _ _ _ _ _ _ h]; rfl
/-- All six cells of a block are stored. -/
def putCc (w : World) (g : Nat) (d : CcD) : World := (((((w.setCell ⟨g, 0, none⟩ (.bool d.ns)).setCell ⟨g, 1, none⟩ (.bool d.nc)).setCell ⟨g, 2, none⟩ (.bool d.pr)).setCell ⟨g, 3, none⟩ (.bool d.mu)).setCell ⟨g, 4, none⟩ (.bool d.ha)).setCell ⟨g, 5, none⟩ (.int .i64 d.age)
theorem CcAt.putAll {w : World} {g : Nat} {c : CcD} (h : CcAt w g c) (d : CcD) : CcAt (putCc w g d) g d :=
  (((((h.put0 d.ns).put1 d.nc).put2 d.pr).put3 d.mu).put4 d.ha).put5 d.age
theorem below_putCc {B : Nat} {a w : World} (h : Below B a w) {g : Nat} (hg : B ≤ g) (d : CcD) : Below B a (putCc w g d) :=
  (((((h.setCell hg _).setCell hg _).setCell hg _).setCell hg _).setCell hg _).setCell hg _

/-- The name of the field that says it. -/
def ccName : ByteArray := ⟨#[99, 97, 99, 104, 101, 45, 99, 111, 110, 116, 114, 111, 108]⟩

/-- While words are read. -/
structure CcSt (w : World) (H : Nat) (c : CcD) (v : Value) (l : List ByteArray) (wr : World) : Prop where
  res : CcAt wr H cc0
  cur : CcAt wr (H + 1) c
  row : wr.ownsRow (H + 1 + 1) 9 1 v l.length (l.map Value.string)
  low : Below H w wr
theorem CcSt.later {w : World} {H : Nat} {c : CcD} {v : Value} {l : List ByteArray} {wr w' : World} (h : CcSt w H c v l wr) (hb : Below wr.heap.size wr w') : CcSt w H c v l w' :=
  ⟨h.res.same (hb.block _ h.res.lt), h.cur.same (hb.block _ h.cur.lt), owns_below h.row hb (fun _ hg => owns_lt h.row hg), h.low.trans (hb.mono (Nat.le_of_lt h.res.lt))⟩
theorem CcSt.put {w : World} {H : Nat} {c d : CcD} {v : Value} {l : List ByteArray} {wr : World} (h : CcSt w H c v l wr) {o : Nat} {x : Value} (hd : CcAt (wr.setCell ⟨H + 1, o, none⟩ x) (H + 1) d) : CcSt w H d v l (wr.setCell ⟨H + 1, o, none⟩ x) :=
  ⟨h.res.same (heap_setCell_other _ _ H _ (by show H ≠ H + 1; omega)), hd, owns_same h.row (fun j hj => heap_setCell_other _ _ j _ (by show j ≠ H + 1; have := (own_ltR h.row hj).1; omega)), h.low.setCell (by show H ≤ H + 1; omega) _⟩

set_option maxHeartbeats 4000000 in
set_option maxRecDepth 100000 in
theorem specCcRead_any (s : ByteArray) (w : World) (hs : s.size ≤ 1048576) :
    Calls Try.prog 21 #[.string s] w fun e w' => e = .returned (ccR s).v ∧ Below w.heap.size w w' := by
  obtain ⟨H, hH⟩ : ∃ H, H = w.heap.size := ⟨_, rfl⟩
  have HW : Hid (w.heap.size = H) := hH.symm
  obtain ⟨W0, hW0⟩ : ∃ W, W = (w.alloc (.cells cc0.cs 34)).alloc (.cells cc0.cs 34) := ⟨_, rfl⟩
  have HA : Hid (CcAt W0 H cc0 ∧ CcAt W0 (H + 1) cc0 ∧ Below H w W0 ∧ W0.heap.size = H + 1 + 1) := by
    have e1 := heap_alloc_new w (.cells cc0.cs 34)
    have e2 := heap_alloc_new (w.alloc (.cells cc0.cs 34)) (.cells cc0.cs 34)
    rw [World.size_alloc] at e2
    refine ⟨?_, ?_, ?_, ?_⟩
    · unfold CcAt; rw [hW0, hH, heap_alloc_old _ _ (by simp)]; exact e1
    · unfold CcAt; rw [hW0, hH]; exact e2
    · rw [hW0, hH]; exact ((Below.refl _ w).alloc (Nat.le_refl _) _).alloc (by simp) _
    · rw [hW0, hH]; simp
  have HW0 : Hid ((w.alloc (.cells #[.bool false, .bool false, .bool false, .bool false, .bool false, .int .i64 0] 34)).alloc (.cells #[.bool false, .bool false, .bool false, .bool false, .bool false, .int .i64 0] 34) = W0) := hW0.symm
  clear hW0
  go_enter Try.func21, Try.ntmps21
  go_wp2_with fail
  rw [HW0.out, ← hH]
  clear hH
  refine (specSplit_any s _ hs).mono ?_
  rintro e w1 ⟨v, rfl, hown, b1⟩
  rw [HA.out.2.2.2] at hown b1
  obtain ⟨l, hl⟩ : ∃ l, l = splitL s := ⟨_, rfl⟩
  rw [← hl] at hown
  have HLS : Hid (splitL s = l) := hl.symm
  have HLB : Hid (∀ x ∈ l, x.size ≤ 1048576) := fun x hx => by rw [hl] at hx; have := (splitL_le s).2 x hx; omega
  have hll : l.length ≤ 1048577 := by rw [hl]; have := (splitL_le s).1; omega
  have HS1 : Hid (CcSt w H (ccTo (l.take 0)) v l w1) := ⟨HA.out.1.same (b1.block _ (by omega)), HA.out.2.1.same (b1.block _ (by omega)), hown, HA.out.2.2.1.trans (b1.mono (by omega))⟩
  obtain ⟨oa, cp, rfl⟩ := slice_of_owns hown
  obtain ⟨n, hn⟩ : ∃ n, n = l.length := ⟨_, rfl⟩
  have HN : Hid (l.length = n) := hn.symm
  rw [← hn] at hll HS1
  rw [← hn]
  clear hown b1 hl hn
  go_wp2_with fail
  go_loopw [5] (fun i wr => ∃ k : Nat, k ≤ n ∧ i = .int .i64 (k : Int) ∧ Hid (CcSt w H (ccTo (l.take k)) (.slice oa n cp) l wr)) (fun i _ => n - (intOf i).toNat)
  case atStart => exact ⟨0, Nat.zero_le _, rfl, HS1⟩
  case round =>
    obtain ⟨k, hk, rfl, HS⟩ := hrel
    by_cases hlt : (k : Int) < (n : Int)
    · have hkl : k < l.length := by have := HN.out; omega
      obtain ⟨g, rfl⟩ : ∃ g, oa = some ⟨g, 0, none⟩ := by
        rcases HS.out.row.2 with ⟨e, _⟩ | ⟨g, _, _, e, _⟩
        · injection e with _ e2 _; omega
        · injection e with e1 _ _; exact ⟨g, e1⟩
      obtain ⟨x, hx⟩ : ∃ x, x = l[k]'hkl := ⟨_, rfl⟩
      have hc0 : wr.cell? ⟨g, k, none⟩ = some (.string x) := by
        have hr := HS.out.row
        rw [HN.out] at hr
        exact (owns_cellC hr k (.string x) (by rw [List.getElem?_map, List.getElem?_eq_getElem hkl, hx]; rfl)).1
      have hxs : x.size ≤ 1048576 := by rw [hx]; exact HLB.out _ (List.getElem_mem hkl)
      obtain ⟨y, hy⟩ : ∃ y, y = lowerOf x := ⟨_, rfl⟩
      have hys : y.size ≤ 4000000 := by rw [hy, ccLow_size]; omega
      have HY : Hid (lowerOf x = y) := hy.symm
      have HST : Hid (ccTo (l.take (k + 1)) = ccStep (ccTo (l.take k)) y) := by
        show _ = _
        rw [List.take_succ_eq_append_getElem hkl, ccTo_snoc, ← hx, hy]
      clear hx hy hkl
      obtain ⟨c, hc⟩ : ∃ c, c = ccTo (l.take k) := ⟨_, rfl⟩
      rw [← hc] at HS HST
      obtain ⟨d, hd⟩ : ∃ d, d = ccTo (l.take (k + 1)) := ⟨_, rfl⟩
      rw [← hd] at HST
      have HD : Hid (ccTo (l.take (k + 1)) = d) := hd.symm
      clear hc hd
      go_wp2_with fail
      refine (specLower_any x _ hxs).mono ?_
      rintro e w2 ⟨rfl, b2⟩
      rw [HY.out]
      have HS2 : Hid (CcSt w H c (.slice (some ⟨g, 0, none⟩) n cp) l w2) := HS.out.later b2
      clear b2 hc0
      go_wp2_with fail
      refine (l6Age_any y _ hys).mono ?_
      rintro e w3 ⟨na, ba, rfl, hb1, hb2, b3⟩
      have HS3 : Hid (CcSt w H c (.slice (some ⟨g, 0, none⟩) n cp) l w3) := HS2.out.later b3
      obtain ⟨q0, q1, q2, q3, q4, q5⟩ := HS3.out.cur.cells
      have f0 := HS3.out.cur.frozen 0
      have f1 := HS3.out.cur.frozen 1
      have f2 := HS3.out.cur.frozen 2
      have f3 := HS3.out.cur.frozen 3
      have f4 := HS3.out.cur.frozen 4
      have f5 := HS3.out.cur.frozen 5
      clear b3 HS HS2
      by_cases h0 : y = nsW
      · have t0 : (y.toList == nsW.toList) = true := (text_beq _ _).2 h0
        rw [nsW_list] at t0
        have HS4 : Hid (CcSt w H d (.slice (some ⟨g, 0, none⟩) n cp) l (w3.setCell ⟨H + 1, 0, none⟩ (.bool true))) := by
          show CcSt _ _ _ _ _ _
          have e : d = { c with ns := true } := by rw [HST.out]; unfold ccStep; rw [if_pos h0]
          rw [e]
          exact HS3.out.put (HS3.out.cur.put0 true)
        clear h0 hb1 hb2
        go_wp2_with fail
        go_roundw
        case rel => exact ⟨k + 1, by omega, by go_num, by rw [HD.out]; exact HS4⟩
        case measure => simp [intOf]; omega
      have t0 : (y.toList == nsW.toList) = false := text_beq_no h0
      rw [nsW_list] at t0
      by_cases h1 : y = ncW
      · have t1 : (y.toList == ncW.toList) = true := (text_beq _ _).2 h1
        rw [ncW_list] at t1
        have HS4 : Hid (CcSt w H d (.slice (some ⟨g, 0, none⟩) n cp) l (w3.setCell ⟨H + 1, 1, none⟩ (.bool true))) := by
          show CcSt _ _ _ _ _ _
          have e : d = { c with nc := true } := by rw [HST.out]; unfold ccStep; rw [if_neg h0, if_pos h1]
          rw [e]
          exact HS3.out.put (HS3.out.cur.put1 true)
        clear h0 h1 hb1 hb2
        go_wp2_with fail
        go_roundw
        case rel => exact ⟨k + 1, by omega, by go_num, by rw [HD.out]; exact HS4⟩
        case measure => simp [intOf]; omega
      have t1 : (y.toList == ncW.toList) = false := text_beq_no h1
      rw [ncW_list] at t1
      by_cases h2 : y = prW
      · have t2 : (y.toList == prW.toList) = true := (text_beq _ _).2 h2
        rw [prW_list] at t2
        have HS4 : Hid (CcSt w H d (.slice (some ⟨g, 0, none⟩) n cp) l (w3.setCell ⟨H + 1, 2, none⟩ (.bool true))) := by
          show CcSt _ _ _ _ _ _
          have e : d = { c with pr := true } := by rw [HST.out]; unfold ccStep; rw [if_neg h0, if_neg h1, if_pos h2]
          rw [e]
          exact HS3.out.put (HS3.out.cur.put2 true)
        clear h0 h1 h2 hb1 hb2
        go_wp2_with fail
        go_roundw
        case rel => exact ⟨k + 1, by omega, by go_num, by rw [HD.out]; exact HS4⟩
        case measure => simp [intOf]; omega
      have t2 : (y.toList == prW.toList) = false := text_beq_no h2
      rw [prW_list] at t2
      by_cases h3 : y = muW
      · have t3 : (y.toList == muW.toList) = true := (text_beq _ _).2 h3
        rw [muW_list] at t3
        have HS4 : Hid (CcSt w H d (.slice (some ⟨g, 0, none⟩) n cp) l (w3.setCell ⟨H + 1, 3, none⟩ (.bool true))) := by
          show CcSt _ _ _ _ _ _
          have e : d = { c with mu := true } := by rw [HST.out]; unfold ccStep; rw [if_neg h0, if_neg h1, if_neg h2, if_pos h3]
          rw [e]
          exact HS3.out.put (HS3.out.cur.put3 true)
        clear h0 h1 h2 h3 hb1 hb2
        go_wp2_with fail
        go_roundw
        case rel => exact ⟨k + 1, by omega, by go_num, by rw [HD.out]; exact HS4⟩
        case measure => simp [intOf]; omega
      have t3 : (y.toList == muW.toList) = false := text_beq_no h3
      rw [muW_list] at t3
      have HRE : Hid (ccStep c y = match ageOf y with | none => c | some n => if c.ha = true then { c with age := min c.age n } else { c with ha := true, age := n }) := by
        show _ = _
        unfold ccStep
        rw [if_neg h0, if_neg h1, if_neg h2, if_neg h3]
        rfl
      clear h0 h1 h2 h3
      cases ba with
      | false =>
        have HS4 : Hid (CcSt w H d (.slice (some ⟨g, 0, none⟩) n cp) l w3) := by
          show CcSt _ _ _ _ _ _
          have e : d = c := by rw [HST.out, HRE.out, hb2 rfl]
          rw [e]
          exact HS3.out
        clear hb1 hb2
        go_wp2_with fail
        go_roundw
        case rel => exact ⟨k + 1, by omega, by go_num, by rw [HD.out]; exact HS4⟩
        case measure => simp [intOf]; omega
      | true =>
        cases hha : c.ha with
        | true =>
          have HS4 : Hid (CcSt w H d (.slice (some ⟨g, 0, none⟩) n cp) l (w3.setCell ⟨H + 1, 5, none⟩ (.int .i64 (min c.age na)))) := by
            show CcSt _ _ _ _ _ _
            have e : d = { c with age := min c.age na } := by rw [HST.out, HRE.out, hb1 rfl]; dsimp only; rw [if_pos hha]
            rw [e]
            exact HS3.out.put (HS3.out.cur.put5 _)
          rw [hha] at q4
          clear hb1 hb2 hha
          go_wp2_with fail
          refine (l1Min_any _ _ _).mono ?_
          rintro e w4 ⟨rfl, rfl⟩
          go_wp2_with fail
          go_roundw
          case rel => exact ⟨k + 1, by omega, by go_num, by rw [HD.out]; exact HS4⟩
          case measure => simp [intOf]; omega
        | false =>
          have HS4a : CcSt w H { c with ha := true } (.slice (some ⟨g, 0, none⟩) n cp) l (w3.setCell ⟨H + 1, 4, none⟩ (.bool true)) := HS3.out.put (HS3.out.cur.put4 true)
          have HS4 : Hid (CcSt w H d (.slice (some ⟨g, 0, none⟩) n cp) l ((w3.setCell ⟨H + 1, 4, none⟩ (.bool true)).setCell ⟨H + 1, 5, none⟩ (.int .i64 na))) := by
            show CcSt _ _ _ _ _ _
            have e : d = { c with ha := true, age := na } := by rw [HST.out, HRE.out, hb1 rfl]; dsimp only; rw [if_neg (by rw [hha]; decide)]
            rw [e]
            exact HS4a.put (HS4a.cur.put5 _)
          have q5a := HS4a.cur.cells.2.2.2.2.2
          have f5a := HS4a.cur.frozen 5
          rw [hha] at q4
          clear hb1 hb2 hha HS4a
          go_wp2_with fail
          go_roundw
          case rel => exact ⟨k + 1, by omega, by go_num, by rw [HD.out]; exact HS4⟩
          case measure => simp [intOf]; omega
    · obtain rfl : k = n := by omega
      have HE : Hid (ccTo (l.take k) = ccR s) := by
        show _ = _
        rw [List.take_of_length_le (by rw [HN.out]; exact Nat.le_refl _)]
        unfold ccR
        rw [HLS.out]
      rw [HE.out] at HS
      obtain ⟨c, hc⟩ : ∃ c, c = ccR s := ⟨_, rfl⟩
      rw [← hc] at HS
      have HC : Hid (c = ccR s) := hc
      obtain ⟨q0, q1, q2, q3, q4, q5⟩ := HS.out.cur.cells
      obtain ⟨r0, r1, r2, r3, r4, r5⟩ := HS.out.res.cells
      have f0 := HS.out.res.frozen 0
      have f1 := HS.out.res.frozen 1
      have f2 := HS.out.res.frozen 2
      have f3 := HS.out.res.frozen 3
      have f4 := HS.out.res.frozen 4
      have f5 := HS.out.res.frozen 5
      obtain ⟨m0, m1, m2, m3, m4, m5⟩ := (HS.out.res.putAll c).cells
      have HB : Hid (Below H w (putCc wr H c)) := below_putCc HS.out.low (Nat.le_refl _) c
      clear hc HE
      unfold putCc at m0 m1 m2 m3 m4 m5 HB
      go_wp2_with fail
      refine bodyPost_ret (v := c.v) (by simp [results, Try.results21, go_sem, m0, m1, m2, m3, m4, m5, CcD.v]) rfl ?_
      exact ⟨by rw [HC.out], by rw [HW.out]; exact HB.out⟩

set_option maxHeartbeats 1000000 in
theorem specCcOf_any (v : Value) (n base : Nat) (fs : List (ByteArray × ByteArray)) (w : World) (hv : FieldsV w base v n fs) (hn : n ≤ 1073741824) (hsz : (getV fs ccName).size ≤ 1048576) :
    Calls Try.prog 25 #[v] w fun e w' => e = .returned (ccR (getV fs ccName)).v ∧ Below w.heap.size w w' := by
  have hv1 : FieldsV (w.alloc (.cells cc0.cs 34)) base v n fs := hv.below ((Below.refl _ _).alloc (Nat.le_refl _) _)
  have HR0 : Hid (CcAt (w.alloc (.cells cc0.cs 34)) w.heap.size cc0) := heap_alloc_new w _
  obtain ⟨t, ht⟩ : ∃ t, t = getV fs ccName := ⟨_, rfl⟩
  have HT : Hid (getV fs ccName = t) := ht.symm
  rw [← ht] at hsz
  obtain ⟨c, hc⟩ : ∃ c, c = ccR t := ⟨_, rfl⟩
  have HC : Hid (ccR t = c) := hc.symm
  rw [← ht, ← hc]
  clear ht hc hv
  go_enter Try.func25, Try.ntmps25
  go_wp2_with fail
  refine (specGet_any v n base fs ccName _ hv1 hn).mono ?_
  rintro e w1 ⟨rfl, rfl⟩
  rw [HT.out]
  clear hv1
  go_wp2_with fail
  refine (specCcRead_any t _ hsz).mono ?_
  rintro e w2 ⟨rfl, b2⟩
  rw [HC.out]
  have hR := HR0.out.same (b2.block _ HR0.out.lt)
  obtain ⟨r0, r1, r2, r3, r4, r5⟩ := hR.cells
  have f0 := hR.frozen 0
  have f1 := hR.frozen 1
  have f2 := hR.frozen 2
  have f3 := hR.frozen 3
  have f4 := hR.frozen 4
  have f5 := hR.frozen 5
  obtain ⟨m0, m1, m2, m3, m4, m5⟩ := (hR.putAll c).cells
  have HB : Hid (Below w.heap.size w (putCc w2 w.heap.size c)) := below_putCc (((Below.refl _ w).alloc (Nat.le_refl _) _).trans (b2.mono (by simp))) (Nat.le_refl _) c
  unfold putCc at m0 m1 m2 m3 m4 m5 HB
  clear hR b2 HR0
  unfold CcD.v
  go_wp2_with fail
  refine bodyPost_ret (v := c.v) (by simp [results, Try.results25, go_sem, m0, m1, m2, m3, m4, m5, CcD.v]) rfl ?_
  exact ⟨rfl, HB.out⟩

end Go.Proofs.Ytnlifhmobmgpcaa
