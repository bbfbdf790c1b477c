/- What an answer hangs on, in plain words, and 'VaryOf', 'ValuesOf', 'Suits' of the specification: contracts over the translation. -/
import Derived.Test.YtfgapdididdcaaaCtlPlain
import Derived.Test.YtfgapdididdcaaaRowsOf
import Derived.Test.YtfgapdididdcaaaFields
namespace Go.Proofs.Ytfgapdididdcaaa
open Go.RowKit
open Go.Lib hiding intOf

def varyName : ByteArray := ⟨#[118, 97, 114, 121]⟩
def dashT : ByteArray := ⟨#[45]⟩
def starT : ByteArray := ⟨#[42]⟩
/-- The names that an answer hangs on. -/
noncomputable def varyP (fs : List (ByteArray × ByteArray)) : List ByteArray := (splitL (getV fs varyName)).map lowerOf
/-- What fields tell of a name. -/
def valOf (fs : List (ByteArray × ByteArray)) (x : ByteArray) : ByteArray := if getB fs x = true then getV fs x else dashT
def valsP (xs : List ByteArray) (fs : List (ByteArray × ByteArray)) : List ByteArray := xs.map (valOf fs)
open Classical in
noncomputable def suitsP (xs ys : List ByteArray) (fs : List (ByteArray × ByteArray)) : Bool := decide (starT ∉ xs ∧ valsP xs fs = ys)
theorem valsP_len (xs : List ByteArray) (fs : List (ByteArray × ByteArray)) : (valsP xs fs).length = xs.length := by simp [valsP]
open Classical in
/-- An answer suits whoever asks as it was asked. -/
theorem suits_own (xs : List ByteArray) (fs : List (ByteArray × ByteArray)) : suitsP xs (valsP xs fs) fs = decide (starT ∉ xs) := by
  unfold suitsP
  by_cases h : starT ∈ xs <;> simp [h]

/-- A list of texts that is read. -/
def TextsA (w : World) (oa : Option Addr) (n : Nat) (xs : List ByteArray) : Prop :=
  xs.length = n ∧ ∀ i, i < n → ∃ g, oa = some ⟨g, 0, none⟩ ∧ g < w.heap.size ∧ w.cell? ⟨g, i, none⟩ = some (.string (textAt xs i))
theorem TextsA.below {w w' : World} {oa : Option Addr} {n : Nat} {xs : List ByteArray} (h : TextsA w oa n xs) (hb : Below w.heap.size w w') : TextsA w' oa n xs :=
  ⟨h.1, fun i hi => by
    obtain ⟨g, h1, h2, h3⟩ := h.2 i hi
    exact ⟨g, h1, Nat.lt_of_lt_of_le h2 hb.size, by rw [hb.cell (p := ⟨g, i, none⟩) h2]; exact h3⟩⟩
theorem texts_own {w : World} {base n : Nat} {v : Value} {xs : List ByteArray} (h : w.ownsRow base 9 1 v n (xs.map Value.string)) : ∃ oa cap, v = .slice oa n cap ∧ TextsA w oa n xs := by
  have hl : xs.length = n := by have := h.1; simpa using this
  rcases row_form h with ⟨oa, ca, rfl, rfl, rfl⟩ | ⟨g, cap, rfl, hp, r⟩
  · exact ⟨oa, ca, rfl, rfl, fun i hi => absurd hi (by omega)⟩
  · exact ⟨_, _, rfl, hl, fun i hi => ⟨g, rfl, r.lt, r.cell i hi⟩⟩

/-- The first j texts in small letters. -/
def loTo (xs : List ByteArray) (j : Nat) : List ByteArray := (xs.take j).map lowerOf ++ xs.drop j
theorem loTo_zero (xs : List ByteArray) : loTo xs 0 = xs := by simp [loTo]
theorem loTo_all (xs : List ByteArray) (j : Nat) (h : xs.length ≤ j) : loTo xs j = xs.map lowerOf := by
  simp [loTo, List.take_of_length_le h, List.drop_of_length_le h]
theorem loTo_at (xs : List ByteArray) (j : Nat) : textAt (loTo xs j) j = textAt xs j := by
  unfold textAt loTo
  rw [List.getD_eq_getElem?_getD, List.getD_eq_getElem?_getD]
  by_cases h : j < xs.length
  · rw [List.getElem?_append_right (by simp; omega), List.length_map, List.length_take, Nat.min_eq_left (by omega), Nat.sub_self, List.getElem?_drop, Nat.add_zero]
  · rw [List.getElem?_eq_none (by simp; omega), List.getElem?_eq_none (by omega)]
theorem loTo_step (xs : List ByteArray) (j : Nat) (h : j < xs.length) : (loTo xs j).set j (lowerOf (textAt xs j)) = loTo xs (j + 1) := by
  have e : xs.drop j = textAt xs j :: xs.drop (j + 1) := by
    rw [List.drop_eq_getElem_cons h]
    congr 1
    unfold textAt
    rw [List.getD_eq_getElem?_getD, List.getElem?_eq_getElem h]
    rfl
  have e2 : xs.take (j + 1) = xs.take j ++ [textAt xs j] := by
    rw [List.take_add_one, List.getElem?_eq_getElem h]
    unfold textAt
    rw [List.getD_eq_getElem?_getD, List.getElem?_eq_getElem h]
    rfl
  unfold loTo
  rw [List.set_append_right _ _ (by simp; omega), List.length_map, List.length_take, Nat.min_eq_left (by omega), Nat.sub_self, e, List.set_cons_zero, e2, List.map_append]
  simp
theorem valsP_snoc (xs : List ByteArray) (fs : List (ByteArray × ByteArray)) (i : Nat) (h : i < xs.length) : valsP (xs.take (i + 1)) fs = valsP (xs.take i) fs ++ [valOf fs (textAt xs i)] := by
  rw [List.take_add_one, List.getElem?_eq_getElem h]
  unfold textAt valsP
  rw [List.getD_eq_getElem?_getD, List.getElem?_eq_getElem h, List.map_append]
  rfl

set_option maxHeartbeats 1000000 in
set_option maxRecDepth 100000 in
theorem specVaryOf_any (v : Value) (n base : Nat) (fs : List (ByteArray × ByteArray)) (w : World) (hv : FieldsV w base v n fs) (hn : n ≤ 1073741824) (hsz : (getV fs varyName).size ≤ 1048576) :
    Calls Try.prog 17 #[v] w fun e w' => RowIs w.heap.size (varyP fs) w e w' := by
  obtain ⟨s, hs⟩ : ∃ s, s = getV fs varyName := ⟨_, rfl⟩
  have HS : Hid (getV fs varyName = s) := hs.symm
  have HE : Hid (varyP fs = (splitL s).map lowerOf) := by show _ = _; unfold varyP; rw [HS.out]
  rw [← hs] at hsz
  obtain ⟨hl1, hl2⟩ := splitL_le s
  clear hs
  go_enter Try.func17, Try.ntmps17
  go_wp2_with fail
  refine (specGet_any v n base fs varyName _ hv hn).mono ?_
  rintro e w1 ⟨rfl, rfl⟩
  rw [HS.out]
  clear hv
  go_wp2_with fail
  refine (specSplit_any s _ hsz).mono ?_
  rintro e w2 ⟨V, rfl, O, b2⟩
  obtain ⟨xs, hxs⟩ : ∃ xs, xs = splitL s := ⟨_, rfl⟩
  rw [← hxs] at hl1 hl2 O HE
  obtain ⟨m, hm⟩ : ∃ m, m = xs.length := ⟨_, rfl⟩
  rw [← hm] at hl1 O
  have HM : Hid (xs.length = m) := hm.symm
  have H2 : Hid (∀ x ∈ xs, x.size ≤ s.size) := hl2
  clear hxs hm hl2
  rcases row_form O with ⟨oa, ca, rfl, h0, h1⟩ | ⟨g, cap, rfl, hp, r1⟩
  · subst h0 h1
    go_wp2_with fail
    refine wp_loop_rounds 1 ?_
    rw [rounds_succ]
    go_wp2_with fail
    go_ret
    exact RowIs.of (by rw [HE.out]; rfl) rfl O b2
  · clear O
    have HB2 : Hid (Below w1.heap.size w1 w2) := b2
    have HR1 : Hid (TextRow w1.heap.size w2 g m cap (loTo xs 0)) := by show TextRow _ _ _ _ _ _; rw [loTo_zero]; exact r1
    clear b2 r1
    go_wp2_with fail
    go_loopw [6] (fun i wr => ∃ j : Nat, j ≤ m ∧ i = .int .i64 (j : Int) ∧ Hid (Below w1.heap.size w1 wr) ∧ Hid (TextRow w1.heap.size wr g m cap (loTo xs j))) (fun i _ => m - (intOf i).toNat)
    case atStart => exact ⟨0, Nat.zero_le _, rfl, HB2, HR1⟩
    case round =>
      obtain ⟨j, hj, rfl, HB, HR⟩ := hrel
      by_cases hlt : j < m
      · have hlt2 : (j : Int) < (m : Int) := by omega
        obtain ⟨x, hx⟩ : ∃ x, x = textAt xs j := ⟨_, rfl⟩
        have hc := HR.out.cell j hlt
        rw [loTo_at, ← hx] at hc
        have HST : Hid ((loTo xs j).set j (lowerOf x) = loTo xs (j + 1)) := by show _ = _; rw [hx]; exact loTo_step xs j (by rw [HM.out]; exact hlt)
        have hxz : x.size ≤ 1048576 := by
          refine Nat.le_trans (H2.out x ?_) hsz
          rw [hx]
          unfold textAt
          rw [List.getD_eq_getElem?_getD, List.getElem?_eq_getElem (by rw [HM.out]; exact hlt)]
          exact List.getElem_mem _
        clear hx
        go_wp2_with fail
        refine (specLower_any x _ hxz).mono ?_
        rintro e w3 ⟨rfl, hb3⟩
        have hrow := HR.out.below hb3 HR.out.lt
        have hc3 := hrow.cell j hlt
        have hf3 := hrow.frozen j
        have HB3 : Hid (Below w1.heap.size w1 (w3.setCell ⟨g, j, none⟩ (.string (lowerOf x)))) := (HB.out.trans (hb3.mono HB.out.size)).setCell HR.out.base _
        have HR3 : Hid (TextRow w1.heap.size (w3.setCell ⟨g, j, none⟩ (.string (lowerOf x))) g m cap (loTo xs (j + 1))) := by
          show TextRow _ _ _ _ _ _
          rw [← HST.out]
          exact hrow.set j hlt _
        clear hb3 hrow HB HR HST hc
        go_wp2_with fail
        go_roundw
        case rel => exact ⟨j + 1, by omega, by go_num, HB3, HR3⟩
        case measure => simp [intOf]; omega
      · obtain rfl : j = m := by omega
        go_wp2_with fail
        go_ret
        exact RowIs.of (by rw [HE.out, loTo_all xs j (by rw [HM.out]; exact Nat.le_refl _)]) (by rw [loTo_all xs j (by rw [HM.out]; exact Nat.le_refl _), List.length_map, HM.out]) HR.out.owns HB.out

set_option maxHeartbeats 1000000 in
set_option maxRecDepth 100000 in
theorem specValuesOf_any (oa : Option Addr) (m cm : Nat) (xs : List ByteArray) (v : Value) (n base : Nat) (fs : List (ByteArray × ByteArray)) (w : World) (hx : TextsA w oa m xs) (hm : m ≤ 1048577) (hv : FieldsV w base v n fs) (hn : n ≤ 1073741824) :
    Calls Try.prog 15 #[.slice oa m cm, v] w fun e w' => RowIs w.heap.size (valsP xs fs) w e w' := by
  obtain ⟨i0, hi, hz0, hz1, hz2⟩ := info_parts info9
  have HLEN : Hid (xs.length = m) := hx.1
  have HX : Hid (∀ W, Below w.heap.size w W → TextsA W oa m xs) := fun W h => hx.below h
  have HV : Hid (∀ W, Below w.heap.size w W → FieldsV W base v n fs) := fun W h => hv.below h
  clear hx hv
  go_enter Try.func15, Try.ntmps15
  have H0 : Hid ((w.alloc (Obj.cells #[] 9)).ownsRow w.heap.size 9 1 (.slice (some ⟨w.heap.size, 0, none⟩) 0 0) 0 (([] : List ByteArray).map Value.string)) := ⟨rfl, .inr ⟨w.heap.size, 0, #[], rfl, Nat.le_refl _, heap_alloc_new w _, Nat.le_refl _, Nat.zero_le _, rfl, rfl⟩⟩
  go_wp2_with fail
  go_loopw [5, 6] (fun a c wr => ∃ (i : Nat) (ys : List ByteArray), c = .int .i64 (i : Int) ∧ i ≤ m ∧ ys.length = i ∧ Hid (wr.ownsRow w.heap.size 9 1 a ys.length (ys.map Value.string)) ∧ Hid (Below w.heap.size w wr) ∧ Hid (ys = valsP (xs.take i) fs)) (fun _ c _ => m - (intOf c).toNat)
  case atStart => exact ⟨0, [], rfl, by omega, rfl, H0, (Below.refl _ _).alloc (Nat.le_refl _) _, rfl⟩
  case round =>
    obtain ⟨i, ys, rfl, hi', hyl, HO, HB, HE⟩ := hrel
    have h63 : ys.length + 1 ≤ maxLen := by unfold maxLen; omega
    have h47 : (ys.length + 1) * 16 ≤ 140737488355328 := by omega
    have HYL : Hid (ys.length = i) := hyl
    clear hyl
    by_cases hlt : (i : Int) < (m : Int)
    · obtain ⟨g, rfl, hg, hc⟩ := (HX.out wr HB.out).2 i (by omega)
      obtain ⟨x, hxx⟩ : ∃ x, x = textAt xs i := ⟨_, rfl⟩
      rw [← hxx] at hc
      have HE2 : Hid (ys ++ [valOf fs x] = valsP (xs.take (i + 1)) fs) := by
        show _ = _
        rw [valsP_snoc xs fs i (by rw [HLEN.out]; omega), HE.out, hxx]
      clear hxx
      go_wp2_with fail
      refine (specGet_any v n base fs x _ (HV.out _ HB.out) hn).mono ?_
      rintro e w2 ⟨rfl, rfl⟩
      obtain ⟨s, hs⟩ : ∃ s, s = getV fs x := ⟨_, rfl⟩
      obtain ⟨th, hth⟩ : ∃ b, b = getB fs x := ⟨_, rfl⟩
      rw [← hs, ← hth]
      obtain ⟨y, hy⟩ : ∃ y, y = valOf fs x := ⟨_, rfl⟩
      rw [← hy] at HE2
      have HY : Hid (y = if th = true then s else dashT) := by show _ = _; rw [hy, hs, hth]; rfl
      have HBS : ∀ o, w.heap.size ≤ (w2.alloc o).heap.size := fun o => by have := HB.out.size; simp; omega
      clear hc hs hth hy HE
      cases th with
      | true =>
        have HY2 : Hid (s = y) := by show _ = _; rw [HY.out]; rfl
        rw [HY2.out]
        go_wp2_with (at_builtin; refine wpList_append_own _ rfl _ _ 24 rfl w.heap.size 9 i0 (.string ⟨#[]⟩) 1 16 Try.underlying24 hi hz0 hz1 hz2 rfl (by decide) _ _ _ rfl (HO.out.alloc _) ⟨w2.heap.size, 0, none⟩ 1 1 [.string y] rfl rfl (cell_one_new _ _ _) (one_text _) h63 h47 (HBS _) ?_)
        intro v3 w3 hown3 hgrow3 _
        have HB3 : Hid (Below w.heap.size w w3) := ((HB.out.alloc HB.out.size _).grown hgrow3 (HBS _) (fun g hg => owns_ge HO.out hg))
        have HO3 : Hid (w3.ownsRow w.heap.size 9 1 v3 (ys ++ [y]).length ((ys ++ [y]).map Value.string)) := by
          show World.ownsRow _ _ _ _ _ _ _
          rw [List.length_append, List.map_append]
          exact hown3
        clear hown3 hgrow3 HBS HB HO HY HY2
        go_wp2_with fail
        go_roundw
        case rel => exact ⟨i + 1, ys ++ [y], by go_num, by omega, by rw [List.length_append, HYL.out]; rfl, HO3, HB3, HE2⟩
        case measure => simp [intOf]; omega
      | false =>
        have HY2 : Hid (y = ⟨#[45]⟩) := by show _ = _; rw [HY.out]; rfl
        rw [HY2.out] at HE2
        go_wp2_with (at_builtin; refine wpList_append_own _ rfl _ _ 24 rfl w.heap.size 9 i0 (.string ⟨#[]⟩) 1 16 Try.underlying24 hi hz0 hz1 hz2 rfl (by decide) _ _ _ rfl (HO.out.alloc _) ⟨w2.heap.size, 0, none⟩ 1 1 [.string ⟨#[45]⟩] rfl rfl (cell_one_new _ _ _) (one_text _) h63 h47 (HBS _) ?_)
        intro v3 w3 hown3 hgrow3 _
        have HB3 : Hid (Below w.heap.size w w3) := ((HB.out.alloc HB.out.size _).grown hgrow3 (HBS _) (fun g hg => owns_ge HO.out hg))
        have HO3 : Hid (w3.ownsRow w.heap.size 9 1 v3 (ys ++ [(⟨#[45]⟩ : ByteArray)]).length ((ys ++ [(⟨#[45]⟩ : ByteArray)]).map Value.string)) := by
          show World.ownsRow _ _ _ _ _ _ _
          rw [List.length_append, List.map_append]
          exact hown3
        clear hown3 hgrow3 HBS HB HO HY HY2
        go_wp2_with fail
        go_roundw
        case rel => exact ⟨i + 1, ys ++ [(⟨#[45]⟩ : ByteArray)], by go_num, by omega, by rw [List.length_append, HYL.out]; rfl, HO3, HB3, HE2⟩
        case measure => simp [intOf]; omega
    · obtain rfl : i = m := by omega
      have hE := HE.out
      rw [List.take_of_length_le (by rw [HLEN.out]; exact Nat.le_refl _)] at hE
      have HE3 : Hid (ys = valsP xs fs) := hE
      clear hE HE
      go_wp2_with fail
      go_ret
      exact RowIs.of HE3.out rfl HO.out HB.out

end Go.Proofs.Ytfgapdididdcaaa
