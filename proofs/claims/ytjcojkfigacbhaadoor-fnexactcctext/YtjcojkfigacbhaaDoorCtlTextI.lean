/- 'CcText' of the developers: contracts over the translation. -/
import Derived.Test.YtjcojkfigacbhaaDoorCtlTextS
import Derived.Test.YtjcojkfigacbhaaDoorNumText
import Derived.Lib.Join
namespace Go.Proofs.YtjcojkfigacbhaaDoor
open Go.RowKit
open Go.Lib hiding intOf

theorem num_ne {s : ByteArray} (h : NumOk s) : s.toList ≠ [] := by
  intro e
  rw [ByteArray.toList_eq] at e
  have h2 : s.data.toList.length = s.size := by simp
  rw [e] at h2
  have := h.1
  simp at h2
  omega
theorem num_out (n : Int) (h : ¬ (0 ≤ n ∧ n ≤ 1000000)) : numTextI n = ⟨#[]⟩ := by
  unfold numTextI
  by_cases h0 : n < 0
  · rw [if_pos h0]
  · rw [if_neg h0]
    unfold numText numL
    rw [if_pos (by omega)]
theorem num_len {t : ByteArray} {n : Int} (ht : t = numTextI n) : t.size ≤ 7 := by
  subst ht
  by_cases h : 0 ≤ n ∧ n ≤ 1000000
  · exact num_seven (ccNum_in _ h.1 h.2).1
  · rw [num_out n h]; decide
theorem owns_texts {w : World} {base : Nat} {T : TypeId} {V : Value} {xs : List ByteArray} (h : w.ownsRow base T 1 V xs.length (xs.map Value.string)) (hne : xs ≠ []) :
    ∃ g cp, V = .slice (some ⟨g, 0, none⟩) xs.length cp ∧ (∀ (j : Nat) x, xs[j]? = some x → w.cell? ⟨g, 0 + j, none⟩ = some (.string x)) ∧ g < w.heap.size ∧ xs.length ≤ cp := by
  have h' := h
  rcases h.2 with ⟨_, e⟩ | ⟨g, cap, cur, rfl, h1, h2, h3, h4, _⟩
  · exact absurd (by cases xs with | nil => rfl | cons a l => simp at e) hne
  · refine ⟨g, cap, rfl, fun j x hx => ?_, (Array.getElem?_eq_some_iff.1 h2).1, by omega⟩
    rw [Nat.zero_add]
    exact (owns_cellC h' j (.string x) (by rw [List.getElem?_map, hx]; rfl)).1
theorem num_none (n : Int) : (numTextI n).toList.isEmpty = decide (¬ (0 ≤ n ∧ n ≤ 1000000)) := by
  by_cases h : 0 ≤ n ∧ n ≤ 1000000
  · have hs := (ccNum_in n h.1 h.2).1
    have hne := num_ne hs
    rw [decide_eq_false (by simpa using h)]
    cases e : (numTextI n).toList.isEmpty
    · rfl
    · exact absurd (List.isEmpty_iff.1 e) hne
  · rw [num_out n h, decide_eq_true h, ByteArray.toList_eq]
    rfl
theorem join_joinB (xs : List ByteArray) : (⟨(Lib.join (xs.map (fun x => x.data.toList)) [44, 32]).toArray⟩ : ByteArray) = joinB xs := by
  have h : ∀ l : List (List UInt8), Lib.join l [44, 32] = joinL l := by
    intro l
    induction l with
    | nil => rfl
    | cons a l ih =>
      cases l with
      | nil => exact Lib.join_one _ _
      | cons b l =>
        show _ = a ++ 44 :: 32 :: joinL (b :: l)
        rw [← ih]
        simp [Lib.join, List.intercalate, List.intersperse]
  unfold joinB
  rw [h]
  rfl
theorem joinL_len : ∀ (l : List (List UInt8)), (∀ x ∈ l, x.length ≤ 20) → (joinL l).length ≤ 22 * l.length := by
  intro l
  induction l with
  | nil => intro _; exact Nat.le_refl _
  | cons a l ih =>
    intro h
    have ha := h a (List.mem_cons_self ..)
    cases l with
    | nil => show a.length ≤ _; simp; omega
    | cons b l =>
      have := ih (fun x hx => h x (List.mem_cons_of_mem _ hx))
      show (a ++ 44 :: 32 :: joinL (b :: l)).length ≤ _
      simp at this ⊢
      omega

set_option maxHeartbeats 1000000 in
theorem appendIf_any (base : Nat) (v : Value) (n : Nat) (xs : List ByteArray) (said : Bool) (x : ByteArray) (w : World) (hx : n = xs.length) (hown : w.ownsRow base 9 1 v n (xs.map Value.string)) (hbase : base ≤ w.heap.size) (hn : n ≤ 1048577) :
    Calls Tryd.prog 10 #[v, .bool said, .string x] w fun e w' => RowIs base (xs ++ (if said = true then [x] else [])) w e w' := by
  obtain ⟨i0, hi, hz0, hz1, hz2⟩ := info_parts info9
  have h63 : n + 1 ≤ maxLen := by unfold maxLen; omega
  have h47 : (n + 1) * 16 ≤ 140737488355328 := by omega
  have HX : Hid (n = xs.length) := hx
  clear hx
  cases said with
  | true =>
    have HBS : ∀ o, base ≤ (w.alloc o).heap.size := fun o => by simp; omega
    have HB0 : Hid (Below base w w) := Below.refl _ _
    have HBA : Hid (base ≤ w.heap.size) := hbase
    go_enter Tryd.func10, Tryd.ntmps10
    go_wp2_with (at_builtin; refine wpList_append_own _ rfl _ _ 29 rfl base 9 i0 (.string ⟨#[]⟩) 1 16 Tryd.underlying29 hi hz0 hz1 hz2 rfl (by decide) _ _ _ rfl (hown.alloc _) ⟨w.heap.size, 0, none⟩ 1 1 [.string x] rfl rfl (cell_one_new _ _ _) (one_text _) h63 h47 (HBS _) ?_)
    intro v1 w2 hown2 hgrow _
    have hb2 : Below base w w2 := ((HB0.out.alloc HBA.out _).grown hgrow (HBS _) (fun g hg => owns_ge hown hg))
    clear hown HBS hgrow
    go_wp2
    go_ret
    exact RowIs.of (n := n + 1) (ys := xs ++ [x]) rfl (by rw [HX.out]; simp) (by simpa using hown2) hb2
  | false =>
    go_enter Tryd.func10, Tryd.ntmps10
    go_wp2_with fail
    go_ret
    exact RowIs.of (ys := xs) (by simp) HX.out hown (Below.refl _ _)

/-- While words are gathered, here. -/
structure CiSt (w : World) (H : Nat) (c : CcD) (V : Value) (xs : List ByteArray) (wr : World) : Prop where
  at_ : CcAt wr H c
  row : wr.ownsRow (H + 1) 9 1 V xs.length (xs.map Value.string)
  low : Below H w wr
theorem CiSt.next {w : World} {H : Nat} {c : CcD} {V V' : Value} {xs ys : List ByteArray} {wr w' : World} (h : CiSt w H c V xs wr) (hb : Below (H + 1) wr w') (hrow : w'.ownsRow (H + 1) 9 1 V' ys.length (ys.map Value.string)) : CiSt w H c V' ys w' :=
  ⟨h.at_.same (hb.block _ (Nat.lt_succ_self _)), hrow, h.low.trans (hb.mono (Nat.le_succ _))⟩
theorem CiSt.size {w : World} {H : Nat} {c : CcD} {V : Value} {xs : List ByteArray} {wr : World} (h : CiSt w H c V xs wr) : H + 1 ≤ wr.heap.size := h.at_.lt

set_option maxHeartbeats 4000000 in
set_option maxRecDepth 100000 in
theorem implCcText_any (c : CcD) (w : World) (h0 : -9223372036854775808 ≤ c.age) (h1 : c.age ≤ 9223372036854775807) (htab : TabOk w) :
    Calls Tryd.prog 6 #[c.v] w fun e w' => TextIs (ccText c) w e w' := by
  obtain ⟨b0, b1, b2, b3, b4, age⟩ := c
  dsimp only at h0 h1
  show Calls _ _ #[.agg #[.bool b0, .bool b1, .bool b2, .bool b3, .bool b4, .int .i64 age]] _ _
  obtain ⟨W1, hW1⟩ : ∃ W, W = w.alloc (.cells #[.bool b0, .bool b1, .bool b2, .bool b3, .bool b4, .int .i64 age] 25) := ⟨_, rfl⟩
  have HW1 : Hid (w.alloc (.cells #[.bool b0, .bool b1, .bool b2, .bool b3, .bool b4, .int .i64 age] 25) = W1) := hW1.symm
  obtain ⟨H, hH⟩ : ∃ H, H = w.heap.size := ⟨_, rfl⟩
  have HW : Hid (w.heap.size = H) := hH.symm
  have HA1 : Hid (CcAt W1 H (⟨b0, b1, b2, b3, b4, age⟩ : CcD)) := by show CcAt _ _ _; rw [hW1, hH]; exact heap_alloc_new w _
  have HB1 : Hid (Below H w W1) := by show Below _ _ _; rw [hW1, hH]; exact (Below.refl _ _).alloc (Nat.le_refl _) _
  have HT1 : Hid (TabOk W1) := by show TabOk _; rw [hW1]; exact htab.below ((Below.refl _ _).alloc (Nat.le_refl _) _)
  obtain ⟨q0, q1, q2, q3, q4, q5⟩ := HA1.out.cells
  dsimp only at q0 q1 q2 q3 q4 q5
  clear hW1 htab
  go_enter Tryd.func6, Tryd.ntmps6
  go_upto_region 1 with fail
  rw [HW1.out, ← hH]
  clear hH HW1
  go_wp2_with fail
  refine (implNumText_any age _ h0 h1 HT1.out).mono ?_
  rintro e w2 ⟨rfl, bt⟩
  have HA2 : Hid (CcAt w2 H (⟨b0, b1, b2, b3, b4, age⟩ : CcD)) := HA1.out.same (bt.block _ HA1.out.lt)
  have HB2 : Hid (Below H w w2) := HB1.out.trans (bt.mono (Nat.le_of_lt HA1.out.lt))
  obtain ⟨p0, p1, p2, p3, p4, p5⟩ := HA2.out.cells
  dsimp only at p0 p1 p2 p3 p4 p5
  clear q0 q1 q2 q3 q4 q5 HA1 HB1 bt HT1
  have he := num_none age
  by_cases hbad : b4 = true ∧ ¬ (0 ≤ age ∧ age ≤ 1000000)
  · obtain ⟨rfl, hno⟩ := hbad
    have HE : Hid (⟨#[]⟩ = ccText ⟨b0, b1, b2, b3, true, age⟩) := by show _ = _; unfold ccText; rw [if_pos ⟨rfl, hno⟩]
    rw [decide_eq_true hno] at he
    clear hno p0 p1 p2 p3
    go_wp2_with fail
    go_ret
    exact TextIs.of HE.out (by rw [HW.out]; exact HB2.out)
  have HE : Hid (ccText (⟨b0, b1, b2, b3, b4, age⟩ : CcD) = joinB (ccWords (⟨b0, b1, b2, b3, b4, age⟩ : CcD))) := by show _ = _; unfold ccText; rw [if_neg hbad]
  have HR : Hid (b4 = true → 0 ≤ age ∧ age ≤ 1000000) := fun h => Classical.byContradiction (fun e => hbad ⟨h, e⟩)
  clear hbad
  obtain ⟨t, ht⟩ : ∃ t, t = numTextI age := ⟨_, rfl⟩
  have HTX : Hid (t = numTextI age) := ht
  have hts : t.size ≤ 7 := num_len ht
  rw [← ht] at he ⊢
  clear ht
  have q8 : ¬ 9223372036854775807 < maW.size + t.size := by rw [show maW.size = 8 from rfl]; omega
  have q9 : ¬ 9223372036854775807 < 8 + t.size := by omega
  go_upto_region 2 with fail
  go_cut [13] (fun s13 wx => s13 = .bool false ∧ wx = w2)
  case first =>
    cases b4 with
    | true =>
      rw [decide_eq_false (by have := HR.out rfl; simpa using this)] at he
      go_wp2_with fail
      go_meet
      exact ⟨rfl, rfl⟩
    | false =>
      go_wp2_with fail
      go_meet
      exact ⟨rfl, rfl⟩
  case rest =>
  obtain ⟨hs13, hwc⟩ := hcut
  rw [hs13, hwc]
  clear hs13 hwc wc he
  have HS0 : Hid (CiSt w H (⟨b0, b1, b2, b3, b4, age⟩ : CcD) (.slice none 0 0) [] w2) := ⟨HA2.out, World.ownsRow_nil _ _ _ _, HB2.out⟩
  clear HA2 HB2
  go_wp2_with fail
  refine (appendIf_any (H + 1) _ 0 [] b0 nsW _ rfl HS0.out.row HS0.out.size (by omega)).mono ?_
  rintro e w3 ⟨V1, rfl, hr1, hb1⟩
  have HS1 : Hid (CiSt w H _ V1 _ w3) := HS0.out.next hb1 hr1
  clear hr1 hb1 p0 p1 p2 p3 p4 p5 HS0
  obtain ⟨xs1, hx1⟩ : ∃ xs, xs = ([] : List ByteArray) ++ (if b0 = true then [nsW] else []) := ⟨_, rfl⟩
  have HX1 : Hid (xs1 = ([] : List ByteArray) ++ (if b0 = true then [nsW] else [])) := hx1
  have hl1 : xs1.length ≤ 1 := by rw [hx1, List.length_append]; split <;> simp
  rw [← hx1] at HS1
  clear hx1
  have p1 := HS1.out.at_.cells.2.1
  dsimp only at p1
  go_wp2_with fail
  refine (appendIf_any (H + 1) _ _ xs1 b1 ncW _ rfl HS1.out.row HS1.out.size (by omega)).mono ?_
  rintro e w4 ⟨V2, rfl, hr2, hb2⟩
  have HS2 : Hid (CiSt w H _ V2 _ w4) := HS1.out.next hb2 hr2
  clear hr2 hb2 p1 HS1
  obtain ⟨xs2, hx2⟩ : ∃ xs, xs = xs1 ++ (if b1 = true then [ncW] else []) := ⟨_, rfl⟩
  have HX2 : Hid (xs2 = xs1 ++ (if b1 = true then [ncW] else [])) := hx2
  have hl2 : xs2.length ≤ 2 := by rw [hx2, List.length_append]; split <;> simp <;> omega
  rw [← hx2] at HS2
  clear hx2
  have p2 := HS2.out.at_.cells.2.2.1
  dsimp only at p2
  go_wp2_with fail
  refine (appendIf_any (H + 1) _ _ xs2 b2 prW _ rfl HS2.out.row HS2.out.size (by omega)).mono ?_
  rintro e w5 ⟨V3, rfl, hr3, hb3⟩
  have HS3 : Hid (CiSt w H _ V3 _ w5) := HS2.out.next hb3 hr3
  clear hr3 hb3 p2 HS2
  obtain ⟨xs3, hx3⟩ : ∃ xs, xs = xs2 ++ (if b2 = true then [prW] else []) := ⟨_, rfl⟩
  have HX3 : Hid (xs3 = xs2 ++ (if b2 = true then [prW] else [])) := hx3
  have hl3 : xs3.length ≤ 3 := by rw [hx3, List.length_append]; split <;> simp <;> omega
  rw [← hx3] at HS3
  clear hx3
  have p3 := HS3.out.at_.cells.2.2.2.1
  dsimp only at p3
  go_wp2_with fail
  refine (appendIf_any (H + 1) _ _ xs3 b3 muW _ rfl HS3.out.row HS3.out.size (by omega)).mono ?_
  rintro e w6 ⟨V4, rfl, hr4, hb4⟩
  have HS4 : Hid (CiSt w H _ V4 _ w6) := HS3.out.next hb4 hr4
  clear hr4 hb4 p3 HS3
  obtain ⟨xs4, hx4⟩ : ∃ xs, xs = xs3 ++ (if b3 = true then [muW] else []) := ⟨_, rfl⟩
  have HX4 : Hid (xs4 = xs3 ++ (if b3 = true then [muW] else [])) := hx4
  have hl4 : xs4.length ≤ 4 := by rw [hx4, List.length_append]; split <;> simp <;> omega
  rw [← hx4] at HS4
  clear hx4
  have p4 := HS4.out.at_.cells.2.2.2.2.1
  dsimp only at p4
  go_wp2_with fail
  refine (appendIf_any (H + 1) _ _ xs4 b4 (maW ++ t) _ rfl HS4.out.row HS4.out.size (by omega)).mono ?_
  rintro e w7 ⟨V5, rfl, hr5, hb5⟩
  have HS5 : Hid (CiSt w H _ V5 _ w7) := HS4.out.next hb5 hr5
  clear hr5 hb5 p4 HS4
  have HXS : Hid (xs4 ++ (if b4 = true then [maW ++ t] else []) = ccWords (⟨b0, b1, b2, b3, b4, age⟩ : CcD)) := by
    show _ = _
    rw [HX4.out, HX3.out, HX2.out, HX1.out, HTX.out]
    rfl
  rw [HXS.out] at HS5
  clear HXS HX1 HX2 HX3 HX4
  have HWS : Hid (∀ x ∈ ccWords (⟨b0, b1, b2, b3, b4, age⟩ : CcD), x.size ≤ 20) := word_size _
  have HWL : Hid ((ccWords (⟨b0, b1, b2, b3, b4, age⟩ : CcD)).length ≤ 5) := words_len _
  obtain ⟨xs, hxs⟩ : ∃ xs, xs = ccWords (⟨b0, b1, b2, b3, b4, age⟩ : CcD) := ⟨_, rfl⟩
  rw [← hxs] at HS5 HE HWS HWL
  clear hxs
  have HJ : Hid ((Lib.join (xs.map (fun x => x.data.toList)) [44, 32]).length ≤ 140737488355328) := by
    show _ ≤ _
    have e := congrArg (fun b : ByteArray => b.data.toList.length) (join_joinB xs)
    simp only [joinB] at e
    have := joinL_len (xs.map bs) (fun x hx => by obtain ⟨y, hy, rfl⟩ := List.mem_map.1 hx; exact HWS.out y hy)
    have h5 := HWL.out
    simp at e this
    omega
  by_cases hem : xs = []
  · subst hem
    obtain ⟨oa, cp, rfl⟩ := slice_of_owns HS5.out.row
    go_wp2_with fail
    refine (Tryd.strings_Join_none _ _ _ _).mono ?_
    rintro e w8 ⟨rfl, rfl⟩
    go_wp2_with fail
    go_ret
    exact TextIs.of (by rw [HE.out]; rfl) (by rw [HW.out]; exact HS5.out.low)
  · obtain ⟨g, cp, rfl, hcell, hg, hcap⟩ := owns_texts HS5.out.row hem
    go_wp2_with fail
    refine (Tryd.strings_Join g 0 cp xs ⟨#[44, 32]⟩ _ hcell hg (by have := HWL.out; omega) hcap HJ.out).mono ?_
    rintro e w8 ⟨rfl, hb8⟩
    have HL : Hid (Below H w w8) := HS5.out.low.trans (hb8.mono (by have := HS5.out.size; omega))
    have HF : Hid (⟨(Lib.join (xs.map (fun x => x.data.toList)) (⟨#[44, 32]⟩ : ByteArray).data.toList).toArray⟩ = ccText (⟨b0, b1, b2, b3, b4, age⟩ : CcD)) := by show _ = _; rw [HE.out]; exact join_joinB xs
    clear hb8 hcell
    go_wp2_with fail
    go_ret
    exact TextIs.of HF.out (by rw [HW.out]; exact HL.out)

end Go.Proofs.YtjcojkfigacbhaaDoor
