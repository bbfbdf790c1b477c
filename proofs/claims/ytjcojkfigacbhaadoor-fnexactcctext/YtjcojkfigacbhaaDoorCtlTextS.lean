/- 'CcText' of the specification: a contract over the translation. (Written by wip/ctl/mkctltext.py.) -/
import Derived.Test.YtjcojkfigacbhaaDoorCtlSpec
import Derived.Test.YtjcojkfigacbhaaDoorMsgSpec
import Derived.Deep.CutRange
import Derived.Deep.DeepCutAuto
namespace Go.Proofs.YtjcojkfigacbhaaDoor
open Go.RowKit
open Go.Lib hiding intOf

theorem join_snoc (a : List UInt8) : ∀ l : List (List UInt8), joinL (l ++ [a]) = if l = [] then a else joinL l ++ 44 :: 32 :: a := by
  intro l
  induction l with
  | nil => rfl
  | cons b l ih =>
    rw [if_neg (by simp)]
    cases l with
    | nil => rfl
    | cons d l =>
      rw [if_neg (by simp)] at ih
      show b ++ 44 :: 32 :: joinL ((d :: l) ++ [a]) = (b ++ 44 :: 32 :: joinL (d :: l)) ++ 44 :: 32 :: a
      rw [ih]
      simp
theorem joinB_snoc (l : List ByteArray) (x : ByteArray) : joinB (l ++ [x]) = if l = [] then x else joinB l ++ ⟨#[44, 32]⟩ ++ x := by
  have e : ∀ a b : ByteArray, bs a = bs b → a = b := fun a b h => by rw [← text_bs a, ← text_bs b, h]
  have j : ∀ l, bs (joinB l) = joinL (l.map bs) := fun l => by simp [bs, joinB]
  apply e
  rw [j, List.map_append, List.map_cons, List.map_nil, join_snoc]
  by_cases h : l = []
  · rw [if_pos h, if_pos (by rw [h]; rfl)]
  · rw [if_neg h, if_neg (by simpa using h), bs_append, bs_append, j]
    show _ = _ ++ [44, 32] ++ _
    simp
theorem word_size (c : CcD) : ∀ x ∈ ccWords c, x.size ≤ 20 := by
  have g5 : (maW ++ numTextI c.age).size ≤ 20 := by
    rw [ByteArray.size_append]
    have h8 : maW.size = 8 := rfl
    have h7 : (numTextI c.age).size ≤ 7 := by
      by_cases h : 0 ≤ c.age ∧ c.age ≤ 1000000
      · exact num_seven (ccNum_in _ h.1 h.2).1
      · have e : numTextI c.age = ⟨#[]⟩ := by
          unfold numTextI
          by_cases h0 : c.age < 0
          · rw [if_pos h0]
          · rw [if_neg h0]
            unfold numText numL
            rw [if_pos (by omega)]
        rw [e]
        decide
    omega
  have g1 : nsW.size ≤ 20 := by decide
  have g2 : ncW.size ≤ 20 := by decide
  have g3 : prW.size ≤ 20 := by decide
  have g4 : muW.size ≤ 20 := by decide
  intro x hx
  unfold ccWords at hx
  simp only [List.mem_append] at hx
  rcases hx with (((hx | hx) | hx) | hx) | hx
  all_goals
    split at hx
    · obtain rfl := List.mem_singleton.1 hx
      assumption
    · cases hx
theorem words_len (c : CcD) : (ccWords c).length ≤ 5 := by
  unfold ccWords
  cases c.ns <;> cases c.nc <;> cases c.pr <;> cases c.mu <;> cases c.ha <;> simp

/-- While words are gathered. -/
structure CtSt (w : World) (H : Nat) (c : CcD) (V : Value) (xs : List ByteArray) (wr : World) : Prop where
  at_ : CcAt wr H c
  row : wr.ownsRow (H + 1) 9 1 V xs.length (xs.map Value.string)
  low : Below H w wr
theorem CtSt.later {w : World} {H : Nat} {c : CcD} {V : Value} {xs : List ByteArray} {wr w' : World} (h : CtSt w H c V xs wr) (hb : Below wr.heap.size wr w') : CtSt w H c V xs w' :=
  ⟨h.at_.same (hb.block _ h.at_.lt), owns_below h.row hb (fun _ hg => owns_lt h.row hg), h.low.trans (hb.mono (Nat.le_of_lt h.at_.lt))⟩
theorem CtSt.more {w : World} {H : Nat} {c : CcD} {V V' : Value} {xs : List ByteArray} {x : ByteArray} {wr W : World} (h : CtSt w H c V xs wr) (hg : wr.grownBy W V.ownBlock) (hrow : W.ownsRow (H + 1) 9 1 V' (xs.length + 1) (xs.map Value.string ++ [.string x])) : CtSt w H c V' (xs ++ [x]) W := by
  refine ⟨h.at_.same (hg.block _ h.at_.lt (fun e => ?_)), by rw [List.length_append, List.map_append]; exact hrow, h.low.grown hg (Nat.le_of_lt h.at_.lt) (fun k hk => by have := (own_ltR h.row hk).1; omega)⟩
  have := (own_ltR h.row e.symm).1
  omega

set_option maxHeartbeats 8000000 in
set_option maxRecDepth 100000 in
theorem specCcText_any (c : CcD) (w : World) (h0 : -9223372036854775808 ≤ c.age) (h1 : c.age ≤ 9223372036854775807) :
    Calls Tryd.prog 4 #[c.v] w fun e w' => TextIs (ccText c) w e w' := by
  obtain ⟨b0, b1, b2, b3, b4, age⟩ := c
  dsimp only at h0 h1
  obtain ⟨i0, hi, hz0, hz1, hz2⟩ := info_parts info9
  have HA0 : Hid (CcAt (w.alloc (.cells #[.bool b0, .bool b1, .bool b2, .bool b3, .bool b4, .int .i64 age] 25)) w.heap.size (⟨b0, b1, b2, b3, b4, age⟩ : CcD)) := heap_alloc_new w _
  obtain ⟨q0, q1, q2, q3, q4, q5⟩ := HA0.out.cells
  dsimp only at q0 q1 q2 q3 q4 q5
  have HB0 : Hid (Below w.heap.size w (w.alloc (.cells #[.bool b0, .bool b1, .bool b2, .bool b3, .bool b4, .int .i64 age] 25))) := (Below.refl _ _).alloc (Nat.le_refl _) _
  show Calls _ _ #[.agg #[.bool b0, .bool b1, .bool b2, .bool b3, .bool b4, .int .i64 age]] _ _
  by_cases hbad : b4 = true ∧ ¬ (0 ≤ age ∧ age ≤ 1000000)
  · obtain ⟨rfl, hno⟩ := hbad
    have HE : Hid (⟨#[]⟩ = ccText ⟨b0, b1, b2, b3, true, age⟩) := by show _ = _; unfold ccText; rw [if_pos ⟨rfl, hno⟩]
    have hde : decide ((0 : Int) ≤ age ∧ age ≤ 1000000) = false := by simpa using hno
    clear hno q0 q1 q2 q3
    go_enter Tryd.func4, Tryd.ntmps4
    go_wp2_with fail
    refine (l1In_any _ _ _ _).mono ?_
    rintro e w1 ⟨rfl, rfl⟩
    rw [hde]
    go_wp2_with fail
    go_ret
    exact TextIs.of HE.out HB0.out
  · have HE : Hid (ccText (⟨b0, b1, b2, b3, b4, age⟩ : CcD) = joinB (ccWords (⟨b0, b1, b2, b3, b4, age⟩ : CcD))) := by show _ = _; unfold ccText; rw [if_neg hbad]
    have HR : Hid (b4 = true → 0 ≤ age ∧ age ≤ 1000000) := fun h => Classical.byContradiction (fun e => hbad ⟨h, e⟩)
    clear hbad
    obtain ⟨W1, hW1⟩ : ∃ W, W = w.alloc (.cells #[.bool b0, .bool b1, .bool b2, .bool b3, .bool b4, .int .i64 age] 25) := ⟨_, rfl⟩
    have HW1 : Hid (w.alloc (.cells #[.bool b0, .bool b1, .bool b2, .bool b3, .bool b4, .int .i64 age] 25) = W1) := hW1.symm
    obtain ⟨H, hH⟩ : ∃ H, H = w.heap.size := ⟨_, rfl⟩
    have HW : Hid (w.heap.size = H) := hH.symm
    rw [← hW1, ← hH] at q0 q1 q2 q3 q4 q5
    have HA1 : Hid (CcAt W1 H (⟨b0, b1, b2, b3, b4, age⟩ : CcD)) := by show CcAt _ _ _; rw [hW1, hH]; exact HA0.out
    have HB1 : Hid (Below H w W1) := by show Below _ _ _; rw [hW1, hH]; exact HB0.out
    have hs1 : W1.heap.size = H + 1 := by rw [hW1, hH]; simp
    have HC0 : Hid (CtSt w H (⟨b0, b1, b2, b3, b4, age⟩ : CcD) (.slice (some ⟨W1.heap.size, 0, none⟩) 0 0) [] (W1.alloc (.cells #[] 9))) :=
      ⟨HA1.out.same (heap_alloc_old _ _ HA1.out.lt), ⟨rfl, .inr ⟨W1.heap.size, 0, #[], rfl, by omega, heap_alloc_new W1 _, Nat.le_refl _, Nat.zero_le _, rfl, rfl⟩⟩, HB1.out.alloc (by omega) _⟩
    clear hW1 HA0 HB0 HA1 hs1
    go_enter Tryd.func4, Tryd.ntmps4
    go_upto_region 1 with fail
    rw [HW1.out, ← hH]
    clear hH HW1
    go_cut [13] (fun s13 wx => s13 = .bool false ∧ wx = W1)
    case first =>
      cases b4 with
      | true =>
        have hde : decide ((0 : Int) ≤ age ∧ age ≤ 1000000) = true := by simpa using HR.out rfl
        go_wp2_with fail
        refine (l1In_any _ _ _ _).mono ?_
        rintro e w1 ⟨rfl, rfl⟩
        rw [hde]
        go_wp2_with fail
        go_meet
        exact ⟨rfl, rfl⟩
      | false =>
        go_wp2_with fail
        go_meet
        exact ⟨rfl, rfl⟩
    case rest =>
    obtain ⟨hs13, hwc⟩ := hcut
    rw [hs13, hwc]
    clear hs13 hwc wc
    have p0 := HC0.out.at_.cells.1
    dsimp only at p0
    clear q0 q1 q2 q3 q4 q5
    go_upto_if 16 with fail
    obtain ⟨W2, hW2⟩ : ∃ W, W = W1.alloc (.cells #[] 9) := ⟨_, rfl⟩
    rw [← hW2] at HC0 ⊢
    clear hW2
    go_cut [3] (fun s3 wx => ∃ (V : Value) (xs : List ByteArray), s3 = V ∧ xs = ([] : List ByteArray) ++ (if b0 = true then [nsW] else []) ∧ Hid (CtSt w H (⟨b0, b1, b2, b3, b4, age⟩ : CcD) V xs wx))
    case first =>
      have h63 : ([] : List ByteArray).length + 1 ≤ maxLen := by decide
      have h47 : (([] : List ByteArray).length + 1) * 16 ≤ 140737488355328 := by decide
      have HBS : ∀ o, H + 1 ≤ (W2.alloc o).heap.size := fun o => by have := HC0.out.at_.lt; rw [World.size_alloc]; omega
      cases b0 with
      | true =>
        go_wp2_with (at_builtin; refine wpList_append_own _ rfl _ _ 29 rfl (H + 1) 9 i0 (.string ⟨#[]⟩) 1 16 Tryd.underlying29 hi hz0 hz1 hz2 rfl (by decide) _ _ _ rfl (HC0.out.row.alloc _) ⟨W2.heap.size, 0, none⟩ 1 1 [.string nsW] rfl rfl (cell_one_new _ _ _) (one_text _) h63 h47 (HBS _) ?_)
        intro v4 w4 hown4 hgrow4 _
        have HN : Hid (CtSt w H _ v4 (([] : List ByteArray) ++ [nsW]) w4) := (HC0.out.later ((Below.refl _ _).alloc (Nat.le_refl _) _)).more hgrow4 hown4
        clear hown4 hgrow4
        go_wp2_with fail
        go_meet
        exact ⟨_, _, rfl, rfl, HN⟩
      | false =>
        go_wp2_with fail
        go_meet
        exact ⟨_, _, rfl, by simp, HC0⟩
    case rest =>
    obtain ⟨V1, xs1, hV1, hxs1, HC1⟩ := hcut
    rw [hV1]
    have HX1 : Hid (xs1 = ([] : List ByteArray) ++ (if b0 = true then [nsW] else [])) := hxs1
    have hl1 : xs1.length ≤ 1 := by rw [hxs1, List.length_append]; split <;> simp
    obtain ⟨w1c, hw1⟩ : ∃ W, W = wc := ⟨_, rfl⟩
    rw [← hw1] at HC1 ⊢
    have p1 := HC1.out.at_.cells.2.1
    dsimp only at p1
    clear hV1 hxs1 hw1 p0 HC0
    go_upto_if 21 with fail
    go_cut [3] (fun s3 wx => ∃ (V : Value) (xs : List ByteArray), s3 = V ∧ xs = xs1 ++ (if b1 = true then [ncW] else []) ∧ Hid (CtSt w H (⟨b0, b1, b2, b3, b4, age⟩ : CcD) V xs wx))
    case first =>
      have h63 : xs1.length + 1 ≤ maxLen := by unfold maxLen; omega
      have h47 : (xs1.length + 1) * 16 ≤ 140737488355328 := by omega
      have HBS : ∀ o, H + 1 ≤ (w1c.alloc o).heap.size := fun o => by have := HC1.out.at_.lt; rw [World.size_alloc]; omega
      cases b1 with
      | true =>
        go_wp2_with (at_builtin; refine wpList_append_own _ rfl _ _ 29 rfl (H + 1) 9 i0 (.string ⟨#[]⟩) 1 16 Tryd.underlying29 hi hz0 hz1 hz2 rfl (by decide) _ _ _ rfl (HC1.out.row.alloc _) ⟨w1c.heap.size, 0, none⟩ 1 1 [.string ncW] rfl rfl (cell_one_new _ _ _) (one_text _) h63 h47 (HBS _) ?_)
        intro v4 w4 hown4 hgrow4 _
        have HN : Hid (CtSt w H _ v4 (xs1 ++ [ncW]) w4) := (HC1.out.later ((Below.refl _ _).alloc (Nat.le_refl _) _)).more hgrow4 hown4
        clear hown4 hgrow4
        go_wp2_with fail
        go_meet
        exact ⟨_, _, rfl, rfl, HN⟩
      | false =>
        go_wp2_with fail
        go_meet
        exact ⟨_, _, rfl, by simp, HC1⟩
    case rest =>
    obtain ⟨V2, xs2, hV2, hxs2, HC2⟩ := hcut
    rw [hV2]
    have HX2 : Hid (xs2 = xs1 ++ (if b1 = true then [ncW] else [])) := hxs2
    have hl2 : xs2.length ≤ 2 := by rw [hxs2, List.length_append]; split <;> simp <;> omega
    obtain ⟨w2c, hw2⟩ : ∃ W, W = wc := ⟨_, rfl⟩
    rw [← hw2] at HC2 ⊢
    have p2 := HC2.out.at_.cells.2.2.1
    dsimp only at p2
    clear hV2 hxs2 hw2 p1 HC1
    go_upto_if 26 with fail
    go_cut [3] (fun s3 wx => ∃ (V : Value) (xs : List ByteArray), s3 = V ∧ xs = xs2 ++ (if b2 = true then [prW] else []) ∧ Hid (CtSt w H (⟨b0, b1, b2, b3, b4, age⟩ : CcD) V xs wx))
    case first =>
      have h63 : xs2.length + 1 ≤ maxLen := by unfold maxLen; omega
      have h47 : (xs2.length + 1) * 16 ≤ 140737488355328 := by omega
      have HBS : ∀ o, H + 1 ≤ (w2c.alloc o).heap.size := fun o => by have := HC2.out.at_.lt; rw [World.size_alloc]; omega
      cases b2 with
      | true =>
        go_wp2_with (at_builtin; refine wpList_append_own _ rfl _ _ 29 rfl (H + 1) 9 i0 (.string ⟨#[]⟩) 1 16 Tryd.underlying29 hi hz0 hz1 hz2 rfl (by decide) _ _ _ rfl (HC2.out.row.alloc _) ⟨w2c.heap.size, 0, none⟩ 1 1 [.string prW] rfl rfl (cell_one_new _ _ _) (one_text _) h63 h47 (HBS _) ?_)
        intro v4 w4 hown4 hgrow4 _
        have HN : Hid (CtSt w H _ v4 (xs2 ++ [prW]) w4) := (HC2.out.later ((Below.refl _ _).alloc (Nat.le_refl _) _)).more hgrow4 hown4
        clear hown4 hgrow4
        go_wp2_with fail
        go_meet
        exact ⟨_, _, rfl, rfl, HN⟩
      | false =>
        go_wp2_with fail
        go_meet
        exact ⟨_, _, rfl, by simp, HC2⟩
    case rest =>
    obtain ⟨V3, xs3, hV3, hxs3, HC3⟩ := hcut
    rw [hV3]
    have HX3 : Hid (xs3 = xs2 ++ (if b2 = true then [prW] else [])) := hxs3
    have hl3 : xs3.length ≤ 3 := by rw [hxs3, List.length_append]; split <;> simp <;> omega
    obtain ⟨w3c, hw3⟩ : ∃ W, W = wc := ⟨_, rfl⟩
    rw [← hw3] at HC3 ⊢
    have p3 := HC3.out.at_.cells.2.2.2.1
    dsimp only at p3
    clear hV3 hxs3 hw3 p2 HC2
    go_upto_if 31 with fail
    go_cut [3] (fun s3 wx => ∃ (V : Value) (xs : List ByteArray), s3 = V ∧ xs = xs3 ++ (if b3 = true then [muW] else []) ∧ Hid (CtSt w H (⟨b0, b1, b2, b3, b4, age⟩ : CcD) V xs wx))
    case first =>
      have h63 : xs3.length + 1 ≤ maxLen := by unfold maxLen; omega
      have h47 : (xs3.length + 1) * 16 ≤ 140737488355328 := by omega
      have HBS : ∀ o, H + 1 ≤ (w3c.alloc o).heap.size := fun o => by have := HC3.out.at_.lt; rw [World.size_alloc]; omega
      cases b3 with
      | true =>
        go_wp2_with (at_builtin; refine wpList_append_own _ rfl _ _ 29 rfl (H + 1) 9 i0 (.string ⟨#[]⟩) 1 16 Tryd.underlying29 hi hz0 hz1 hz2 rfl (by decide) _ _ _ rfl (HC3.out.row.alloc _) ⟨w3c.heap.size, 0, none⟩ 1 1 [.string muW] rfl rfl (cell_one_new _ _ _) (one_text _) h63 h47 (HBS _) ?_)
        intro v4 w4 hown4 hgrow4 _
        have HN : Hid (CtSt w H _ v4 (xs3 ++ [muW]) w4) := (HC3.out.later ((Below.refl _ _).alloc (Nat.le_refl _) _)).more hgrow4 hown4
        clear hown4 hgrow4
        go_wp2_with fail
        go_meet
        exact ⟨_, _, rfl, rfl, HN⟩
      | false =>
        go_wp2_with fail
        go_meet
        exact ⟨_, _, rfl, by simp, HC3⟩
    case rest =>
    obtain ⟨V4, xs4, hV4, hxs4, HC4⟩ := hcut
    rw [hV4]
    have HX4 : Hid (xs4 = xs3 ++ (if b3 = true then [muW] else [])) := hxs4
    have hl4 : xs4.length ≤ 4 := by rw [hxs4, List.length_append]; split <;> simp <;> omega
    obtain ⟨w4c, hw4⟩ : ∃ W, W = wc := ⟨_, rfl⟩
    rw [← hw4] at HC4 ⊢
    have p4 := HC4.out.at_.cells.2.2.2.2.1
    dsimp only at p4
    clear hV4 hxs4 hw4 p3 HC3
    go_upto_if 36 with fail
    go_cut [3] (fun s3 wx => ∃ (V : Value) (xs : List ByteArray), s3 = V ∧ xs = xs4 ++ (if b4 = true then [maW ++ numTextI age] else []) ∧ Hid (CtSt w H (⟨b0, b1, b2, b3, b4, age⟩ : CcD) V xs wx))
    case first =>
      have h63 : xs4.length + 1 ≤ maxLen := by unfold maxLen; omega
      have h47 : (xs4.length + 1) * 16 ≤ 140737488355328 := by omega
      have p5 := HC4.out.at_.cells.2.2.2.2.2
      dsimp only at p5
      cases b4 with
      | true =>
        obtain ⟨t, ht⟩ : ∃ t, t = numTextI age := ⟨_, rfl⟩
        have hts : t.size ≤ 7 := by rw [ht]; exact num_seven (ccNum_in _ (HR.out rfl).1 (HR.out rfl).2).1
        have q8 : ¬ 9223372036854775807 < maW.size + t.size := by rw [show maW.size = 8 from rfl]; omega
        have q9 : ¬ 9223372036854775807 < 8 + t.size := by omega
        have HT : Hid (numTextI age = t) := ht.symm
        clear ht
        go_wp2_with fail
        refine (specNumText_int age _ h0 h1).mono ?_
        rintro e w5 ⟨rfl, b5⟩
        rw [HT.out]
        have HC5 : Hid (CtSt w H _ V4 xs4 w5) := HC4.out.later b5
        have HBS : ∀ o, H + 1 ≤ (w5.alloc o).heap.size := fun o => by have := HC5.out.at_.lt; rw [World.size_alloc]; omega
        clear b5
        go_wp2_with (at_builtin; refine wpList_append_own _ rfl _ _ 29 rfl (H + 1) 9 i0 (.string ⟨#[]⟩) 1 16 Tryd.underlying29 hi hz0 hz1 hz2 rfl (by decide) _ _ _ rfl (HC5.out.row.alloc _) ⟨w5.heap.size, 0, none⟩ 1 1 [.string (maW ++ t)] rfl rfl (cell_one_new _ _ _) (one_text _) h63 h47 (HBS _) ?_)
        intro v6 w6 hown6 hgrow6 _
        have HN : Hid (CtSt w H _ v6 (xs4 ++ [maW ++ t]) w6) := (HC5.out.later ((Below.refl _ _).alloc (Nat.le_refl _) _)).more hgrow6 hown6
        clear hown6 hgrow6
        go_wp2_with fail
        go_meet
        exact ⟨_, _, rfl, by rw [HT.out]; rfl, HN⟩
      | false =>
        go_wp2_with fail
        go_meet
        exact ⟨_, _, rfl, by simp, HC4⟩
    case rest =>
    obtain ⟨V5, xs, hV5, hxs5, HC5⟩ := hcut
    rw [hV5]
    have HXS : Hid (xs = ccWords (⟨b0, b1, b2, b3, b4, age⟩ : CcD)) := by
      show _ = _
      rw [hxs5, HX4.out, HX3.out, HX2.out, HX1.out]
      rfl
    obtain ⟨n, hn⟩ : ∃ n, n = xs.length := ⟨_, rfl⟩
    have hn5 : n ≤ 5 := by rw [hn, HXS.out]; exact words_len _
    have HWS : Hid (∀ x ∈ xs, x.size ≤ 20) := fun x hx => word_size _ x (by rw [← HXS.out]; exact hx)
    obtain ⟨oa, cp, rfl⟩ := slice_of_owns HC5.out.row
    rw [← hn] at HC5 ⊢
    have HN : Hid (xs.length = n) := hn.symm
    obtain ⟨W5, hW5⟩ : ∃ W, W = wc := ⟨_, rfl⟩
    rw [← hW5] at HC5 ⊢
    clear hV5 hxs5 hn hW5 HC4 p4 HX1 HX2 HX3 HX4
    go_wp2_with fail
    go_loopw [4, 5] (fun a i wr => ∃ (k : Nat) (u : ByteArray), k ≤ n ∧ i = .int .i64 (k : Int) ∧ a = .string u ∧ u.size ≤ 30 * k ∧ Hid (u = joinB (xs.take k)) ∧ wr = W5) (fun _ i _ => n - (intOf i).toNat)
    case atStart => exact ⟨0, ⟨#[]⟩, Nat.zero_le _, rfl, rfl, by decide, rfl, rfl⟩
    case round =>
      obtain ⟨k, u, hk, rfl, rfl, hus, HU, rfl⟩ := hrel
      by_cases hlt : (k : Int) < (n : Int)
      · have hkl : k < xs.length := by have := HN.out; omega
        obtain ⟨g, rfl⟩ : ∃ g, oa = some ⟨g, 0, none⟩ := by
          rcases HC5.out.row.2 with ⟨e, _⟩ | ⟨g, _, _, e, _⟩
          · injection e with _ e2 _; omega
          · injection e with e1 _ _; exact ⟨g, e1⟩
        obtain ⟨x, hx⟩ : ∃ x, x = xs[k]'hkl := ⟨_, rfl⟩
        have hc0 : wr.cell? ⟨g, k, none⟩ = some (.string x) := by
          have hr := HC5.out.row
          rw [HN.out] at hr
          exact (owns_cellC hr k (.string x) (by rw [List.getElem?_map, List.getElem?_eq_getElem hkl, hx]; rfl)).1
        have hxz : x.size ≤ 20 := by rw [hx]; exact HWS.out _ (List.getElem_mem hkl)
        have hj := joinB_snoc (xs.take k) x
        have HTK : Hid (xs.take (k + 1) = xs.take k ++ [x]) := by show _ = _; rw [List.take_succ_eq_append_getElem hkl, hx]
        by_cases hk0 : k = 0
        · subst hk0
          rw [if_pos (by simp)] at hj
          have hu0 : u = ⟨#[]⟩ := HU.out
          have hq : (⟨#[]⟩ : ByteArray) ++ x = x := by
            apply ByteArray.ext
            simp
          have HJ : Hid (u ++ x = joinB (xs.take (0 + 1))) := by show _ = _; rw [HTK.out, hj, hu0, hq]
          have q1 : ¬ 9223372036854775807 < u.size + x.size := by omega
          have hsz : (u ++ x).size ≤ 30 * (0 + 1) := by rw [ByteArray.size_append]; omega
          clear hj hx hu0 hq hkl
          go_wp2_with fail
          go_roundw
          case rel => exact ⟨0 + 1, u ++ x, by omega, by go_num, rfl, hsz, HJ, trivial⟩
          case measure => simp [intOf]; omega
        · have hk1 : (0 : Int) < (k : Int) := by omega
          rw [if_neg (by intro e; have := congrArg List.length e; rw [List.length_take, List.length_nil] at this; omega)] at hj
          have HJ : Hid (u ++ ⟨#[44, 32]⟩ ++ x = joinB (xs.take (k + 1))) := by show _ = _; rw [HTK.out, hj, HU.out]
          have q1 : ¬ 9223372036854775807 < u.size + 2 := by omega
          have hs2 : (u ++ (⟨#[44, 32]⟩ : ByteArray)).size = u.size + 2 := by rw [ByteArray.size_append]; rfl
          have q2 : ¬ 9223372036854775807 < u.size + 2 + x.size := by omega
          have q3 : ¬ 9223372036854775807 < (u ++ (⟨#[44, 32]⟩ : ByteArray)).size + x.size := by omega
          have hsz : (u ++ ⟨#[44, 32]⟩ ++ x).size ≤ 30 * (k + 1) := by rw [ByteArray.size_append, hs2]; omega
          clear hj hx hkl
          go_wp2_with fail
          go_roundw
          case rel => exact ⟨k + 1, u ++ ⟨#[44, 32]⟩ ++ x, by omega, by go_num, rfl, hsz, HJ, trivial⟩
          case measure => simp [intOf]; omega
      · obtain rfl : k = n := by omega
        have HF : Hid (u = ccText (⟨b0, b1, b2, b3, b4, age⟩ : CcD)) := by
          show _ = _
          rw [HU.out, HE.out, List.take_of_length_le (by rw [HN.out]; exact Nat.le_refl _), HXS.out]
        go_wp2_with fail
        go_ret
        exact TextIs.of HF.out (by rw [HW.out]; exact HC5.out.low)

end Go.Proofs.YtjcojkfigacbhaaDoor
