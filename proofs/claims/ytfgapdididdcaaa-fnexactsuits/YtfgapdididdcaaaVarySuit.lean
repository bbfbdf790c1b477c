/- 'Suits' of the specification: contracts over the translation. -/
import Derived.Test.YtfgapdididdcaaaVarySpec
import Derived.Deep.QuietTactic
namespace Go.Proofs.Ytfgapdididdcaaa
open Go.RowKit
open Go.Lib hiding intOf

theorem starT_list : starT.toList = [42] := by rw [ByteArray.toList_eq]; rfl
theorem textAt_mem (xs : List ByteArray) (j : Nat) (h : j < xs.length) : textAt xs j ∈ xs := by
  unfold textAt
  rw [List.getD_eq_getElem?_getD, List.getElem?_eq_getElem h]
  exact List.getElem_mem _
theorem take_textAt (xs : List ByteArray) (j : Nat) (h : j < xs.length) : xs.take (j + 1) = xs.take j ++ [textAt xs j] := by
  rw [List.take_add_one, List.getElem?_eq_getElem h]
  unfold textAt
  rw [List.getD_eq_getElem?_getD, List.getElem?_eq_getElem h]
  rfl

open Classical in
set_option maxHeartbeats 1000000 in
theorem l8Star_any (oa : Option Addr) (m cm : Nat) (xs : List ByteArray) (w : World) (hx : TextsA w oa m xs) (hm : m ≤ 2000000) :
    Calls Try.prog 34 #[.slice oa m cm] w fun e w' => e = .returned (.bool (decide (starT ∈ xs))) ∧ w' = w := by
  have HX : Hid (TextsA w oa m xs) := hx
  clear hx
  go_enter Try.func34, Try.ntmps34
  go_wp2_with fail
  go_loopw [3] (fun i wr => ∃ j : Nat, j ≤ m ∧ i = .int .i64 (j : Int) ∧ wr = w ∧ Hid (starT ∉ xs.take j)) (fun i _ => m - (intOf i).toNat)
  case atStart => exact ⟨0, Nat.zero_le _, rfl, rfl, by show _ ∉ _; simp⟩
  case round =>
    obtain ⟨j, hj, rfl, rfl, HN⟩ := hrel
    by_cases hlt : (j : Int) < (m : Int)
    · have hjx : j < xs.length := by rw [HX.out.1]; omega
      obtain ⟨g, rfl, hg, hc⟩ := HX.out.2 j (by omega)
      obtain ⟨x, hxx⟩ : ∃ x, x = textAt xs j := ⟨_, rfl⟩
      rw [← hxx] at hc
      by_cases he : x = starT
      · have t0 : (x.toList == starT.toList) = true := (text_beq _ _).2 he
        rw [starT_list] at t0
        have HE : Hid (decide (starT ∈ xs) = true) := decide_eq_true (by rw [← he, hxx]; exact textAt_mem xs j hjx)
        clear he hxx hjx HN
        go_wp2_with fail
        go_ret
        exact ⟨by rw [HE.out]; rfl, rfl⟩
      · have t0 : (x.toList == starT.toList) = false := text_beq_no he
        rw [starT_list] at t0
        have HN2 : Hid (starT ∉ xs.take (j + 1)) := by
          show _ ∉ _
          rw [take_textAt xs j hjx, List.mem_append, ← hxx]
          rintro (h | h)
          · exact HN.out h
          · exact he (List.mem_singleton.1 h).symm
        clear he hxx hjx HN
        go_wp2_with fail
        go_roundw
        case rel => exact ⟨j + 1, by omega, by go_num, trivial, HN2⟩
        case measure => simp [intOf]; omega
    · have HE : Hid (decide (starT ∈ xs) = false) := by
        have h := HN.out
        rw [List.take_of_length_le (by rw [HX.out.1]; omega)] at h
        exact decide_eq_false h
      clear HN
      go_wp2_with fail
      go_ret
      exact ⟨by rw [HE.out]; rfl, rfl⟩

open Classical in
set_option maxHeartbeats 1000000 in
theorem l8Texts_any (oa ob : Option Addr) (m cm n cn : Nat) (xs ys : List ByteArray) (w : World) (hx : TextsA w oa m xs) (hy : TextsA w ob n ys) (hm : m ≤ 2000000) :
    Calls Try.prog 35 #[.slice oa m cm, .slice ob n cn] w fun e w' => e = .returned (.bool (decide (xs = ys))) ∧ Below w.heap.size w w' := by
  have HX : Hid (∀ W, Below w.heap.size w W → TextsA W oa m xs) := fun W h => hx.below h
  have HY : Hid (∀ W, Below w.heap.size w W → TextsA W ob n ys) := fun W h => hy.below h
  have HLX : Hid (xs.length = m) := hx.1
  have HLY : Hid (ys.length = n) := hy.1
  clear hx hy
  go_enter Try.func35, Try.ntmps35
  go_wp2_with fail
  go_loopw [5] (fun i wr => ∃ j : Nat, j ≤ m ∧ j ≤ n ∧ i = .int .i64 (j : Int) ∧ Below w.heap.size w wr ∧ Hid (xs.take j = ys.take j)) (fun i _ => m - (intOf i).toNat)
  case atStart => exact ⟨0, Nat.zero_le _, Nat.zero_le _, rfl, Below.refl _ _, by show _ = _; simp⟩
  case round =>
    obtain ⟨j, hj, hj2, rfl, hbw, HN⟩ := hrel
    by_cases hlt : (j : Int) < (m : Int)
    · by_cases hlt2 : (j : Int) < (n : Int)
      · have hjx : j < xs.length := by rw [HLX.out]; omega
        have hjy : j < ys.length := by rw [HLY.out]; omega
        obtain ⟨g, rfl, hg, hc⟩ := (HX.out wr hbw).2 j (by omega)
        obtain ⟨g2, rfl, hg2, hc2⟩ := (HY.out wr hbw).2 j (by omega)
        obtain ⟨x, hxx⟩ : ∃ x, x = textAt xs j := ⟨_, rfl⟩
        obtain ⟨y, hyy⟩ : ∃ y, y = textAt ys j := ⟨_, rfl⟩
        rw [← hxx] at hc
        rw [← hyy] at hc2
        by_cases he : x = y
        · have HN2 : Hid (xs.take (j + 1) = ys.take (j + 1)) := by
            show _ = _
            rw [take_textAt xs j hjx, take_textAt ys j hjy, ← hxx, ← hyy, HN.out, he]
          subst he
          clear hxx hyy hjx hjy HN
          go_wp2_with fail
          go_quiet (fail)
          go_wp2
          go_roundw
          case rel => exact ⟨j + 1, by omega, by omega, by go_num, below_drewN hbw _, HN2⟩
          case measure => simp [intOf]; omega
        · have t0 : (x.toList == y.toList) = false := text_beq_no he
          have t1 : (x.toList != y.toList) = true := by rw [bne, t0]; rfl
          have HE : Hid (decide (xs = ys) = false) := decide_eq_false (fun h => he (by rw [hxx, hyy, h]))
          clear he hxx hyy hjx hjy HN
          go_wp2_with fail
          go_quiet (fail)
          go_wp2
          go_ret
          exact ⟨by rw [HE.out]; rfl, below_drewN hbw _⟩
      · have HE : Hid (decide (xs = ys) = decide ((m : Int) = (n : Int))) := by
          show _ = _
          rw [decide_eq_decide]
          constructor
          · intro h; have h1 := HLX.out; have h2 := HLY.out; rw [h] at h1; omega
          · intro h; omega
        clear HN
        go_wp2_with fail
        go_ret
        exact ⟨by rw [HE.out]; rfl, hbw⟩
    · have HE : Hid (decide (xs = ys) = decide ((m : Int) = (n : Int))) := by
        show _ = _
        rw [decide_eq_decide]
        constructor
        · intro h; have h1 := HLX.out; have h2 := HLY.out; rw [h] at h1; omega
        · intro h
          have h1 := HN.out
          rw [List.take_of_length_le (by rw [HLX.out]; omega), List.take_of_length_le (by rw [HLY.out]; omega)] at h1
          exact h1
      clear HN
      go_wp2_with fail
      go_ret
      exact ⟨by rw [HE.out]; rfl, hbw⟩

set_option maxHeartbeats 1000000 in
theorem specSuits_any (oa ob : Option Addr) (m cm k ck : Nat) (xs ys : List ByteArray) (v : Value) (n base : Nat) (fs : List (ByteArray × ByteArray)) (w : World) (hx : TextsA w oa m xs) (hm : m ≤ 1048577) (hy : TextsA w ob k ys) (hv : FieldsV w base v n fs) (hn : n ≤ 1073741824) :
    Calls Try.prog 10 #[.slice oa m cm, .slice ob k ck, v] w fun e w' => e = .returned (.bool (suitsP xs ys fs)) ∧ Below w.heap.size w w' := by
  classical
  have HY : Hid (∀ W, Below w.heap.size w W → TextsA W ob k ys) := fun W h => hy.below h
  have HLX : Hid (xs.length = m) := hx.1
  obtain ⟨b, hb⟩ : ∃ b, b = suitsP xs ys fs := ⟨_, rfl⟩
  rw [← hb]
  obtain ⟨zs, hzs⟩ : ∃ zs, zs = valsP xs fs := ⟨_, rfl⟩
  have HZ : Hid (valsP xs fs = zs) := hzs.symm
  have HB : Hid (b = (!decide (starT ∈ xs) && decide (zs = ys))) := by
    show _ = _
    rw [hb, hzs]
    unfold suitsP
    by_cases h1 : starT ∈ xs <;> by_cases h2 : valsP xs fs = ys <;> simp [h1, h2]
  have hzl : zs.length = m := by rw [hzs, valsP_len]; exact HLX.out
  obtain ⟨st, hst⟩ : ∃ st, st = decide (starT ∈ xs) := ⟨_, rfl⟩
  have HST : Hid (decide (starT ∈ xs) = st) := hst.symm
  rw [← hst] at HB
  clear hb hzs hst hy
  go_enter Try.func10, Try.ntmps10
  go_wp2_with fail
  refine (l8Star_any oa m cm xs _ hx (by omega)).mono ?_
  rintro e w1 ⟨rfl, rfl⟩
  rw [HST.out]
  cases st with
  | true =>
    have HE : Hid (b = false) := by show _ = _; rw [HB.out]; rfl
    go_wp2_with fail
    go_ret
    exact ⟨by rw [HE.out]; rfl, Below.refl _ _⟩
  | false =>
    have HE : Hid (b = decide (zs = ys)) := by show _ = _; rw [HB.out]; rfl
    go_wp2_with fail
    refine (specValuesOf_any oa m cm xs v n base fs _ hx hm hv hn).mono ?_
    rintro e w2 ⟨V, rfl, O, b2⟩
    rw [HZ.out, hzl] at O
    obtain ⟨oz, cz, rfl, hz⟩ := texts_own O
    have HB2 : Hid (Below w1.heap.size w1 w2) := b2
    have HZ2 : Hid (TextsA w2 oz m zs) := hz
    have HY2 : Hid (TextsA w2 ob k ys) := HY.out _ b2
    clear O b2 hz hx hv
    go_wp2_with fail
    refine (l8Texts_any oz ob m cz k ck zs ys _ HZ2.out HY2.out (by omega)).mono ?_
    rintro e w3 ⟨rfl, b3⟩
    rw [← HE.out]
    have HB3 : Hid (Below w1.heap.size w1 w3) := HB2.out.trans (b3.mono HB2.out.size)
    clear b3
    go_wp2_with fail
    go_ret
    exact ⟨rfl, HB3.out⟩

end Go.Proofs.Ytfgapdididdcaaa
