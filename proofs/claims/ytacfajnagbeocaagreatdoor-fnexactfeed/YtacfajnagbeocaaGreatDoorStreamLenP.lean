/- A head's length told line by line, and a head found by strings.Index: the same as byte by byte. No program. -/
import Derived.Test.YtacfajnagbeocaaGreatDoorStreamHead
import Derived.Test.YtacfajnagbeocaaGreatDoorMsgCut
namespace Go.Proofs.YtacfajnagbeocaaGreatDoor
open Go.RowKit

theorem index_nil (sub : List UInt8) (h : sub ≠ []) : Lib.index [] sub = -1 := by
  cases sub with
  | nil => exact absurd rfl h
  | cons c t => rfl
theorem index_cons (c : UInt8) (l sub : List UInt8) : Lib.index (c :: l) sub = if sub.isPrefixOf (c :: l) then 0 else if Lib.index l sub == -1 then -1 else Lib.index l sub + 1 := rfl
theorem prefix_iff (p l : List UInt8) : p.isPrefixOf l = true ↔ l.take p.length = p := by
  rw [List.isPrefixOf_iff_prefix]
  constructor
  · rintro ⟨t, rfl⟩
    simp
  · intro h
    exact ⟨l.drop p.length, by have h2 := List.take_append_drop p.length l; rw [h] at h2; exact h2⟩

/-- Where the first line's end is. -/
theorem line_split : ∀ (l : List UInt8), (Lib.index l [13, 10] = -1 ∧ ∀ x y, l ≠ x ++ 13 :: 10 :: y) ∨ (∃ a b, Lib.index l [13, 10] = (a.length : Int) ∧ l = a ++ 13 :: 10 :: b ∧ ∀ x y, a ++ [13] ≠ x ++ 13 :: 10 :: y) := by
  intro l
  induction l with
  | nil => exact .inl ⟨rfl, fun x y h => by simp at h⟩
  | cons c t ih =>
    rw [index_cons]
    by_cases hp : ([13, 10] : List UInt8).isPrefixOf (c :: t) = true
    · rw [if_pos hp]
      rw [prefix_iff] at hp
      obtain ⟨rfl, hp⟩ : c = 13 ∧ t.take 1 = [10] := by simpa using hp
      obtain ⟨d, r, rfl⟩ : ∃ d r, t = d :: r := by
        cases t with
        | nil => simp at hp
        | cons d r => exact ⟨d, r, rfl⟩
      obtain rfl : d = 10 := by simpa using hp
      refine .inr ⟨[], r, rfl, rfl, fun x y h => ?_⟩
      have := congrArg List.length h
      simp at this
      omega
    · rw [if_neg hp]
      rw [prefix_iff] at hp
      rcases ih with ⟨h1, h2⟩ | ⟨a, b, h1, h2, h3⟩
      · refine .inl ⟨by rw [h1]; rfl, fun x y h => ?_⟩
        cases x with
        | nil => exact hp (by rw [h]; rfl)
        | cons d x => exact h2 x y (by simpa using (List.cons.inj h).2)
      · refine .inr ⟨c :: a, b, ?_, by rw [h2]; rfl, fun x y h => ?_⟩
        · have hne : ¬ (Lib.index t [13, 10] == -1) = true := by rw [h1, beq_iff_eq]; omega
          rw [if_neg hne, h1]
          simp
        · cases x with
          | nil =>
            have h5 : c = 13 ∧ a ++ [13] = 10 :: y := List.cons.inj h
            cases a with
            | nil => exact absurd (List.cons.inj h5.2).1 (by decide)
            | cons d a =>
              have h6 : d = 10 := (List.cons.inj h5.2).1
              exact hp (by rw [h2, h5.1, h6]; rfl)
          | cons d x => exact h3 x y (List.cons.inj h).2

theorem lenS_line {first : Bool} {b : List UInt8} : ∀ (a cur : List UInt8), (∀ x y, cur ++ a ++ [13] ≠ x ++ 13 :: 10 :: y) →
    lenS first cur (a ++ 13 :: 10 :: b) = (if first = true then lenS false [] b else match clenOf (cur ++ a) with | some n => n | none => lenS false [] b) := by
  intro a
  induction a with
  | nil =>
    intro cur _
    show lenS first cur (13 :: 10 :: b) = _
    rw [lenS_on (by rintro ⟨h, _⟩; exact absurd h (by decide)), lenS_end (by simp), List.dropLast_concat, List.append_nil]
    rfl
  | cons c a ih =>
    intro cur h
    show lenS first cur (c :: (a ++ 13 :: 10 :: b)) = _
    rw [lenS_on, ih (cur ++ [c]) (by intro x y e; exact h x y (by simpa using e))]
    · simp
    · rintro ⟨rfl, hl⟩
      obtain ⟨k, rfl⟩ := List.getLast?_eq_some_iff.1 hl
      exact h k (a ++ [13]) (by simp)

/-- A text of whole lines. -/
def Whole (l : List UInt8) : Prop := l = [] ∨ ∃ x, l = x ++ [13, 10]
theorem whole_rest {a b : List UInt8} (h : Whole (a ++ 13 :: 10 :: b)) : Whole b := by
  rcases h with h | ⟨x, h⟩
  · simp at h
  · rcases list_snoc b with rfl | ⟨r, c, rfl⟩
    · exact .inl rfl
    · rcases list_snoc r with rfl | ⟨q, d, rfl⟩
      · have h' := congrArg List.reverse h
        simp at h'
      · have h' := congrArg List.reverse h
        simp at h'
        exact .inr ⟨q, by rw [h'.1, h'.2.1]; simp⟩
theorem whole_cut {l : List UInt8} (h : Whole l) (hne : l ≠ []) : ∃ a b, Lib.index l [13, 10] = (a.length : Int) ∧ l = a ++ 13 :: 10 :: b ∧ (∀ x y, a ++ [13] ≠ x ++ 13 :: 10 :: y) ∧ Whole b := by
  rcases line_split l with ⟨_, h2⟩ | ⟨a, b, h1, h2, h3⟩
  · rcases h with rfl | ⟨x, rfl⟩
    · exact absurd rfl hne
    · exact absurd rfl (h2 x [])
  · exact ⟨a, b, h1, h2, h3, whole_rest (by rw [← h2]; exact h)⟩
/-- One line more is read. -/
theorem whole_step {u sep : ByteArray} (hsep : bs sep = [13, 10]) (h : Whole (bs u)) (hne : bs u ≠ []) :
    Whole (bs (cutB u sep)) ∧ (cutB u sep).size < u.size ∧ (∀ first, lenS first [] (bs u) = (if first = true then lenS false [] (bs (cutB u sep)) else match clenOf (bs (cutA u sep)) with | some n => n | none => lenS false [] (bs (cutB u sep)))) := by
  obtain ⟨a, b, h1, h2, h3, h4⟩ := whole_cut h hne
  have hc : Lib.cut (bs u) (bs sep) = (a, b, true) := by
    unfold Lib.cut
    rw [hsep, h1, if_pos (by omega)]
    refine Prod.ext ?_ (Prod.ext ?_ rfl)
    · show (bs u).take _ = a
      rw [h2]; simp
    · show (bs u).drop _ = b
      rw [h2]; simp
  have hA : bs (cutA u sep) = a := by rw [bs_cutA, hc]
  have hB : bs (cutB u sep) = b := by rw [bs_cutB, hc]
  refine ⟨by rw [hB]; exact h4, ?_, fun first => ?_⟩
  · have e1 := congrArg List.length h2
    have e2 := congrArg List.length hB
    rw [bs_len] at e1 e2
    simp at e1
    omega
  · rw [hA, hB, h2]
    exact lenS_line a [] h3

/-- What a line tells, by its prefix. -/
theorem clenOf_pre {line p : ByteArray} (hp : bs p = clenM) : (hasP line p = true → (NumOk (trimP line p) → clenOf (bs line) = some (valL (bs (trimP line p)))) ∧ (¬ NumOk (trimP line p) → clenOf (bs line) = none)) ∧ (hasP line p = false → clenOf (bs line) = none) := by
  have hpre : hasP line p = true ↔ (bs line).take 16 = clenM := by
    show (bs p).isPrefixOf (bs line) = true ↔ _
    rw [prefix_iff, hp]
    rfl
  have hdrop : hasP line p = true → bs (trimP line p) = (bs line).drop 16 := fun h => by
    rw [bs_trimP]
    unfold Lib.trimPrefix
    rw [if_pos (show Lib.hasPrefix (bs line) (bs p) = true from h), hp]
    rfl
  refine ⟨fun h => ?_, fun h => ?_⟩
  · have e : (⟨((bs line).drop 16).toArray⟩ : ByteArray) = trimP line p := by
      rw [← hdrop h]
      apply ByteArray.ext
      simp [bs]
    exact ⟨fun hn => by rw [clenOf_yes (hpre.1 h) (by rw [e]; exact hn), hdrop h], fun hn => clenOf_no (by rintro ⟨_, x⟩; rw [e] at x; exact hn x)⟩
  · exact clenOf_no (by rintro ⟨x, _⟩; rw [hpre.2 x] at h; cases h)

/-- A head is found by strings.Index. -/
theorem headN_index : ∀ (l : List UInt8), (headN l = none ∧ Lib.index l [13, 10, 13, 10] = -1) ∨ (∃ k : Nat, headN l = some (k + 4) ∧ Lib.index l [13, 10, 13, 10] = (k : Int) ∧ k + 4 ≤ l.length ∧ Whole (l.take (k + 4))) := by
  intro l
  induction l with
  | nil => exact .inl ⟨rfl, rfl⟩
  | cons c t ih =>
    rw [index_cons]
    unfold headN
    by_cases hp : (c :: t).take 4 = [13, 10, 13, 10]
    · rw [if_pos hp, if_pos ((prefix_iff [13, 10, 13, 10] (c :: t)).2 hp)]
      refine .inr ⟨0, rfl, rfl, ?_, .inr ⟨[13, 10], by simpa using hp⟩⟩
      have := congrArg List.length hp
      simp at this
      simp
      omega
    · rw [if_neg hp, if_neg (fun h => hp ((prefix_iff [13, 10, 13, 10] (c :: t)).1 h))]
      rcases ih with ⟨h1, h2⟩ | ⟨k, h1, h2, h3, h4⟩
      · exact .inl ⟨by rw [h1]; rfl, by rw [h2]; rfl⟩
      · refine .inr ⟨k + 1, by rw [h1]; rfl, ?_, by rw [List.length_cons]; omega, ?_⟩
        · have hne : ¬ (Lib.index t [13, 10, 13, 10] == -1) = true := by rw [h2, beq_iff_eq]; omega
          rw [if_neg hne, h2]
          simp
        · rcases h4 with h4 | ⟨x, h4⟩
          · have := congrArg List.length h4
            rw [List.length_take, List.length_nil] at this
            omega
          · exact .inr ⟨c :: x, by rw [show k + 1 + 4 = (k + 4) + 1 by omega, List.take_succ_cons, h4]; rfl⟩

end Go.Proofs.YtacfajnagbeocaaGreatDoor
