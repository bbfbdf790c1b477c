/- Lengths in plain words: digits are a length's own just where writing their number gives them back. No program. -/
import Derived.Test.YtkpnacopljceaaaDoorChunkRd
namespace Go.Proofs.YtkpnacopljceaaaDoor
open Go.RowKit

theorem hxB_hexV {c : UInt8} (h : HexB c) : hxB (hexV c) = c := by
  apply UInt8.toNat_inj.1
  unfold hxB
  rw [UInt8.toNat_ofNat']
  rcases h with h | h
  · have e : hexV c = c.toNat - 48 := by unfold hexV; rw [if_pos (by omega)]
    rw [e, if_pos (by omega)]; omega
  · have e : hexV c = c.toNat - 87 := by unfold hexV; rw [if_neg (by omega)]
    rw [e, if_neg (by omega)]; omega
theorem list_end {α : Type} (l : List α) (h : l ≠ []) : ∃ q c, l = q ++ [c] := ⟨l.dropLast, l.getLast h, (List.dropLast_concat_getLast h).symm⟩
/-- Digits without a nought ahead: the number is not 0, and it is written so. -/
theorem hxF_back : ∀ (f : Nat) (l : List UInt8), l.length ≤ f → l ≠ [] → (∀ b ∈ l, HexB b) → l.head? ≠ some 48 → hexVal l ≠ 0 ∧ hxF f (hexVal l) = l := by
  intro f
  induction f with
  | zero => intro l hl hne _ _; exact absurd (List.length_eq_zero_iff.1 (Nat.le_zero.1 hl)) hne
  | succ f ih =>
    intro l hl hne hh h0
    obtain ⟨q, c, rfl⟩ := list_end l hne
    have hc : HexB c := hh c (by simp)
    have hv := hexV_lt hc
    by_cases hq : q = []
    · subst hq
      have hc0 : hexV c ≠ 0 := by
        intro e
        have := hxB_hexV hc
        rw [e] at this
        apply h0
        rw [← this]
        rfl
      have e1 : hexVal ([] ++ [c]) = hexV c := by simp [hexVal]
      rw [e1]
      refine ⟨hc0, ?_⟩
      rw [hxF_pos f _ hc0, show hexV c / 16 = 0 by omega, hxF_zero, show hexV c % 16 = hexV c by omega, hxB_hexV hc]
    · obtain ⟨h1, h2⟩ := ih q (by simp at hl; omega) hq (fun b hb => hh b (by simp [hb])) (by
        intro e
        apply h0
        cases q with
        | nil => exact absurd rfl hq
        | cons x r => simpa using e)
      rw [hexVal_snoc]
      have hne2 : 16 * hexVal q + hexV c ≠ 0 := by omega
      refine ⟨hne2, ?_⟩
      rw [hxF_pos f _ hne2, show (16 * hexVal q + hexV c) / 16 = hexVal q by omega, show (16 * hexVal q + hexV c) % 16 = hexV c by omega, h2, hxB_hexV hc]
theorem hexVal_lt : ∀ (m : Nat) (l : List UInt8), l.length ≤ m → (∀ b ∈ l, HexB b) → hexVal l < 16 ^ m := by
  intro m
  induction m with
  | zero => intro l h _; obtain rfl : l = [] := List.length_eq_zero_iff.1 (by omega); simp [hexVal]
  | succ m ih =>
    intro l hl hh
    by_cases hq : l = []
    · subst hq; exact Nat.pow_pos (by omega)
    · obtain ⟨q, c, rfl⟩ := list_end l hq
      have h1 := ih q (by simp at hl; omega) (fun b hb => hh b (by simp [hb]))
      have h2 := hexV_lt (hh c (by simp))
      rw [hexVal_snoc, Nat.pow_succ]
      omega
/-- A length's digits, of at most four. -/
theorem hexL_back (l : List UInt8) (hl : l.length ≤ 4) (hh : ∀ b ∈ l, HexB b) : hexL (hexVal l) = l ↔ l ≠ [] ∧ ¬ (1 < l.length ∧ l.head? = some 48) := by
  have hlt := hexVal_lt 4 l hl hh
  obtain ⟨g1, g2, g3, g4, g5⟩ := hex_head (hexVal l) (by omega)
  constructor
  · intro e
    rw [e] at g1 g5
    refine ⟨fun h => by rw [h] at g1; simp at g1, fun h => g5 h.1 48 h.2 rfl⟩
  · rintro ⟨h1, h2⟩
    by_cases h0 : l.head? = some 48
    · have : l.length = 1 := by
        have : ¬ 1 < l.length := fun h => h2 ⟨h, h0⟩
        cases l with
        | nil => exact absurd rfl h1
        | cons x r => simp at this ⊢; exact this
      match l, this with
      | [c], _ =>
        simp at h0
        subst h0
        decide
    · obtain ⟨k1, k2⟩ := hxF_back 5 l (by omega) h1 hh h0
      unfold hexL
      rw [if_neg (by omega), if_neg k1, k2]
theorem digN_four (r : List UInt8) : (digN 5 r ≤ 4 ∧ digN 4 r = digN 5 r) ∨ (digN 5 r = 5 ∧ digN 4 r = 4 ∧ ∃ c t, r.drop 4 = c :: t ∧ HexB c) := by
  have key : ∀ (f : Nat) (r : List UInt8), (digN (f + 1) r ≤ f ∧ digN f r = digN (f + 1) r) ∨ (digN (f + 1) r = f + 1 ∧ digN f r = f ∧ ∃ c t, r.drop f = c :: t ∧ HexB c) := by
    intro f
    induction f with
    | zero =>
      intro r
      cases r with
      | nil => left; simp [digN]
      | cons c t =>
        by_cases h : HexB c
        · right; exact ⟨by simp [digN, h], by simp [digN], c, t, rfl, h⟩
        · left; simp [digN, h]
    | succ f ih =>
      intro r
      cases r with
      | nil => left; simp [digN]
      | cons c t =>
        by_cases h : HexB c
        · rcases ih t with ⟨h1, h2⟩ | ⟨h1, h2, c', t', h3, h4⟩
          · left
            rw [digN, if_pos h, digN, if_pos h]
            omega
          · right
            rw [digN, if_pos h, digN, if_pos h]
            exact ⟨by omega, by omega, c', t', by simpa using h3, h4⟩
        · left
          rw [digN, if_neg h, digN, if_neg h]
          omega
  exact key 4 r
/-- What a reader of at most four digits tells of a length and its line's end. -/
theorem lenC_four (r : List UInt8) (h : r ≠ []) :
    (hexL (hexVal (r.take (digN 4 r))) ≠ r.take (digN 4 r) → lenC r = 2) ∧
    (hexL (hexVal (r.take (digN 4 r))) = r.take (digN 4 r) → lenC r = lineC (r.drop (digN 4 r)) ∧ (lenC r = 0 → lenN r = hexVal (r.take (digN 4 r)) ∧ lenK r = digN 4 r)) := by
  have hl := digN_le 4 r
  have hh := digN_hex 4 r
  have hlen : (r.take (digN 4 r)).length = digN 4 r := by rw [List.length_take]; omega
  have hb := hexL_back (r.take (digN 4 r)) (by omega) hh
  have hhead : ∀ k, 0 < k → (r.take k).head? = r.head? := by
    intro k hk
    rw [List.head?_take, if_neg (by omega)]
  rcases digN_four r with ⟨h1, h2⟩ | ⟨h1, h2, c, t, h3, h4⟩
  · have hK : lenK r = digN 4 r := by unfold lenK; omega
    constructor
    · intro hne
      have hnot : ¬ (r.take (digN 4 r) ≠ [] ∧ ¬ (1 < (r.take (digN 4 r)).length ∧ (r.take (digN 4 r)).head? = some 48)) := fun e => hne (hb.2 e)
      unfold lenC
      rw [if_pos]
      unfold lenBad
      rw [hK]
      by_cases h0 : digN 4 r = 0
      · exact .inr (.inr ⟨h0, h⟩)
      · by_cases h9 : 1 < (r.take (digN 4 r)).length ∧ (r.take (digN 4 r)).head? = some 48
        · refine .inr (.inl ⟨by omega, ?_⟩)
          rw [← hhead (digN 4 r) (by omega)]
          exact h9.2
        · exfalso
          apply hnot
          refine ⟨fun e => ?_, h9⟩
          rw [e] at hlen
          simp at hlen
          omega
    · intro he
      obtain ⟨k1, k2⟩ := hb.1 he
      have h0 : digN 4 r ≠ 0 := by
        intro e
        rw [e] at k1
        simp at k1
      refine ⟨?_, fun _ => ⟨by unfold lenN; rw [hK], hK⟩⟩
      unfold lenC
      rw [if_neg, hK, if_neg h0]
      unfold lenBad
      rw [hK]
      rintro (e | ⟨e1, e2⟩ | ⟨e1, _⟩)
      · omega
      · exact k2 ⟨by omega, by rw [hhead _ (by omega)]; exact e2⟩
      · exact h0 e1
  · have hC : lenC r = 2 := by
      unfold lenC
      rw [if_pos]
      exact .inl (by unfold lenK; omega)
    refine ⟨fun _ => hC, fun _ => ⟨?_, fun e => by rw [hC] at e; simp at e⟩⟩
    rw [hC, h2, h3]
    have hc : c ≠ 13 := by intro e; subst e; revert h4; decide
    cases t with
    | nil => simp [lineC, hc]
    | cons d t => simp [lineC, hc]

end Go.Proofs.YtkpnacopljceaaaDoor
