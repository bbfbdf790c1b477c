/- Chapter 4 in plain words: numbers in sixteens, a body in parts, and how parts are read. No program. -/
import Derived.Test.YtfgapdididdcaaaMsgPlain
namespace Go.Proofs.Ytfgapdididdcaaa
open Go.RowKit

def hxB (d : Nat) : UInt8 := UInt8.ofNat (if d < 10 then 48 + d else 87 + d)
def hxF : Nat → Nat → List UInt8
  | 0, _ => []
  | f + 1, n => if n = 0 then [] else hxF f (n / 16) ++ [hxB (n % 16)]
theorem hxF_zero (f : Nat) : hxF f 0 = [] := by cases f <;> simp [hxF]
theorem hxF_pos (f n : Nat) (h : n ≠ 0) : hxF (f + 1) n = hxF f (n / 16) ++ [hxB (n % 16)] := by simp [hxF, h]
def hexL (n : Nat) : List UInt8 := if 1000000 < n then [] else if n = 0 then [48] else hxF 5 n
def hexT (n : Nat) : ByteArray := ⟨(hexL n).toArray⟩
/-- A number in sixteens; nothing of one that is below 0 or beyond the limit. -/
def hexTI (n : Int) : ByteArray := if n < 0 then ⟨#[]⟩ else hexT n.toNat

abbrev HexB (b : UInt8) : Prop := (48 ≤ b.toNat ∧ b.toNat ≤ 57) ∨ (97 ≤ b.toNat ∧ b.toNat ≤ 102)
def hexV (b : UInt8) : Nat := if b.toNat ≤ 57 then b.toNat - 48 else b.toNat - 87
theorem hexV_lt {b : UInt8} (h : HexB b) : hexV b < 16 := by unfold HexB at h; unfold hexV; split <;> omega
theorem hxB_facts (d : Nat) (h : d < 16) : HexB (hxB d) ∧ hexV (hxB d) = d ∧ (d ≠ 0 → hxB d ≠ 48) := by
  have : ∀ d : Fin 16, HexB (hxB d.1) ∧ hexV (hxB d.1) = d.1 ∧ (d.1 ≠ 0 → hxB d.1 ≠ 48) := by decide
  exact this ⟨d, h⟩
def hexVal (l : List UInt8) : Nat := l.foldl (fun v b => 16 * v + hexV b) 0
theorem hexVal_snoc (l : List UInt8) (b : UInt8) : hexVal (l ++ [b]) = 16 * hexVal l + hexV b := by simp [hexVal]
theorem hx_facts : ∀ (f n : Nat), n < 16 ^ f → (∀ b ∈ hxF f n, HexB b) ∧ hexVal (hxF f n) = n ∧ (∀ b, (hxF f n).head? = some b → b ≠ 48) ∧ (n ≠ 0 → hxF f n ≠ []) := by
  intro f
  induction f with
  | zero => intro n h; simp at h; subst h; simp [hxF, hexVal]
  | succ f ih =>
    intro n h
    by_cases h0 : n = 0
    · subst h0; rw [hxF_zero]; simp [hexVal]
    · rw [Nat.pow_succ] at h
      obtain ⟨h1, h2, h3, h4⟩ := ih (n / 16) (by omega)
      have hd := hxB_facts (n % 16) (by omega)
      rw [hxF_pos f n h0]
      refine ⟨fun b hb => ?_, ?_, fun b hb => ?_, fun _ => by simp⟩
      · simp only [List.mem_append, List.mem_singleton] at hb
        rcases hb with hb | rfl
        · exact h1 b hb
        · exact hd.1
      · rw [hexVal_snoc, h2, hd.2.1]; omega
      · by_cases hz : n / 16 = 0
        · rw [hz, hxF_zero] at hb
          simp at hb
          subst hb
          exact hd.2.2 (by omega)
        · have hne := h4 hz
          obtain ⟨c, r, hc⟩ : ∃ c r, hxF f (n / 16) = c :: r := by
            cases hx : hxF f (n / 16) with
            | nil => exact absurd hx hne
            | cons c r => exact ⟨c, r, rfl⟩
          rw [hc] at hb h3
          simp at hb h3
          rw [← hb]; exact h3
theorem hx_len : ∀ (f n k : Nat), n < 16 ^ k → (hxF f n).length ≤ k := by
  intro f
  induction f with
  | zero => intro n k _; simp [hxF]
  | succ f ih =>
    intro n k h
    by_cases h0 : n = 0
    · subst h0; rw [hxF_zero]; simp
    · cases k with
      | zero => simp at h; omega
      | succ k =>
        rw [Nat.pow_succ] at h
        have := ih (n / 16) k (by omega)
        rw [hxF_pos f n h0]
        simp; omega
/-- A length that may begin a part: one to four digits, no needless nought. -/
theorem hex_head (n : Nat) (h : n < 65536) : 1 ≤ (hexL n).length ∧ (hexL n).length ≤ 4 ∧ (∀ b ∈ hexL n, HexB b) ∧ hexVal (hexL n) = n ∧ (1 < (hexL n).length → ∀ b, (hexL n).head? = some b → b ≠ 48) := by
  unfold hexL
  rw [if_neg (by omega)]
  by_cases h0 : n = 0
  · rw [if_pos h0, h0]
    refine ⟨by simp, by simp, ?_, rfl, by simp⟩
    intro b hb
    simp at hb
    subst hb
    decide
  · rw [if_neg h0]
    obtain ⟨h1, h2, h3, h4⟩ := hx_facts 5 n (by omega)
    have hl := hx_len 5 n 4 (by omega)
    refine ⟨?_, hl, h1, h2, fun _ => h3⟩
    cases hx : hxF 5 n with
    | nil => exact absurd hx (h4 h0)
    | cons c r => simp

/-- A line's end held against what stands there: 0 it is one, 1 it may become one, 2 it is none. -/
def lineC : List UInt8 → Int
  | [] => 1
  | [c] => if c = 13 then 1 else 2
  | c :: d :: _ => if c = 13 ∧ d = 10 then 0 else 2
def digN : Nat → List UInt8 → Nat
  | 0, _ => 0
  | _ + 1, [] => 0
  | f + 1, c :: r => if HexB c then digN f r + 1 else 0
theorem digN_le : ∀ (f : Nat) (r : List UInt8), digN f r ≤ f ∧ digN f r ≤ r.length
  | 0, _ => by simp [digN]
  | _ + 1, [] => by simp [digN]
  | f + 1, c :: r => by
    have := digN_le f r
    unfold digN
    split
    · simp; omega
    · simp
theorem digN_hex : ∀ (f : Nat) (r : List UInt8), ∀ b ∈ r.take (digN f r), HexB b
  | 0, _ => by simp [digN]
  | _ + 1, [] => by simp [digN]
  | f + 1, c :: r => by
    have := digN_hex f r
    unfold digN
    split
    · rename_i h
      intro b hb
      simp only [List.take_succ_cons, List.mem_cons] at hb
      rcases hb with rfl | hb
      · exact h
      · exact this b hb
    · simp
theorem digN_pre : ∀ (l rest : List UInt8) (f : Nat), l.length ≤ f → (∀ b ∈ l, HexB b) → (l.length = f ∨ ∀ c r, rest = c :: r → ¬ HexB c) → digN f (l ++ rest) = l.length
  | [], rest, f, _, _, h => by
    rcases h with h | h
    · simp at h; subst h; simp [digN]
    · cases f with
      | zero => simp [digN]
      | succ f =>
        cases rest with
        | nil => simp [digN]
        | cons c r => simp [digN, h c r rfl]
  | b :: l, rest, f, hf, hh, h => by
    cases f with
    | zero => simp at hf
    | succ f =>
      have ih := digN_pre l rest f (by simpa using hf) (fun x hx => hh x (by simp [hx])) (by
        rcases h with h | h
        · left; simpa using h
        · right; exact h)
      simp [digN, hh b (by simp), ih]
def lenK (r : List UInt8) : Nat := digN 5 r
abbrev lenBad (r : List UInt8) : Prop := 4 < lenK r ∨ (1 < lenK r ∧ r.head? = some 48) ∨ (lenK r = 0 ∧ r ≠ [])
/-- What is told of a length and its line's end. -/
def lenC (r : List UInt8) : Int := if lenBad r then 2 else if lenK r = 0 then 1 else lineC (r.drop (lenK r))
def lenN (r : List UInt8) : Nat := hexVal (r.take (lenK r))
theorem lineC_zero {r : List UInt8} (h : lineC r = 0) : ∃ t, r = 13 :: 10 :: t := by
  match r with
  | [] => simp [lineC] at h
  | [c] => simp only [lineC] at h; split at h <;> simp at h
  | c :: d :: t =>
    simp only [lineC] at h
    split at h
    · rename_i e; exact ⟨t, by rw [e.1, e.2]⟩
    · simp at h
theorem lineC_vals (r : List UInt8) : lineC r = 0 ∨ lineC r = 1 ∨ lineC r = 2 := by
  match r with
  | [] => simp [lineC]
  | [c] => simp only [lineC]; split <;> simp
  | c :: d :: t => simp only [lineC]; split <;> simp
theorem lineC_mono {r t : List UInt8} (h : lineC r ≠ 1) : lineC (r ++ t) = lineC r := by
  match r with
  | [] => simp [lineC] at h
  | [c] =>
    by_cases e : c = 13
    · simp [lineC, e] at h
    · cases t with
      | nil => simp
      | cons d t => simp [lineC, e]
  | c :: d :: u => simp [lineC]
theorem lenC_zero {r : List UInt8} (h : lenC r = 0) : 1 ≤ lenK r ∧ lenK r ≤ 4 ∧ ¬ lenBad r ∧ ∃ t, r.drop (lenK r) = 13 :: 10 :: t := by
  unfold lenC at h
  by_cases hb : lenBad r
  · rw [if_pos hb] at h; simp at h
  · rw [if_neg hb] at h
    by_cases h0 : lenK r = 0
    · rw [if_pos h0] at h; simp at h
    · rw [if_neg h0] at h
      refine ⟨by omega, ?_, hb, lineC_zero h⟩
      unfold lenBad at hb
      omega
theorem lenC_vals (r : List UInt8) : lenC r = 0 ∨ lenC r = 1 ∨ lenC r = 2 := by
  unfold lenC
  split
  · simp
  · split
    · simp
    · exact lineC_vals _
/-- A length, and a line's end behind it. -/
theorem len_head (n : Nat) (h : n < 65536) (rest : List UInt8) (hr : ∀ c r, rest = c :: r → c = 13) : lenK (hexL n ++ rest) = (hexL n).length ∧ lenN (hexL n ++ rest) = n ∧ lenC (hexL n ++ rest) = lineC rest := by
  obtain ⟨h1, h2, h3, h4, h5⟩ := hex_head n h
  have hk : lenK (hexL n ++ rest) = (hexL n).length := digN_pre _ _ 5 (by omega) h3 (.inr (fun c r e => by rw [hr c r e]; decide))
  refine ⟨hk, ?_, ?_⟩
  · unfold lenN; rw [hk, List.take_left]; exact h4
  · unfold lenC
    rw [if_neg, hk, if_neg (by omega), List.drop_left]
    unfold lenBad
    rw [hk]
    rintro (h | ⟨h, e⟩ | ⟨h, _⟩)
    · omega
    · cases hx : hexL n with
      | nil => rw [hx] at h1; simp at h1
      | cons c r =>
        rw [hx] at e h5 h
        simp at e
        exact h5 (by simpa using h) c (by simp) e
    · omega
theorem lenK_mono {r : List UInt8} (t : List UInt8) (h : lenC r = 0) : lenK (r ++ t) = lenK r ∧ lenN (r ++ t) = lenN r ∧ lenC (r ++ t) = 0 := by
  obtain ⟨h1, h2, hb, u, hu⟩ := lenC_zero h
  have hl := digN_le 5 r
  have e : r = r.take (lenK r) ++ 13 :: 10 :: u := by rw [← hu, List.take_append_drop]
  have hlen : (r.take (lenK r)).length = lenK r := by rw [List.length_take]; unfold lenK; omega
  have hk : lenK (r ++ t) = lenK r := by
    have : r ++ t = r.take (lenK r) ++ (13 :: 10 :: u ++ t) := by rw [← List.append_assoc, ← e]
    rw [this]
    have := digN_pre (r.take (lenK r)) (13 :: 10 :: u ++ t) 5 (by omega) (digN_hex 5 r) (.inr (fun c q e => by simp at e; rw [← e.1]; decide))
    show digN 5 _ = _
    rw [this, hlen]
  refine ⟨hk, ?_, ?_⟩
  · unfold lenN; rw [hk, List.take_append_of_le_length (by unfold lenK; omega)]
  · unfold lenC
    rw [if_neg, hk, if_neg (by omega), List.drop_append_of_le_length (by unfold lenK; omega), hu]
    · simp [lineC]
    · unfold lenBad at hb ⊢
      rw [hk]
      rintro (h | ⟨h, e⟩ | ⟨h, _⟩)
      · omega
      · refine hb (.inr (.inl ⟨h, ?_⟩))
        cases r with
        | nil => simp at hl; unfold lenK at h; omega
        | cons c q => simpa using e
      · omega
theorem lenC_mono {r : List UInt8} (t : List UInt8) (h : lenC r ≠ 1) : lenC (r ++ t) = lenC r := by
  rcases lenC_vals r with h0 | h1 | h2
  · rw [(lenK_mono t h0).2.2, h0]
  · exact absurd h1 h
  · have hl := digN_le 5 r
    have hl2 := digN_le 5 (r ++ t)
    have hh := digN_hex 5 r
    have hlen : (r.take (lenK r)).length = lenK r := by rw [List.length_take]; unfold lenK; omega
    rw [h2]
    by_cases hb : lenBad r
    · have hb2 : lenBad (r ++ t) := by
        have hge : lenK r ≤ lenK (r ++ t) := by
          have : ∀ (f : Nat) (a b : List UInt8), digN f a ≤ digN f (a ++ b) := by
            intro f
            induction f with
            | zero => intro a b; simp [digN]
            | succ f ih =>
              intro a b
              cases a with
              | nil => simp [digN]
              | cons c a =>
                simp only [List.cons_append, digN]
                split
                · have := ih a b; omega
                · simp
          exact this 5 r t
        rcases hb with h | ⟨h, e⟩ | ⟨h, e⟩
        · exact .inl (by omega)
        · refine .inr (.inl ⟨by omega, ?_⟩)
          cases r with
          | nil => simp at e
          | cons c q => simpa using e
        · cases r with
          | nil => exact absurd rfl e
          | cons c q =>
            have hc : ¬ HexB c := by
              intro hc
              unfold lenK at h
              simp [digN, hc] at h
            refine .inr (.inr ⟨?_, by simp⟩)
            simp [lenK, digN, hc]
      unfold lenC; rw [if_pos hb2]
    · unfold lenC at h2
      rw [if_neg hb] at h2
      by_cases h0 : lenK r = 0
      · rw [if_pos h0] at h2; simp at h2
      · rw [if_neg h0] at h2
        have hne : lineC (r.drop (lenK r)) ≠ 1 := by rw [h2]; simp
        have hk4 : lenK r ≤ 4 := by unfold lenBad at hb; omega
        -- a byte behind the digits that is no digit
        obtain ⟨c, q, hc, hnc⟩ : ∃ c q, r.drop (lenK r) = c :: q ∧ ¬ HexB c := by
          cases hd : r.drop (lenK r) with
          | nil => rw [hd] at h2; simp [lineC] at h2
          | cons c q =>
            refine ⟨c, q, rfl, fun hx => ?_⟩
            have e : r = (r.take (lenK r) ++ [c]) ++ q := by rw [List.append_assoc]; simp [← hd]
            have : ∀ (f : Nat) (l m : List UInt8), (∀ b ∈ l, HexB b) → l.length ≤ f → l.length ≤ digN f (l ++ m) := by
              intro f
              induction f with
              | zero => intro l m _ hl; simp at hl; simp [hl]
              | succ f ih =>
                intro l m hl hlf
                cases l with
                | nil => simp
                | cons x l =>
                  simp only [List.cons_append, digN, hl x (by simp), if_true, List.length_cons]
                  have := ih l m (fun b hb => hl b (by simp [hb])) (by simpa using hlf)
                  omega
            have h9 := this 5 (r.take (lenK r) ++ [c]) q (fun b hb => by
              simp only [List.mem_append, List.mem_singleton] at hb
              rcases hb with hb | rfl
              · exact hh b hb
              · exact hx) (by simp; omega)
            rw [← e] at h9
            simp [hlen] at h9
            unfold lenK at h9
            omega
        have hk : lenK (r ++ t) = lenK r := by
          have e : r ++ t = r.take (lenK r) ++ (c :: q ++ t) := by rw [← hc, ← List.append_assoc, List.take_append_drop]
          have h9 := digN_pre (r.take (lenK r)) (c :: q ++ t) 5 (by omega) hh (.inr (fun c' q' e' => by simp at e'; rw [← e'.1]; exact hnc))
          rw [← e, hlen] at h9
          exact h9
        unfold lenC
        rw [if_neg, hk, if_neg h0, List.drop_append_of_le_length (by unfold lenK; omega), lineC_mono hne, h2]
        unfold lenBad at hb ⊢
        rw [hk]
        rintro (h | ⟨h, e⟩ | ⟨h, _⟩)
        · omega
        · refine hb (.inr (.inl ⟨h, ?_⟩))
          cases r with
          | nil => simp at hc
          | cons x q => simpa using e
        · omega

end Go.Proofs.Ytfgapdididdcaaa
