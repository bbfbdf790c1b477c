/- 'l4Value', 'l4Line', 'l4Length', 'ChunkRead' of the specification: contracts over the translation. -/
import Derived.Test.YtkpnacopljceaaaDoorChunkRd
import Derived.Test.YtkpnacopljceaaaDoorMsgScan
import Derived.Test.YtkpnacopljceaaaDoorTrim
namespace Go.Proofs.YtkpnacopljceaaaDoor
open Go.RowKit
open Go.Lib hiding intOf

def hexI (b : Int) : Int := if 48 ≤ b ∧ b ≤ 57 then b - 48 else if 97 ≤ b ∧ b ≤ 102 then b - 87 else -1
theorem hexI_yes {c : UInt8} (h : HexB c) : hexI (c.toNat : Int) = (hexV c : Int) := by
  unfold hexI hexV
  rcases h with h | h
  · rw [if_pos (by omega), if_pos (by omega)]; omega
  · rw [if_neg (by omega), if_pos (by omega), if_neg (by omega)]; omega
theorem hexI_no {c : UInt8} (h : ¬ HexB c) : hexI (c.toNat : Int) = -1 := by
  unfold hexI
  rw [if_neg (fun e => h (.inl (by omega))), if_neg (fun e => h (.inr (by omega)))]
set_option maxHeartbeats 400000 in
theorem l4Value_any (b : Int) (w : World) (h0 : 0 ≤ b) (h1 : b ≤ 255) :
    Calls Tryd.prog 46 #[.int .u8 b] w fun e w' => e = .returned (.int .i64 (hexI b)) ∧ w' = w := by
  by_cases a1 : 48 ≤ b
  · by_cases a2 : b ≤ 57
    · have HE : Hid (hexI b = b - 48) := by show _ = _; unfold hexI; rw [if_pos ⟨a1, a2⟩]
      go_enter Tryd.func46, Tryd.ntmps46
      go_wp2
      go_ret
      exact ⟨by rw [HE.out]; rfl, rfl⟩
    · by_cases a3 : 97 ≤ b
      · by_cases a4 : b ≤ 102
        · have HE : Hid (hexI b = b - 87) := by show _ = _; unfold hexI; rw [if_neg (by omega), if_pos ⟨a3, a4⟩]
          go_enter Tryd.func46, Tryd.ntmps46
          go_wp2
          go_ret
          exact ⟨by rw [HE.out]; rfl, rfl⟩
        · have HE : Hid (hexI b = -1) := by show _ = _; unfold hexI; rw [if_neg (by omega), if_neg (by omega)]
          have d2 : decide (b ≤ 57) = false := by simpa using a2
          have d4 : decide (b ≤ 102) = false := by simpa using a4
          go_enter Tryd.func46, Tryd.ntmps46
          go_wp2
          go_ret
          exact ⟨by rw [HE.out]; rfl, rfl⟩
      · have HE : Hid (hexI b = -1) := by show _ = _; unfold hexI; rw [if_neg (by omega), if_neg (by omega)]
        have d2 : decide (b ≤ 57) = false := by simpa using a2
        have d3 : decide (97 ≤ b) = false := by simpa using a3
        go_enter Tryd.func46, Tryd.ntmps46
        go_wp2
        go_ret
        exact ⟨by rw [HE.out]; rfl, rfl⟩
  · have HE : Hid (hexI b = -1) := by show _ = _; unfold hexI; rw [if_neg (by omega), if_neg (by omega)]
    have d1 : decide (48 ≤ b) = false := by simpa using a1
    have a3 : ¬ 97 ≤ b := by omega
    have d3 : decide (97 ≤ b) = false := by simpa using a3
    go_enter Tryd.func46, Tryd.ntmps46
    go_wp2
    go_ret
    exact ⟨by rw [HE.out]; rfl, rfl⟩

theorem drop_end (s : ByteArray) (k : Nat) (h : s.size ≤ k) : (bs s).drop k = [] := List.drop_of_length_le (by rw [bs_len]; exact h)
set_option maxHeartbeats 400000 in
theorem l4Line_any (s : ByteArray) (k : Nat) (w : World) (hs : s.size ≤ 2000000) (hk : k ≤ s.size) :
    Calls Tryd.prog 36 #[.string s, .int .i64 (k : Int)] w fun e w' => e = .returned (.int .i64 (lineC ((bs s).drop k))) ∧ w' = w := by
  by_cases h1 : (k : Int) < (s.size : Int)
  · have h1n : k < s.size := by omega
    by_cases c13 : ((s[k]'h1n).toNat : Int) = 13
    · have t13 : (((s[k]'h1n).toNat : Int) != 13) = false := by simp [c13]
      have b13 : s[k]'h1n = 13 := (u8_eq _ 13 (by omega)).2 (by omega)
      by_cases h2 : (k : Int) + 1 < (s.size : Int)
      · have h2n : k + 1 < s.size := by omega
        have hge : ¬ (s.size : Int) ≤ (k : Int) + 1 := by omega
        by_cases c10 : ((s[k + 1]'h2n).toNat : Int) = 10
        · have t10 : (((s[k + 1]'h2n).toNat : Int) != 10) = false := by simp [c10]
          have b10 : s[k + 1]'h2n = 10 := (u8_eq _ 10 (by omega)).2 (by omega)
          have HE : Hid (lineC ((bs s).drop k) = 0) := by show _ = _; rw [bs_drop s k h1n, bs_drop s (k + 1) h2n, b13, b10]; simp [lineC]
          clear c13 c10 b13 b10
          go_enter Tryd.func36, Tryd.ntmps36
          go_wp2
          go_ret
          exact ⟨by rw [HE.out]; rfl, rfl⟩
        · have t10 : (((s[k + 1]'h2n).toNat : Int) != 10) = true := by simpa using c10
          have HE : Hid (lineC ((bs s).drop k) = 2) := by
            show _ = _
            rw [bs_drop s k h1n, bs_drop s (k + 1) h2n]
            simp only [lineC]
            rw [if_neg (fun e => c10 (by rw [e.2]; rfl))]
          clear c13 c10 b13
          go_enter Tryd.func36, Tryd.ntmps36
          go_wp2
          go_ret
          exact ⟨by rw [HE.out]; rfl, rfl⟩
      · have hge : (s.size : Int) ≤ (k : Int) + 1 := by omega
        have HE : Hid (lineC ((bs s).drop k) = 1) := by show _ = _; rw [bs_drop s k h1n, drop_end s (k + 1) (by omega), b13]; simp [lineC]
        clear c13 b13
        go_enter Tryd.func36, Tryd.ntmps36
        go_wp2
        go_ret
        exact ⟨by rw [HE.out]; rfl, rfl⟩
    · have t13 : (((s[k]'h1n).toNat : Int) != 13) = true := by simpa using c13
      have HE : Hid (lineC ((bs s).drop k) = 2) := by
        show _ = _
        rw [bs_drop s k h1n]
        have hne : s[k]'h1n ≠ 13 := fun e => c13 (by rw [e]; rfl)
        cases (bs s).drop (k + 1) with
        | nil => simp [lineC, hne]
        | cons d r => simp [lineC, hne]
      clear c13
      go_enter Tryd.func36, Tryd.ntmps36
      go_wp2
      go_ret
      exact ⟨by rw [HE.out]; rfl, rfl⟩
  · have h2 : ¬ (k : Int) + 1 < (s.size : Int) := by omega
    have hge : (s.size : Int) ≤ (k : Int) + 1 := by omega
    have HE : Hid (lineC ((bs s).drop k) = 1) := by show _ = _; rw [drop_end s k (by omega)]; rfl
    go_enter Tryd.func36, Tryd.ntmps36
    go_wp2
    go_ret
    exact ⟨by rw [HE.out]; rfl, rfl⟩

/-- The first k bytes from a place on are digits; the number that they are. -/
def DigsTo (s : ByteArray) (p k : Nat) (n : Nat) : Prop := k ≤ 5 ∧ p + k ≤ s.size ∧ (∀ b ∈ ((bs s).drop p).take k, HexB b) ∧ n = hexVal (((bs s).drop p).take k)
theorem digs_zero (s : ByteArray) (p : Nat) (h : p ≤ s.size) : DigsTo s p 0 0 := ⟨by omega, by omega, by simp, by simp [hexVal]⟩
theorem drop_take_snoc (s : ByteArray) (p k : Nat) (h : p + k < s.size) : ((bs s).drop p).take (k + 1) = ((bs s).drop p).take k ++ [s[p + k]'h] := by
  rw [List.take_succ_eq_append_getElem (by rw [List.length_drop, bs_len]; omega)]
  congr 1
  rw [List.getElem_drop, bs_at]
theorem digs_succ {s : ByteArray} {p k n : Nat} (h : DigsTo s p k n) (hk : k < 5) (hl : p + k < s.size) (hx : HexB (s[p + k]'hl)) : DigsTo s p (k + 1) (16 * n + hexV (s[p + k]'hl)) := by
  obtain ⟨_, _, h3, h4⟩ := h
  refine ⟨by omega, by omega, ?_, ?_⟩
  · intro b hb
    rw [drop_take_snoc s p k hl] at hb
    simp only [List.mem_append, List.mem_singleton] at hb
    rcases hb with hb | rfl
    · exact h3 b hb
    · exact hx
  · rw [drop_take_snoc s p k hl, hexVal_snoc, h4]
theorem digs_lt {s : ByteArray} {p k n : Nat} (h : DigsTo s p k n) : n < 16 ^ k := by
  obtain ⟨_, hl, h3, rfl⟩ := h
  have : ∀ l : List UInt8, (∀ b ∈ l, HexB b) → hexVal l < 16 ^ l.length := by
    intro l
    rcases list_snoc l with rfl | ⟨r, b, rfl⟩
    · simp [hexVal]
    · intro hl
      have ih : ∀ (m : Nat) (l : List UInt8), l.length ≤ m → (∀ b ∈ l, HexB b) → hexVal l < 16 ^ l.length := by
        intro m
        induction m with
        | zero => intro l h _; simp at h; subst h; simp [hexVal]
        | succ m ih =>
          intro l hlm hl
          rcases list_snoc l with rfl | ⟨q, c, rfl⟩
          · simp [hexVal]
          · have h1 := ih q (by simp at hlm; omega) (fun b hb => hl b (by simp [hb]))
            have h2 := hexV_lt (hl c (by simp))
            rw [hexVal_snoc, List.length_append, List.length_singleton, Nat.pow_succ]
            omega
      exact ih _ _ (Nat.le_refl _) hl
  have h5 := this _ h3
  have e : (((bs s).drop p).take k).length = k := by rw [List.length_take, List.length_drop, bs_len]; omega
  rw [e] at h5
  exact h5
theorem digs_end {s : ByteArray} {p k n : Nat} (h : DigsTo s p k n) (hs : k = 5 ∨ p + k = s.size ∨ ∃ hl : p + k < s.size, ¬ HexB (s[p + k]'hl)) : lenK ((bs s).drop p) = k ∧ lenN ((bs s).drop p) = n := by
  obtain ⟨h1, h2, h3, h4⟩ := h
  have e : (((bs s).drop p).take k).length = k := by rw [List.length_take, List.length_drop, bs_len]; omega
  have hk : lenK ((bs s).drop p) = k := by
    have := digN_pre (((bs s).drop p).take k) (((bs s).drop p).drop k) 5 (by omega) h3 (by
      rcases hs with h | h | ⟨hl, h⟩
      · left; omega
      · right
        intro c r e
        rw [List.drop_drop, drop_end s _ (by omega)] at e
        simp at e
      · right
        intro c r e
        rw [List.drop_drop, bs_drop s (p + k) hl] at e
        simp at e
        rw [← e.1]; exact h)
    rw [List.take_append_drop, e] at this
    exact this
  refine ⟨hk, ?_⟩
  unfold lenN
  rw [hk, ← h4]

/-- A call tells a length, the place behind it, and a code. -/
def LenIs (r : List UInt8) (p : Nat) (w : World) (e : Ending) (w' : World) : Prop :=
  ∃ n x c : Int, e = .returned (.tuple #[.int .i64 n, .int .i64 x, .int .i64 c]) ∧ c = lenC r ∧ (c = 0 → n = (lenN r : Int) ∧ x = (p : Int) + (lenK r : Int) + 2) ∧ w' = w

end Go.Proofs.YtkpnacopljceaaaDoor
