/- 'Lower' of the program and of the specification: contracts over the translation. -/
import Derived.Test.YtjcojkfigacbhaaDoorNum
import Derived.Lib.ConvBytes
namespace Go.Proofs.YtjcojkfigacbhaaDoor
open Go.RowKit
open Go.Lib hiding intOf

def lowB (n : Int) : Int := if 65 ≤ n ∧ n ≤ 90 then n + 32 else n
/-- The bytes made small, as numbers. -/
def lowXs (s : ByteArray) : List Int := s.data.toList.map (fun b => lowB (b.toNat : Int))
def lowerOf (s : ByteArray) : ByteArray := strOfNums (lowXs s)
theorem lowXs_len (s : ByteArray) : (lowXs s).length = s.size := by simp [lowXs]
theorem lowXs_get (s : ByteArray) (j : Nat) (h : j < s.size) : (lowXs s).getD j 0 = lowB ((s[j]'h).toNat : Int) := by
  unfold lowXs
  rw [List.getD_eq_getElem?_getD, List.getElem?_map, byte_get s j h]
  rfl

/-- Within a rune of more than one byte every byte is at least 128, and it ends within the text. -/
theorem decode_skip (s : ByteArray) (pos : Nat) (hp : pos < s.size) : pos + (Utf8.decode s pos).2 ≤ s.size ∧ 1 ≤ (Utf8.decode s pos).2 ∧
    ∀ j (h : j < s.size), pos < j → j < pos + (Utf8.decode s pos).2 → 128 ≤ (s[j]'h).toNat := by
  have hg : ∀ k (h : pos + k < s.size), (s.get! (pos + k)).toNat = (s[pos + k]'h).toNat := by
    intro k h
    have : s.get! (pos + k) = s[pos + k]'h := get_at s (pos + k) h
    rw [this]
  have key : ∀ n : Nat, (∀ k, 1 ≤ k → k < n → pos + k < s.size ∧ (s.get! (pos + k)).toNat / 64 = 2) → ∀ j (h : j < s.size), pos < j → j < pos + n → 128 ≤ (s[j]'h).toNat := by
    intro n hn j h h1 h2
    obtain ⟨k, rfl⟩ : ∃ k, j = pos + k := ⟨j - pos, by omega⟩
    have := (hn k (by omega) (by omega)).2
    rw [hg k h] at this
    omega
  have one : ∀ j (h : j < s.size), pos < j → j < pos + 1 → 128 ≤ (s[j]'h).toNat := fun j _ h1 h2 => absurd h1 (by omega)
  simp only [Utf8.decode]
  split
  · exact ⟨by omega, by omega, one⟩
  · split
    · rename_i h2
      simp only [Bool.and_eq_true, beq_iff_eq, decide_eq_true_eq] at h2
      split
      · exact ⟨by dsimp only; omega, by dsimp only; omega, key 2 (fun k a b => by
          obtain rfl : k = 1 := by omega
          exact h2.2)⟩
      · exact ⟨by dsimp only; omega, by dsimp only; omega, one⟩
    · split
      · rename_i h3
        simp only [Bool.and_eq_true, beq_iff_eq, decide_eq_true_eq] at h3
        split
        · exact ⟨by dsimp only; omega, by dsimp only; omega, key 3 (fun k a b => by
            rcases (by omega : k = 1 ∨ k = 2) with rfl | rfl
            · exact h3.1.2
            · exact h3.2)⟩
        · exact ⟨by dsimp only; omega, by dsimp only; omega, one⟩
      · split
        · rename_i h4
          simp only [Bool.and_eq_true, beq_iff_eq, decide_eq_true_eq] at h4
          split
          · exact ⟨by dsimp only; omega, by dsimp only; omega, key 4 (fun k a b => by
              rcases (by omega : k = 1 ∨ k = 2 ∨ k = 3) with rfl | rfl | rfl
              · exact h4.1.1.2
              · exact h4.1.2
              · exact h4.2)⟩
          · exact ⟨by dsimp only; omega, by dsimp only; omega, one⟩
        · exact ⟨by dsimp only; omega, by dsimp only; omega, one⟩

/-- What stands in cell j when all ahead of 'pos' is made small. -/
def lowAt (s : ByteArray) (pos j : Nat) : Int := if j < pos then (lowXs s).getD j 0 else ((s.data.toList.getD j 0).toNat : Int)

theorem lowAt_zero (s : ByteArray) (j : Nat) : lowAt s 0 j = ((s.data.toList.getD j 0).toNat : Int) := by simp [lowAt]
theorem getD_byte (s : ByteArray) (j : Nat) (h : j < s.size) : s.data.toList.getD j 0 = s[j]'h := by
  rw [List.getD_eq_getElem?_getD, byte_get s j h]; rfl
theorem lowAt_end (s : ByteArray) (pos j : Nat) (hp : ¬ pos < s.size) (hj : j < s.size) : lowAt s pos j = (lowXs s).getD j 0 := by
  unfold lowAt; rw [if_pos (by omega)]
theorem lowAt_here (s : ByteArray) (pos : Nat) (h : pos < s.size) : lowAt s pos pos = ((s[pos]'h).toNat : Int) := by
  unfold lowAt; rw [if_neg (by omega), getD_byte s pos h]
/-- Where no byte from pos to q is a great letter, nothing is to be turned there. -/
theorem lowAt_skip (s : ByteArray) (pos q : Nat) (hpq : pos ≤ q) (hn : ∀ j (h : j < s.size), pos ≤ j → j < q → ¬ (65 ≤ (s[j]'h).toNat ∧ (s[j]'h).toNat ≤ 90)) (j : Nat) (hj : j < s.size) : lowAt s q j = lowAt s pos j := by
  unfold lowAt
  by_cases h1 : j < pos
  · rw [if_pos h1, if_pos (by omega)]
  · rw [if_neg h1]
    by_cases h2 : j < q
    · rw [if_pos h2, lowXs_get s j hj, getD_byte s j hj]
      have := hn j hj (by omega) h2
      unfold lowB
      rw [if_neg (by omega)]
    · rw [if_neg h2]
theorem lowAt_hit (s : ByteArray) (pos : Nat) (h : pos < s.size) (hu : 65 ≤ (s[pos]'h).toNat ∧ (s[pos]'h).toNat ≤ 90) : lowAt s (pos + 1) pos = ((s[pos]'h).toNat : Int) + 32 := by
  unfold lowAt
  rw [if_pos (by omega), lowXs_get s pos h]
  unfold lowB
  rw [if_pos (by omega)]
theorem lowAt_other (s : ByteArray) (pos j : Nat) (h : j ≠ pos) : lowAt s (pos + 1) j = lowAt s pos j := by
  unfold lowAt
  by_cases h1 : j < pos
  · rw [if_pos h1, if_pos (by omega)]
  · rw [if_neg h1, if_neg (by omega)]

/-- Behind a call that only makes memory the iterator stands where it was set, and every other block as it was. -/
theorem iter_step_at {w wr w1 : World} {B k : Nat} {s : ByteArray} {pos p1 : Nat} (hB : B ≤ k) (hh : wr.heap[k]? = some (.stringIter s pos)) (hbw : Below B w wr)
    (hb1 : Below (wr.iterAt k s p1).heap.size (wr.iterAt k s p1) w1) : w1.heap[k]? = some (.stringIter s p1) ∧ Below B w w1 ∧ ∀ j, j ≠ k → j < wr.heap.size → w1.heap[j]? = wr.heap[j]? := by
  have hlt : k < wr.heap.size := (Array.getElem?_eq_some_iff.1 hh).1
  refine ⟨?_, ?_, ?_⟩
  · rw [hb1.block _ (by rw [iterAt_size]; exact hlt)]
    exact iterAt_heap _ _ _ _ _ hh
  · exact (below_iterAt hbw hB s p1).trans (hb1.mono (by rw [iterAt_size]; omega))
  · intro j hj hjl
    rw [hb1.block _ (by rw [iterAt_size]; exact hjl)]
    exact iterAt_other _ _ _ _ _ hj

/-- The first k bytes made small, as values. -/
def lowVs (s : ByteArray) (k : Nat) : List Value := ((lowXs s).take k).map (Value.int .u8)
theorem lowVs_succ (s : ByteArray) (k : Nat) (h : k < s.size) : lowVs s (k + 1) = lowVs s k ++ [Value.int .u8 (lowB ((s[k]'h).toNat : Int))] := by
  have hl : k < (lowXs s).length := by rw [lowXs_len]; exact h
  unfold lowVs
  rw [List.take_succ_eq_append_getElem hl, List.map_append]
  have := lowXs_get s k h
  rw [List.getD_eq_getElem?_getD, List.getElem?_eq_getElem hl] at this
  simp at this
  simp [this]
theorem lowVs_end (s : ByteArray) (k : Nat) (h : ¬ k < s.size) : lowVs s k = (lowXs s).map (Value.int .u8) := by
  unfold lowVs; rw [List.take_of_length_le (by rw [lowXs_len]; omega)]
/-- What is owned lies from the base on. -/
theorem owns_ge {w : World} {base : Nat} {e : TypeId} {size : Nat} {v : Value} {n g : Nat} {xs : List Value} (h : w.ownsRow base e size v n xs) (hg : v.ownBlock = some g) : base ≤ g := by
  rcases h.2 with ⟨rfl, _⟩ | ⟨g', cap, cur, rfl, hb, _⟩
  · simp [Value.ownBlock] at hg
  · simp [Value.ownBlock] at hg; omega
theorem one_byte (V : Int) : ∀ u ∈ [Value.int .u8 V], u.oneCell' = true := by intro u hu; simp at hu; subst hu; rfl
/-- An owned row of bytes, turned into a text. -/
theorem conv_owned {w : World} {base n : Nat} {v : Value} {xs : List Int} (h : w.ownsRow base 5 1 v n (xs.map (Value.int .u8))) : (convert 33 9 v).run Tryd.prog w = .ok (.string (strOfNums xs)) w := by
  obtain ⟨hl, hv⟩ := h
  simp at hl
  rcases hv with ⟨rfl, h0⟩ | ⟨g, cap, cur, rfl, _, hg, hn, _, hcs, htk⟩
  · have : xs = [] := List.length_eq_zero_iff.1 (by omega)
    subst this
    exact run_convert_bytes_nil (P := Tryd.prog) w 33 5 Tryd.underlying33 Tryd.underlying5 0 0 9 Tryd.underlying9
  · refine run_convert_bytes_arg (P := Tryd.prog) w 33 5 Tryd.underlying33 Tryd.underlying5 g 0 n cap xs hl (fun i hi => ?_) 9 Tryd.underlying9
    have h1 : (cur.toList.take (n * 1))[i]? = some (.int .u8 (xs.getD i 0)) := by
      rw [htk, List.getElem?_map, List.getD_eq_getElem?_getD, List.getElem?_eq_getElem (by omega)]
      simp
    rw [List.getElem?_take, if_pos (by omega)] at h1
    simp only [World.cell?, hg, Nat.zero_add]
    simpa using h1

end Go.Proofs.YtjcojkfigacbhaaDoor
