/- 'Put' and 'Drop' of the program: contracts over the translation. -/
import Derived.Test.YtacfajnagbeocaaGreatDoorFieldDel
namespace Go.Proofs.YtacfajnagbeocaaGreatDoor
open Go.RowKit
open Go.Lib hiding intOf

theorem owns_in {w : World} {base : Nat} {e : TypeId} {size : Nat} {v : Value} {n g : Nat} {xs : List Value} (h : w.ownsRow base e size v n xs) (hg : v.ownBlock = some g) : g < w.heap.size := by
  rcases h.2 with ⟨rfl, _⟩ | ⟨g1, cap, cur, rfl, _, h1, _⟩
  · cases hg
  · cases hg
    exact (Array.getElem?_eq_some_iff.1 h1).1
theorem pair_at (fs : List (ByteArray × ByteArray)) (k : Nat) (h : k < fs.length) : (nameAt fs k, valAt fs k) = fs[k] := by
  unfold nameAt valAt
  rw [List.getD_eq_getElem?_getD, List.getElem?_eq_getElem h]
  rfl
theorem dropTo_none (fs : List (ByteArray × ByteArray)) : ∀ k, k ≤ fs.length → dropTo fs (-1) k = fs.take k := by
  intro k
  induction k with
  | zero => intro _; rfl
  | succ k ih =>
    intro hk
    rw [dropTo, if_neg (by omega), ih (by omega), pair_at fs k (by omega), List.take_append_getElem (by omega)]
theorem dropTo_at (fs : List (ByteArray × ByteArray)) (a : Nat) : ∀ k, k ≤ fs.length → dropTo fs (a : Int) k = (if a < k then (fs.take k).eraseIdx a else fs.take k) := by
  intro k
  induction k with
  | zero => intro _; rfl
  | succ k ih =>
    intro hk
    have ht : fs.take (k + 1) = fs.take k ++ [fs[k]] := (List.take_append_getElem (by omega)).symm
    have hl : (fs.take k).length = k := by rw [List.length_take]; omega
    rw [dropTo, ih (by omega), pair_at fs k (by omega), ht]
    by_cases e : k = a
    · subst e
      rw [if_pos rfl, if_neg (by omega), if_pos (by omega), List.eraseIdx_append_of_length_le (by omega), hl, Nat.sub_self]
      simp
    · rw [if_neg (by omega)]
      by_cases c : a < k
      · rw [if_pos c, if_pos (by omega), List.eraseIdx_append_of_lt_length (by omega)]
      · rw [if_neg c, if_neg (by omega)]
theorem dropF_eq (fs : List (ByteArray × ByteArray)) (name : ByteArray) : dropF fs name = (if atF fs name < fs.length then fs.eraseIdx (atF fs name) else fs) := by
  unfold dropF atI
  by_cases h : atF fs name < fs.length
  · rw [if_pos h, if_pos h, dropTo_at fs _ _ (Nat.le_refl _), if_pos h, List.take_length]
  · rw [if_neg h, if_neg h, dropTo_none fs _ (Nat.le_refl _), List.take_length]
theorem putF_eq (fs : List (ByteArray × ByteArray)) (name value : ByteArray) (h : atF fs name < fs.length) : putF fs name value = fs.set (atF fs name) (name, value) := by
  unfold putF
  rw [if_pos h, atF_here fs name h]

end Go.Proofs.YtacfajnagbeocaaGreatDoor
