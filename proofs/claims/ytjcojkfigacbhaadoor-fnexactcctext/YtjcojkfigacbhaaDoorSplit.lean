/- 'Split' of the program and of the specification: contracts over the translation. -/
import Derived.Test.YtjcojkfigacbhaaDoorLower
namespace Go.Proofs.YtjcojkfigacbhaaDoor
open Go.RowKit
open Go.Lib hiding intOf

/-- A part is taken where it is not empty. -/
def addPart (l : List ByteArray) (t : ByteArray) : List ByteArray := if t.size = 0 then l else l ++ [t]
/-- What is gathered ahead of byte k, and where the part that is begun begins. -/
def splitTo (s : ByteArray) : Nat → List ByteArray × Nat
  | 0 => ([], 0)
  | k + 1 => if (s.data.toList.getD k 0).toNat = 44 then (addPart (splitTo s k).1 (trimOf (s.extract (splitTo s k).2 k)), k + 1) else splitTo s k
def splitL (s : ByteArray) : List ByteArray := addPart (splitTo s s.size).1 (trimOf (s.extract (splitTo s s.size).2 s.size))

theorem addPart_len (l : List ByteArray) (t : ByteArray) : (addPart l t).length ≤ l.length + 1 := by
  unfold addPart; split <;> simp
theorem splitTo_le (s : ByteArray) : ∀ k, (splitTo s k).2 ≤ k ∧ (splitTo s k).1.length ≤ k := by
  intro k
  induction k with
  | zero => simp [splitTo]
  | succ k ih =>
    rw [splitTo]
    split
    · have := addPart_len (splitTo s k).1 (trimOf (s.extract (splitTo s k).2 k))
      dsimp only; omega
    · omega
theorem splitTo_comma (s : ByteArray) (k : Nat) (h : k < s.size) (hc : (s[k]'h).toNat = 44) : splitTo s (k + 1) = (addPart (splitTo s k).1 (trimOf (s.extract (splitTo s k).2 k)), k + 1) := by
  rw [splitTo, getD_byte s k h, if_pos hc]
theorem splitTo_other (s : ByteArray) (k : Nat) (h : k < s.size) (hc : (s[k]'h).toNat ≠ 44) : splitTo s (k + 1) = splitTo s k := by
  rw [splitTo, getD_byte s k h, if_neg hc]
theorem splitTo_skip (s : ByteArray) (k : Nat) : ∀ d, k + d ≤ s.size → (∀ j (h : j < s.size), k ≤ j → j < k + d → (s[j]'h).toNat ≠ 44) → splitTo s (k + d) = splitTo s k := by
  intro d
  induction d with
  | zero => intro _ _; rfl
  | succ d ih =>
    intro hd hn
    rw [show k + (d + 1) = (k + d) + 1 by omega, splitTo_other s (k + d) (by omega) (hn _ _ (by omega) (by omega))]
    exact ih (by omega) (fun j h h1 h2 => hn j h h1 (by omega))

/-- A call answers a list of these texts in memory of its own, from block 'base' on, and turns nothing below it. -/
def RowIs (base : Nat) (xs : List ByteArray) (w : World) (e : Ending) (w' : World) : Prop :=
  ∃ v, e = .returned v ∧ w'.ownsRow base 9 1 v xs.length (xs.map Value.string) ∧ Below base w w'
theorem RowIs.of {base : Nat} {xs ys : List ByteArray} {w w' : World} {v : Value} {n : Nat} (h : ys = xs) (hn : n = ys.length) (hown : w'.ownsRow base 9 1 v n (ys.map Value.string)) (hb : Below base w w') : RowIs base xs w (.returned v) w' := by
  subst h; subst hn; exact ⟨v, rfl, hown, hb⟩
/-- What is owned stays so in every later world that keeps what was there. -/
theorem owns_below {w w' : World} {base B : Nat} {e : TypeId} {size : Nat} {v : Value} {n : Nat} {xs : List Value} (h : w.ownsRow base e size v n xs) (hb : Below B w w') (hB : ∀ g, v.ownBlock = some g → g < B) : w'.ownsRow base e size v n xs := by
  refine ⟨h.1, ?_⟩
  rcases h.2 with h2 | ⟨g, cap, cur, rfl, h3, h4, h5⟩
  · exact .inl h2
  · exact .inr ⟨g, cap, cur, rfl, h3, by rw [hb.block g (hB g rfl)]; exact h4, h5⟩
theorem owns_lt {w : World} {base : Nat} {e : TypeId} {size : Nat} {v : Value} {n g : Nat} {xs : List Value} (h : w.ownsRow base e size v n xs) (hg : v.ownBlock = some g) : g < w.heap.size := by
  rcases h.2 with ⟨rfl, _⟩ | ⟨g', cap, cur, rfl, hb, hh, _⟩
  · simp [Value.ownBlock] at hg
  · simp [Value.ownBlock] at hg
    subst hg
    exact (Array.getElem?_eq_some_iff.1 hh).1
theorem owns_base {w : World} {base b : Nat} {e : TypeId} {size : Nat} {v : Value} {n : Nat} {xs : List Value} (h : w.ownsRow base e size v n xs) (hb : b ≤ base) : w.ownsRow b e size v n xs := by
  refine ⟨h.1, ?_⟩
  rcases h.2 with h2 | ⟨g, cap, cur, h3, h4, h5⟩
  · exact .inl h2
  · exact .inr ⟨g, cap, cur, h3, by omega, h5⟩
theorem one_text (t : ByteArray) : ∀ u ∈ [Value.string t], u.oneCell' = true := by intro u hu; simp at hu; subst hu; rfl
theorem info9 : (Tryd.prog.info? 9).map (fun i => (i.zero, i.size, i.bytes)) = some (some (.string ⟨#[]⟩), 1, 16) := by kernel_rfl

theorem addPart_no {l : List ByteArray} {t : ByteArray} (h : t.toList.isEmpty = true) : addPart l t = l := by
  unfold addPart
  have : t.size = 0 := by
    rw [ByteArray.toList_eq] at h
    have := List.isEmpty_iff.1 h
    have h2 : t.data.toList.length = t.size := by simp
    rw [this] at h2; simpa using h2.symm
  rw [if_pos this]
theorem addPart_yes {l : List ByteArray} {t : ByteArray} (h : t.toList.isEmpty = false) : addPart l t = l ++ [t] := by
  unfold addPart
  have : t.size ≠ 0 := by
    intro hc
    rw [isEmpty_yes hc] at h; cases h
  rw [if_neg this]

/-- The same, and behind the last byte the whole. -/
def stTo (s : ByteArray) (k : Nat) : List ByteArray × Nat := if k ≤ s.size then splitTo s k else (splitL s, k)
theorem stTo_part (s : ByteArray) (k : Nat) (h : (∃ h : k < s.size, (s[k]'h).toNat = 44) ∨ k = s.size) : stTo s (k + 1) = (addPart (stTo s k).1 (trimOf (s.extract (stTo s k).2 k)), k + 1) := by
  rcases h with ⟨h, hc⟩ | rfl
  · unfold stTo
    rw [if_pos (by omega), if_pos (by omega), splitTo_comma s k h hc]
  · unfold stTo
    rw [if_neg (by omega), if_pos (by omega)]; rfl
theorem stTo_other (s : ByteArray) (k : Nat) (h : k < s.size) (hc : (s[k]'h).toNat ≠ 44) : stTo s (k + 1) = stTo s k := by
  unfold stTo
  rw [if_pos (by omega), if_pos (by omega), splitTo_other s k h hc]
theorem stTo_end (s : ByteArray) (k : Nat) (h : ¬ k ≤ s.size) : (stTo s k).1 = splitL s := by
  unfold stTo; rw [if_neg h]
theorem stTo_le (s : ByteArray) (k : Nat) (h : k ≤ s.size) : (stTo s k).2 ≤ k ∧ (stTo s k).1.length ≤ k := by
  unfold stTo; rw [if_pos h]; exact splitTo_le s k

end Go.Proofs.YtjcojkfigacbhaaDoor
