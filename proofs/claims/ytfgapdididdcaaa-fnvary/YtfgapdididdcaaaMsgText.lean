/- 'ReqText', 'RespText' of the specification: contracts over the translation. -/
import Derived.Test.YtfgapdididdcaaaMsgSpec
namespace Go.Proofs.Ytfgapdididdcaaa
open Go.RowKit
open Go.Lib hiding intOf

def methL : List ByteArray := [⟨#[]⟩, ⟨#[71, 69, 84]⟩, ⟨#[72, 69, 65, 68]⟩, ⟨#[80, 79, 83, 84]⟩, ⟨#[80, 85, 82, 71, 69]⟩]
/-- The names of the methods, in a new list. -/
def MethsAt (w : World) (g : Nat) : Prop := ∀ j, j < 5 → w.cell? ⟨g, j, none⟩ = some (.string (methB (j : Int)))
theorem methB_size (m : Int) : (methB m).size ≤ 5 := by
  unfold methB
  split
  · decide
  · split
    · decide
    · split
      · decide
      · split <;> decide
theorem ft_small {fs : List (ByteArray × ByteArray)} (h : FldsOk fs) : (fieldsText fs).size ≤ 672 := by
  have h1 : ∀ k, k ≤ fs.length → (ftTo fs k).size ≤ 84 * k := by
    intro k
    induction k with
    | zero => intro _; exact Nat.le_refl _
    | succ k ih =>
      intro hk
      have h2 := h.2 k (by omega)
      have h3 := h2.1.2.1
      have h4 := h2.2.1.2.1
      have := ih (by omega)
      rw [ftTo_size]; omega
  have := h1 fs.length (Nat.le_refl _)
  have := h.1
  unfold fieldsText; omega
theorem dgF_len : ∀ (f n : Nat), (dgF f n).length ≤ f
  | 0, n => by simp [dgF]
  | f + 1, n => by
    by_cases h : n = 0
    · rw [h, dgF_zero]; simp
    · rw [dgF_pos f n h]
      have := dgF_len f (n / 10)
      simp; omega
theorem numText_size (n : Nat) : (numText n).size ≤ 8 := by
  have : (numText n).size = (numL n).length := by simp [numText, ByteArray.size]
  rw [this]
  unfold numL
  split
  · simp
  · split
    · simp
    · exact dgF_len 8 n
theorem empty_text {b : ByteArray} (h : b.size = 0) : b = ⟨#[]⟩ := by
  apply ByteArray.ext
  exact Array.eq_empty_of_size_eq_zero h

/-- A call answers the text of what is right, nothing else of what is not. -/
def TextOf (p : Prop) (t : ByteArray) (w : World) (e : Ending) (w' : World) : Prop := ∃ u : ByteArray, e = .returned (.string u) ∧ (p → u = t) ∧ (¬ p → u = ⟨#[]⟩) ∧ Below w.heap.size w w'

end Go.Proofs.Ytfgapdididdcaaa
