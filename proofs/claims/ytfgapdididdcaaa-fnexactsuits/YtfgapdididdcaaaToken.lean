/- 'TokenOk' of the program and of the specification: contracts over the translation. -/
import Derived.Test.YtfgapdididdcaaaClass
namespace Go.Proofs.Ytfgapdididdcaaa
open Go.RowKit Go.Lib

/-- The bytes of a token. -/
def TokB (n : Int) : Prop := (97 ≤ n ∧ n ≤ 122) ∨ (48 ≤ n ∧ n ≤ 57) ∨ n = 45
def ValB (n : Int) : Prop := 32 ≤ n ∧ n ≤ 126
theorem tok_cls (n : Int) : TokB n ↔ cls n = 1 ∨ cls n = 2 ∨ cls n = 3 := by
  have := cls_spec n; unfold TokB; omega
theorem val_cls (n : Int) : ValB n ↔ cls n ≠ 7 := by
  have := cls_spec n; unfold ValB; omega
theorem tok_small {n : Int} (h : TokB n) : n < 128 := by unfold TokB at h; omega
theorem val_small {n : Int} (h : ValB n) : n < 128 := by unfold ValB at h; omega

/-- A call answers a bool that says whether p, and turns nothing that was there. -/
def BoolIs (p : Prop) (w : World) (e : Ending) (w' : World) : Prop := ∃ b : Bool, e = .returned (.bool b) ∧ (b = true ↔ p) ∧ Below w.heap.size w w'
theorem BoolIs.yes {p : Prop} {w w' : World} (hp : p) (hb : Below w.heap.size w w') : BoolIs p w (.returned (.bool true)) w' := ⟨true, rfl, by simpa using hp, hb⟩
theorem BoolIs.no {p : Prop} {w w' : World} (hp : ¬ p) (hb : Below w.heap.size w w') : BoolIs p w (.returned (.bool false)) w' := ⟨false, rfl, by simpa using hp, hb⟩

/-- Every byte of the text is such a one. -/
def AllB (p : Int → Prop) (s : ByteArray) : Prop := ∀ j (h : j < s.size), p ((s[j]'h).toNat : Int)
/-- Every byte ahead of 'pos' is such a one. -/
def AllTo (p : Int → Prop) (s : ByteArray) (pos : Nat) : Prop := ∀ j (h : j < s.size), j < pos → p ((s[j]'h).toNat : Int)
theorem allTo_zero (p : Int → Prop) (s : ByteArray) : AllTo p s 0 := fun _ _ h => absurd h (by omega)
theorem allTo_end {p : Int → Prop} {s : ByteArray} {pos : Nat} (h : AllTo p s pos) (hp : ¬ pos < s.size) : AllB p s := fun j hj => h j hj (by omega)
theorem allTo_succ {p : Int → Prop} {s : ByteArray} {pos : Nat} (h : AllTo p s pos) (hp : pos < s.size) (hv : p ((s[pos]'hp).toNat : Int)) : AllTo p s (pos + 1) := by
  intro j hj hlt
  by_cases e : j = pos
  · subst e; exact hv
  · exact h j hj (by omega)
/-- A rune that is such a one is a byte of its own. -/
theorem rune_ok {p : Int → Prop} (hs : ∀ n, p n → n < 128) (s : ByteArray) (pos : Nat) (hp : pos < s.size) (h : p ((Utf8.decode s pos).1 : Int)) :
    p ((s[pos]'hp).toNat : Int) ∧ (Utf8.decode s pos).2 = 1 := by
  by_cases ha : (s[pos]'hp).toNat < 128
  · rw [decode_ascii s pos hp ha] at h ⊢
    exact ⟨h, rfl⟩
  · have := (decode_high s pos hp (by omega)).1
    have := hs _ h
    omega
theorem rune_no {p : Int → Prop} (hs : ∀ n, p n → n < 128) (s : ByteArray) (pos : Nat) (hp : pos < s.size) (h : ¬ p ((Utf8.decode s pos).1 : Int)) : ¬ AllB p s := by
  intro ha
  have h1 := ha pos hp
  have h2 := hs _ h1
  rw [decode_ascii s pos hp (by omega)] at h
  exact h h1

/-- Behind a call that only makes memory the iterator stands where it was set. -/
theorem iter_step {w wr w1 : World} {s : ByteArray} {pos p1 : Nat} (hh : wr.heap[w.heap.size]? = some (.stringIter s pos)) (hbw : Below w.heap.size w wr)
    (hb1 : Below (wr.iterAt w.heap.size s p1).heap.size (wr.iterAt w.heap.size s p1) w1) : w1.heap[w.heap.size]? = some (.stringIter s p1) ∧ Below w.heap.size w w1 := by
  have hlt : w.heap.size < wr.heap.size := (Array.getElem?_eq_some_iff.1 hh).1
  refine ⟨?_, ?_⟩
  · rw [hb1.block _ (by rw [iterAt_size]; exact hlt)]
    exact iterAt_heap _ _ _ _ _ hh
  · exact (below_iterAt hbw (Nat.le_refl _) s p1).trans (hb1.mono (by rw [iterAt_size]; omega))

/-- What the chapter asks of a token. -/
def TokOk (s : ByteArray) : Prop := 1 ≤ s.size ∧ s.size ≤ 20 ∧ AllB TokB s

end Go.Proofs.Ytfgapdididdcaaa
