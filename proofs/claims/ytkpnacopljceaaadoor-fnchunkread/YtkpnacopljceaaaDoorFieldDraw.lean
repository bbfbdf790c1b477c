/- The fields that chapter 2's laws draw: contracts over the translation. -/
import Derived.Test.YtkpnacopljceaaaDoorFieldPut
import Derived.Test.YtkpnacopljceaaaDoorDraw
import Derived.Test.YtkpnacopljceaaaDoorNum
namespace Go.Proofs.YtkpnacopljceaaaDoor
open Go.RowKit
open Go.Lib hiding intOf

/-- A pick out of texts that the caller has just laid. -/
theorem pick_new (c B : Nat) (xs : List ByteArray) (m : Nat) (hm : ∀ j, j < xs.length → (textAt xs j).size ≤ m) (a : Option Addr) (len cap : Nat) (zs : List Int) (w : World) (hcur : CurAt w c a len cap) (hcode : CodeAt w B a len zs) (hB : B ≤ c) (hn : 1 ≤ xs.length) (hn2 : xs.length ≤ 256) :
    Calls Tryd.prog 45 #[.pointer (some ⟨c, 0, none⟩), .slice (some ⟨w.heap.size, 0, none⟩) xs.length xs.length] (w.alloc (.cells (xs.map Value.string).toArray 9)) fun e w' => TextDrawn m w c a len cap e w' := by
  have hc := hcur.lt
  refine (l1Pick_any c B w.heap.size xs.length (textAt xs) a len cap zs _ (hcur.below ((Below.refl _ _).alloc (Nat.le_refl _) _) hc) (hcode.grown (World.grownBy_alloc w _ _) hB) hB hn hn2 (listAt_alloc w xs) (by omega)).mono ?_
  rintro e w1 ⟨j, hj, rfl, hcu, hg⟩
  exact ⟨_, rfl, hm j hj, hcu, grownBy_trans (World.grownBy_alloc w _ _) hg⟩

/-- A call on the cursor answers a field of short texts, and turns the cursor alone of what was there. -/
def FieldDrawn (w : World) (c : Nat) (a : Option Addr) (len cap : Nat) (e : Ending) (w' : World) : Prop :=
  ∃ nm vl : ByteArray, e = .returned (.agg #[.string nm, .string vl]) ∧ nm.size ≤ 64 ∧ vl.size ≤ 64 ∧ CurAt w' c a len cap ∧ w.grownBy w' (some c)

/-- The two cells of a field's memory, written. -/
def twoSet (w : World) (r : Nat) (nm vl : ByteArray) : World := (w.setCell ⟨r, 0, none⟩ (.string nm)).setCell ⟨r, 1, none⟩ (.string vl)
theorem twoSet_grown (w : World) (r : Nat) (nm vl : ByteArray) : w.grownBy (twoSet w r nm vl) (some r) :=
  ⟨rfl, rfl, rfl, by simp [twoSet], fun k _ hk => by
    have hne : k ≠ r := fun e => hk (by rw [e])
    unfold twoSet
    rw [heap_setCell_other _ _ k _ (fun e => hne e), heap_setCell_other _ _ k _ (fun e => hne e)]⟩
theorem FieldDrawn.of {w w2 : World} {c r : Nat} {a : Option Addr} {len cap : Nat} {nm vl : ByteArray} (h1 : nm.size ≤ 64) (h2 : vl.size ≤ 64) (hcu : CurAt w2 c a len cap) (hg : w.grownBy w2 (some c)) (hrc : r ≠ c) (hrw : w.heap.size ≤ r) : FieldDrawn w c a len cap (.returned (.agg #[.string nm, .string vl])) (twoSet w2 r nm vl) :=
  ⟨nm, vl, rfl, h1, h2, hcu.grown (twoSet_grown w2 r nm vl) (fun e => hrc (Option.some.inj e)), grown_later hg (twoSet_grown w2 r nm vl) (fun g e => by cases e; exact hrw)⟩

end Go.Proofs.YtkpnacopljceaaaDoor
