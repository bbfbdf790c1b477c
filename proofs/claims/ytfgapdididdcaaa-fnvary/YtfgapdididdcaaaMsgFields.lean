/- The fields of lines: contract of the specification's function. -/
import Derived.Test.YtfgapdididdcaaaMsgRead
import Derived.Test.YtfgapdididdcaaaFieldPut
namespace Go.Proofs.Ytfgapdididdcaaa
open Go.RowKit
open Go.Lib hiding intOf

/-- A list of texts that a function reads, in blocks below B. -/
def TextsV (w : World) (B : Nat) (a : Option Addr) (n : Nat) (xs : List ByteArray) : Prop :=
  xs.length = n ∧ ∀ i (h : i < xs.length), ∃ g off, a = some ⟨g, off, none⟩ ∧ g < B ∧ w.cell? ⟨g, off + i, none⟩ = some (.string (xs[i]'h))
theorem TextsV.below {w w' : World} {B : Nat} {a : Option Addr} {n : Nat} {xs : List ByteArray} (h : TextsV w B a n xs) (hb : Below B w w') : TextsV w' B a n xs :=
  ⟨h.1, fun i hi => by
    obtain ⟨g, off, h1, h2, h3⟩ := h.2 i hi
    exact ⟨g, off, h1, h2, by rw [hb.cell (p := ⟨g, off + i, none⟩) h2]; exact h3⟩⟩

/-- A call answers the fields of these lines, in a list of its own. -/
def FieldsOf (xs : List ByteArray) (w : World) (e : Ending) (w' : World) : Prop :=
  ∃ (v : Value) (l : List (ByteArray × ByteArray)), e = .returned v ∧ w'.ownsRow w.heap.size 64 2 v l.length (flatF l) ∧ l.length ≤ xs.length ∧ Below w.heap.size w w' ∧ fieldsL (xs.map bs) = l.map bsP

end Go.Proofs.Ytfgapdididdcaaa
