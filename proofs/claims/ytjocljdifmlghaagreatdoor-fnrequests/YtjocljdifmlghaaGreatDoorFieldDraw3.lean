/- What chapter 2's laws draw out of a code: contracts over the translation. -/
import Derived.Test.YtjocljdifmlghaaGreatDoorFieldDraw2
namespace Go.Proofs.YtjocljdifmlghaaGreatDoor
open Go.RowKit
open Go.Lib hiding intOf

/-- A draw out of a code: fields, a name, a text; it turns nothing that was there. -/
def PutDrawn (w : World) (e : Ending) (w' : World) : Prop :=
  ∃ (v : Value) (fs : List (ByteArray × ByteArray)) (nm tx : ByteArray), e = .returned (.tuple #[v, .string nm, .string tx]) ∧ w'.ownsRow w.heap.size 55 2 v fs.length (flatF fs) ∧ fs.length ≤ 40 ∧ ShortF fs ∧ nm.size ≤ 64 ∧ tx.size ≤ 64 ∧ Below w.heap.size w w'
def GetDrawn (w : World) (e : Ending) (w' : World) : Prop :=
  ∃ (v : Value) (fs : List (ByteArray × ByteArray)) (nm : ByteArray), e = .returned (.tuple #[v, .string nm]) ∧ w'.ownsRow w.heap.size 55 2 v fs.length (flatF fs) ∧ fs.length ≤ 40 ∧ ShortF fs ∧ nm.size ≤ 64 ∧ Below w.heap.size w w'
end Go.Proofs.YtjocljdifmlghaaGreatDoor
