/- What the exact laws of chapter 2 lean on: the lists that came in, opened; a list that is marked leaves all others; how long the text is. -/
import Derived.Test.YtjocljdifmlghaaGreatDoorFieldPutI
import Derived.Test.YtjocljdifmlghaaGreatDoorFieldOks
import Derived.Test.YtjocljdifmlghaaGreatDoorFieldText
import Derived.Test.YtjocljdifmlghaaGreatDoorFieldOpen
namespace Go.Proofs.YtjocljdifmlghaaGreatDoor
open Go.RowKit
open Go.Lib hiding intOf

/-- All blocks that were there but the list's own are as they were. -/
def Far (v : Value) (w w' : World) : Prop := ∀ j, j < w.heap.size → v.ownBlock ≠ some j → w'.heap[j]? = w.heap[j]?

end Go.Proofs.YtjocljdifmlghaaGreatDoor
