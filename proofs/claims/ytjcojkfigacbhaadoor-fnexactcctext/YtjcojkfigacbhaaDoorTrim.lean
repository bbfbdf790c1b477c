/- 'Trim' of the program and of the specification: contracts over the translation. -/
import Derived.Test.YtjcojkfigacbhaaDoorToken
import Derived.Test.YtjcojkfigacbhaaDoorClone
import Derived.Test.YtjcojkfigacbhaaDoorTrimPlain
namespace Go.Proofs.YtjcojkfigacbhaaDoor
open Go.RowKit
open Go.Lib hiding intOf

/-- A call answers this text, and turns nothing that was there. -/
def TextIs (t : ByteArray) (w : World) (e : Ending) (w' : World) : Prop := e = .returned (.string t) ∧ Below w.heap.size w w'
theorem TextIs.of {t u : ByteArray} {w w' : World} (h : u = t) (hb : Below w.heap.size w w') : TextIs t w (.returned (.string u)) w' := ⟨by rw [h], hb⟩

end Go.Proofs.YtjcojkfigacbhaaDoor
