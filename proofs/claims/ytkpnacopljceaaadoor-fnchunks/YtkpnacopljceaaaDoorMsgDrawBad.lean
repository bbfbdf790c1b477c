/- What chapter 3's law draws: requests, right or not: contract over the translation. -/
import Derived.Test.YtkpnacopljceaaaDoorMsgDraw
namespace Go.Proofs.YtkpnacopljceaaaDoor
open Go.RowKit
open Go.Lib hiding intOf

/-- How long the body is that lies there. -/
def bodyLen (r : Nat) (W : World) : Nat := match W.cell? ⟨r, 3, none⟩ with | some (.string t) => t.size | _ => 0

end Go.Proofs.YtkpnacopljceaaaDoor
