/- Drawings of chapter 6: contracts over the translation. -/
import Derived.Test.YtfgapdididdcaaaCtlSpec
import Derived.Test.YtfgapdididdcaaaFieldDraw2
import Derived.Deep.CutRange
import Derived.Deep.DeepCutAuto
namespace Go.Proofs.Ytfgapdididdcaaa
open Go.RowKit
open Go.Lib hiding intOf

def ccL1 : List ByteArray := [⟨#[110, 111, 45, 115, 116, 111, 114, 101]⟩, ⟨#[78, 111, 45, 67, 97, 99, 104, 101]⟩, ⟨#[112, 114, 105, 118, 97, 116, 101]⟩, ⟨#[109, 117, 115, 116, 45, 114, 101, 118, 97, 108, 105, 100, 97, 116, 101]⟩, ⟨#[109, 97, 120, 45, 97, 103, 101, 61, 53]⟩, ⟨#[109, 97, 120, 45, 97, 103, 101, 61]⟩, ⟨#[77, 65, 88, 45, 65, 71, 69, 61, 55, 48]⟩, ⟨#[109, 97, 120, 45, 97, 103, 101, 61, 48, 53]⟩, ⟨#[120]⟩, ⟨#[32]⟩]
def ccL2 : List ByteArray := [⟨#[44]⟩, ⟨#[44, 32]⟩, ⟨#[32, 44]⟩, ⟨#[32]⟩]
theorem ccL1_short : ∀ j, j < 10 → (textAt ccL1 j).size ≤ 15 := by decide
theorem ccL2_short : ∀ j, j < 4 → (textAt ccL2 j).size ≤ 2 := by decide

def ccAges : List Int := [-1, 5, 1000001]
theorem ccAges_in : ∀ j, j < 3 → -1 ≤ ccAges.getD j 0 ∧ ccAges.getD j 0 ≤ 1000001 := by decide
/-- What is drawn: of keeping. -/
def DrawnCc (w : World) (e : Ending) (w' : World) : Prop := ∃ c : CcD, e = .returned c.v ∧ -1 ≤ c.age ∧ c.age ≤ 1000001 ∧ Below w.heap.size w w'

/-- A list of fields is drawn. -/
def DrawnFs (w : World) (e : Ending) (w' : World) : Prop :=
  ∃ (v : Value) (fs : List (ByteArray × ByteArray)), e = .returned v ∧ w'.ownsRow w.heap.size 64 2 v fs.length (flatF fs) ∧ fs.length ≤ 40 ∧ ShortF fs ∧ Below w.heap.size w w'
end Go.Proofs.Ytfgapdididdcaaa
