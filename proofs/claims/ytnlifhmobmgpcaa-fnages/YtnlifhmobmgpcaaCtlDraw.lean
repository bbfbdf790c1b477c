/- Drawings of chapter 6: contracts over the translation. -/
import Derived.Test.YtnlifhmobmgpcaaCtlSpec
import Derived.Test.YtnlifhmobmgpcaaFieldDraw2
import Derived.Deep.CutRange
import Derived.Deep.DeepCutAuto
namespace Go.Proofs.Ytnlifhmobmgpcaa
open Go.RowKit
open Go.Lib hiding intOf

def ccL1 : List ByteArray := [⟨#[110, 111, 45, 115, 116, 111, 114, 101]⟩, ⟨#[78, 111, 45, 67, 97, 99, 104, 101]⟩, ⟨#[112, 114, 105, 118, 97, 116, 101]⟩, ⟨#[109, 117, 115, 116, 45, 114, 101, 118, 97, 108, 105, 100, 97, 116, 101]⟩, ⟨#[109, 97, 120, 45, 97, 103, 101, 61, 53]⟩, ⟨#[109, 97, 120, 45, 97, 103, 101, 61]⟩, ⟨#[77, 65, 88, 45, 65, 71, 69, 61, 55, 48]⟩, ⟨#[109, 97, 120, 45, 97, 103, 101, 61, 48, 53]⟩, ⟨#[120]⟩, ⟨#[32]⟩]
def ccL2 : List ByteArray := [⟨#[44]⟩, ⟨#[44, 32]⟩, ⟨#[32, 44]⟩, ⟨#[32]⟩]
theorem ccL1_short : ∀ j, j < 10 → (textAt ccL1 j).size ≤ 15 := by decide
theorem ccL2_short : ∀ j, j < 4 → (textAt ccL2 j).size ≤ 2 := by decide

set_option maxHeartbeats 1000000 in
theorem ccPickInt_any (c B g n : Nat) (f : Nat → Int) (a : Option Addr) (len cap : Nat) (zs : List Int) (w : World) (hcur : CurAt w c a len cap) (hcode : CodeAt w B a len zs) (hB : B ≤ c) (hn : 1 ≤ n) (hn2 : n ≤ 256) (hl : ∀ j, j < n → w.cell? ⟨g, j, none⟩ = some (.int .i64 (f j))) (hgc : g ≠ c) :
    Calls Try.prog 59 #[.pointer (some ⟨c, 0, none⟩), .slice (some ⟨g, 0, none⟩) n n] w fun e w' => ∃ j, j < n ∧ e = .returned (.int .i64 (f j)) ∧ CurAt w' c a len cap ∧ w.grownBy w' (some c) := by
  go_enter Try.func59, Try.ntmps59
  go_wp2_with fail
  refine (l1Below_any c B n a len cap zs _ hcur hcode hB (by omega) (by omega)).mono ?_
  rintro e w1 ⟨x, rfl, hx0, hx1, hcur1, hg1⟩
  obtain ⟨j, rfl⟩ := Int.eq_ofNat_of_zero_le hx0
  have hj : j < n := by omega
  have hcell : w1.cell? ⟨g, j, none⟩ = some (.int .i64 (f j)) := grown_cell hg1 (hl j hj) hgc
  go_wp2
  go_ret
  exact ⟨j, hj, rfl, hcur1, hg1⟩

def ccAges : List Int := [-1, 5, 1000001]
theorem ccAges_in : ∀ j, j < 3 → -1 ≤ ccAges.getD j 0 ∧ ccAges.getD j 0 ≤ 1000001 := by decide
/-- What is drawn: of keeping. -/
def DrawnCc (w : World) (e : Ending) (w' : World) : Prop := ∃ c : CcD, e = .returned c.v ∧ -1 ≤ c.age ∧ c.age ≤ 1000001 ∧ Below w.heap.size w w'

/-- A list of fields is drawn. -/
def DrawnFs (w : World) (e : Ending) (w' : World) : Prop :=
  ∃ (v : Value) (fs : List (ByteArray × ByteArray)), e = .returned v ∧ w'.ownsRow w.heap.size 63 2 v fs.length (flatF fs) ∧ fs.length ≤ 40 ∧ ShortF fs ∧ Below w.heap.size w w'
end Go.Proofs.Ytnlifhmobmgpcaa
