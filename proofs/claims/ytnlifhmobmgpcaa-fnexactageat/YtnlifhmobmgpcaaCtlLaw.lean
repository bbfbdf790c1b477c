/- Chapter 6's helpers of the laws: contracts over the translation. -/
import Derived.Test.YtnlifhmobmgpcaaCtlSpec
import Derived.OpenShut
namespace Go.Proofs.Ytnlifhmobmgpcaa
open Go.RowKit Go.WideShapes
open Go.Lib hiding intOf

set_option maxHeartbeats 1000000 in
theorem eqCc_same (c : CcD) (w : World) :
    Calls Try.prog 23 #[c.v, c.v] w fun e w' => e = .returned (.bool true) ∧ Below w.heap.size w w' := by
  obtain ⟨b0, b1, b2, b3, b4, age⟩ := c
  have HB : Hid (∀ o1 o2, Below w.heap.size w ((w.alloc o1).alloc o2)) := fun o1 o2 => ((Below.refl _ w).alloc (Nat.le_refl _) _).alloc (by simp) _
  show Calls _ _ #[.agg #[.bool b0, .bool b1, .bool b2, .bool b3, .bool b4, .int .i64 age], .agg #[.bool b0, .bool b1, .bool b2, .bool b3, .bool b4, .int .i64 age]] _ _
  go_enter Try.func23, Try.ntmps23
  go_wp2
  go_ret
  exact ⟨rfl, HB.out _ _⟩

end Go.Proofs.Ytnlifhmobmgpcaa
