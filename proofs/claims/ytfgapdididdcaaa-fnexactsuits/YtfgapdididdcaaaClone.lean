/- 'strings.Clone' at this program: the same bytes, in new memory. -/
import Derived.Test.YtfgapdididdcaaaClass
import Derived.Test.YtfgapdididdcaaaShelf
import Derived.Lib.Strings
import Derived.Lib.Walk
import Derived.Laws.MakeOwn
namespace Go.Proofs.Ytfgapdididdcaaa
open Go.RowKit

theorem info5 : (Try.prog.info? 5).map (fun i => (i.zero, i.size, i.bytes)) = some (some (.int .u8 0), 1, 1) := by kernel_rfl

set_option maxHeartbeats 400000 in
theorem clone_any (s : ByteArray) (w : World) (hlim : s.size ≤ 281474976710656) :
    Calls Try.prog 56 #[.string s] w fun e w' => e = .returned (.string s) ∧ Below w.heap.size w w' := by
  go_enter Try.func56, Try.ntmps56
  go_wp2_with (go_at_call 62; refine (Try.stringslite_Clone _ _ hlim).mono ?_; rintro e w1 ⟨rfl, hb1⟩)
  go_ret
  exact ⟨rfl, hb1⟩

end Go.Proofs.Ytfgapdididdcaaa
