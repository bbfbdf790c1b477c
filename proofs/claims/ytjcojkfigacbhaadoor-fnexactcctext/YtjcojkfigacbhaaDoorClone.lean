/- 'strings.Clone' at this program: the same bytes, in new memory. -/
import Derived.Test.YtjcojkfigacbhaaDoorClass
import Derived.Test.YtjcojkfigacbhaaDoorShelf
import Derived.Lib.Strings
import Derived.Lib.Walk
import Derived.Laws.MakeOwn
namespace Go.Proofs.YtjcojkfigacbhaaDoor
open Go.RowKit

theorem info5 : (Tryd.prog.info? 5).map (fun i => (i.zero, i.size, i.bytes)) = some (some (.int .u8 0), 1, 1) := by kernel_rfl

end Go.Proofs.YtjcojkfigacbhaaDoor
