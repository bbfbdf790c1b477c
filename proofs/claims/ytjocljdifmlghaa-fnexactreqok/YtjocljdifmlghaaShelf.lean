/- No function of the library is called by what this seat's statements reach: no contract of it is laid. -/
import Derived.Test.YtjocljdifmlghaaProg
import Derived.WalkKit
import Derived.Below
namespace Go.Proofs.Ytjocljdifmlghaa
end Go.Proofs.Ytjocljdifmlghaa
