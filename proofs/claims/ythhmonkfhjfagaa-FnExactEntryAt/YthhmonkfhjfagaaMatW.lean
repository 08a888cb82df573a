/-
  Walks: the place of a monitor by its name, by both sides.
-/
import Derived.Test.YthhmonkfhjfagaaChecked
import Derived.Test.YthhmonkfhjfagaaMatP
import Derived.Test.YthhmonkfhjfagaaTreeX
import Derived.BigQuiet
import Derived.WalkSmall
namespace Go.Proofs.Ythhmonkfhjfagaa
open Go.RowKit

end Go.Proofs.Ythhmonkfhjfagaa
