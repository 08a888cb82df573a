/-
  Walks: kids of a node, by the specification.
-/
import Derived.Test.YtnkdichgdnghcaaTreeP
import Derived.Test.YtnkdichgdnghcaaChecked
import Derived.BigQuiet
import Derived.WalkSmall
import Derived.Deep.RegionHeld3
namespace Go.Proofs.Ytnkdichgdnghcaa
open Go.RowKit

end Go.Proofs.Ytnkdichgdnghcaa
