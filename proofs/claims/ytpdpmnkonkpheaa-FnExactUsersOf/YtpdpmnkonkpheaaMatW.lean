/-
  Walks: the place of a monitor by its name, by both sides.
-/
import Derived.Test.YtpdpmnkonkpheaaChecked
import Derived.Test.YtpdpmnkonkpheaaMatP
import Derived.Test.YtpdpmnkonkpheaaTreeX
import Derived.BigQuiet
import Derived.WalkSmall
namespace Go.Proofs.Ytpdpmnkonkpheaa
open Go.RowKit

end Go.Proofs.Ytpdpmnkonkpheaa
