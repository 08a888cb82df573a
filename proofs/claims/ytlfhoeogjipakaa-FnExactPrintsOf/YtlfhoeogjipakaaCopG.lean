/-
  Walks: Gate copied, by the specification.
-/
import Derived.Test.YtlfhoeogjipakaaFlG
import Derived.Test.YtlfhoeogjipakaaCopP
namespace Go.Proofs.Ytlfhoeogjipakaa
open Go.RowKit

end Go.Proofs.Ytlfhoeogjipakaa
