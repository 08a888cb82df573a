/-
  Walks: a program that came in, copied, by the laws' own helpers: rows of nodes, entries.
-/
import Derived.Test.YtdfncefjdeagdaaLawT
import Derived.Test.YtdfncefjdeagdaaTreeY
namespace Go.Proofs.Ytdfncefjdeagdaa
open Go.RowKit

end Go.Proofs.Ytdfncefjdeagdaa
