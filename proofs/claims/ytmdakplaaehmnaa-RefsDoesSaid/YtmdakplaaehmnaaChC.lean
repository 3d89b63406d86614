/-
  Contracts of the cursor's take, of Cut and Ends.
-/
import Derived.Test.YtmdakplaaehmnaaChB
import Derived.Test.YtmdakplaaehmnaaClone
import Derived.Test.YtmdakplaaehmnaaKit2
import Derived.Deep.RegionLaw
import Derived.Deep.AppendLies
import Derived.Lib.Builder
namespace Go.Proofs.Ytmdakplaaehmnaa
open Go.RowKit
set_option maxHeartbeats 1000000

end Go.Proofs.Ytmdakplaaehmnaa
