/-
  Contracts of the cursor's take, of Cut and Ends.
-/
import Derived.Test.YtebkgndcgcdogaaChB
import Derived.Test.YtebkgndcgcdogaaClone
import Derived.Test.YtebkgndcgcdogaaKit2
import Derived.Deep.RegionLaw
import Derived.Deep.AppendLies
import Derived.Lib.Builder
namespace Go.Proofs.Ytebkgndcgcdogaa
open Go.RowKit
set_option maxHeartbeats 1000000

end Go.Proofs.Ytebkgndcgcdogaa
