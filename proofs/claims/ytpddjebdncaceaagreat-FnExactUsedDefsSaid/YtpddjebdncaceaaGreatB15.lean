/-
  Copy.
-/
import Derived.Test.YtpddjebdncaceaaGreatB13
import Derived.Test.YtpddjebdncaceaaGreatB14
import Derived.Deep.AppendLies
import Derived.Deep.RegionLaw
import Derived.Laws.AppendOwn
import Derived.OwnWalk
namespace Go.Proofs.YtpddjebdncaceaaGreat
open Go.RowKit
theorem below_drew_alloc (w : World) (o : Obj) : Below w.heap.size w (w.alloc o).drew := (below1 w o).drew
end Go.Proofs.YtpddjebdncaceaaGreat
namespace Go.Proofs.YtpddjebdncaceaaGreat
open Go.RowKit
end Go.Proofs.YtpddjebdncaceaaGreat
