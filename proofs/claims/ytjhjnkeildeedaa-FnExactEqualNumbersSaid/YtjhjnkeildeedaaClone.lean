/-
  impl.cloneTerm: the same term, in memory of its own.
-/
import Derived.Test.YtjhjnkeildeedaaSpecT
import Derived.Test.YtjhjnkeildeedaaNext
namespace Go.Proofs.Ytjhjnkeildeedaa
open Go.RowKit

end Go.Proofs.Ytjhjnkeildeedaa
