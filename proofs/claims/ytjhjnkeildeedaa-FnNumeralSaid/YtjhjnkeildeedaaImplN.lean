/-
  The model's CountNodes.
-/
import Derived.Test.YtjhjnkeildeedaaImplB
namespace Go.Proofs.Ytjhjnkeildeedaa
open Go.RowKit

end Go.Proofs.Ytjhjnkeildeedaa
