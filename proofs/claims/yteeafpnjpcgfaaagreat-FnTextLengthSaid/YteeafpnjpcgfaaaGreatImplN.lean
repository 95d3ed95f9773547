/-
  The model's CountNodes.
-/
import Derived.Test.YteeafpnjpcgfaaaGreatImplB
namespace Go.Proofs.YteeafpnjpcgfaaaGreat
open Go.RowKit

end Go.Proofs.YteeafpnjpcgfaaaGreat
