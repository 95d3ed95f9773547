/-
  Sub.
-/
import Derived.Test.YtjdmfegdgpbkgaaN03
import Derived.RowKit
namespace Go.Proofs.Ytjdmfegdgpbkgaa
open Go.RowKit
def zeroT : Tm := .mk 0 0 []
end Go.Proofs.Ytjdmfegdgpbkgaa
