/-
  An argument that is a slice of terms: it reads as a list of terms.
-/
import Derived.Test.YtjhjnkeildeedaaOpen
namespace Go.Proofs.Ytjhjnkeildeedaa
open Go.ChangeShapes Go.WideShapes Go.ChangeAt Go.RowKit Go.Deep

section
variable {H : Type} {enc : TypeId × Value → H} {W : World}

end

end Go.Proofs.Ytjhjnkeildeedaa
