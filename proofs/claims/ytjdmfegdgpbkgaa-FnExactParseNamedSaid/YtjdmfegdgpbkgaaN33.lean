/-
  CurF.
-/
import Derived.Test.YtjdmfegdgpbkgaaN32
namespace Go.Proofs.Ytjdmfegdgpbkgaa
open Go.RowKit
set_option linter.unusedVariables false
theorem ctPlain_zero (s : ByteArray) (f : Nat → Nat → Option (Tm × Nat × Nat)) (a c : Nat) : ctPlain s f 0 a c = none := rfl
end Go.Proofs.Ytjdmfegdgpbkgaa
