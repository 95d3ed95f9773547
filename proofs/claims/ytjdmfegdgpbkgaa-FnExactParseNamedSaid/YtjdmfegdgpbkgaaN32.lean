/-
  CurE.
-/
import Derived.Test.YtjdmfegdgpbkgaaN31
namespace Go.Proofs.Ytjdmfegdgpbkgaa
open Go.RowKit
set_option linter.unusedVariables false
theorem SlOwn.turn {g : Nat} {w w' : World} {l : List Tm} {v : Value} {F : List Nat} (h : SlOwn w l v F) (ht : Turn g w w') (hF : ∀ y ∈ F, y < w.heap.size ∧ y ≠ g) : SlOwn w' l v F :=
 h.keep fun y hy => SameAt.of_block (ht.block (hF y hy).1 (hF y hy).2)
end Go.Proofs.Ytjdmfegdgpbkgaa
