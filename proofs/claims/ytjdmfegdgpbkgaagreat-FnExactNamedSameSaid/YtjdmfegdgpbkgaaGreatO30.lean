/-
  CurE, CurF.
-/
import Derived.Test.YtjdmfegdgpbkgaaGreatO29
namespace Go.Proofs.YtjdmfegdgpbkgaaGreat
open Go.RowKit
set_option linter.unusedVariables false
theorem SlOwn.turn {g : Nat} {w w' : World} {l : List Tm} {v : Value} {F : List Nat} (h : SlOwn w l v F) (ht : Turn g w w') (hF : ∀ y ∈ F, y < w.heap.size ∧ y ≠ g) : SlOwn w' l v F :=
 h.keep fun y hy => SameAt.of_block (ht.block (hF y hy).1 (hF y hy).2)
end Go.Proofs.YtjdmfegdgpbkgaaGreat
namespace Go.Proofs.YtjdmfegdgpbkgaaGreat
open Go.RowKit
set_option linter.unusedVariables false
theorem ctPlain_zero (s : ByteArray) (f : Nat → Nat → Option (Tm × Nat × Nat)) (a c : Nat) : ctPlain s f 0 a c = none := rfl
end Go.Proofs.YtjdmfegdgpbkgaaGreat
