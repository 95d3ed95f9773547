/-
  Row.
-/
import Derived.Test.YtihlbbbajaepoaaD01
namespace Go.Proofs.Ytihlbbbajaepoaa
open Go.RowKit
theorem bSet3 {B : Nat} {a w : World} (h : Below B a w) {g : Nat} (hg : B ≤ g) (i j k : Nat) (x y z : Value) : Below B a (((w.setCell ⟨g, i, none⟩ x).setCell ⟨g, j, none⟩ y).setCell ⟨g, k, none⟩ z) :=
 ((h.setCell (p := ⟨g, i, none⟩) hg _).setCell (p := ⟨g, j, none⟩) hg _).setCell (p := ⟨g, k, none⟩) hg _
end Go.Proofs.Ytihlbbbajaepoaa
