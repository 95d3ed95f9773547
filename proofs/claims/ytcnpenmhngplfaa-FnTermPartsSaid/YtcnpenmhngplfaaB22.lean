/-
  SpecK.
-/
import Derived.Test.YtcnpenmhngplfaaB03
import Derived.Test.YtcnpenmhngplfaaB10
namespace Go.Proofs.Ytcnpenmhngplfaa
open Go.RowKit
theorem SlIn.set3 {w : World} {B g i j k : Nat} {l : List Tm} {v x y z : Value} (h : SlIn w B l v) (hg : g < B) : SlIn (((w.setCell ⟨g, i, none⟩ x).setCell ⟨g, j, none⟩ y).setCell ⟨g, k, none⟩ z) B l v :=
 ((h.setCell (p := ⟨g, i, none⟩) hg _).setCell (p := ⟨g, j, none⟩) hg _).setCell (p := ⟨g, k, none⟩) hg _
end Go.Proofs.Ytcnpenmhngplfaa
