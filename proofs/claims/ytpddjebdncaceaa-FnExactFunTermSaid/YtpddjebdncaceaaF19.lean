/-
  SpecK.
-/
import Derived.Test.YtpddjebdncaceaaF03
import Derived.Test.YtpddjebdncaceaaF04
import Derived.Test.YtpddjebdncaceaaF07
import Derived.Test.YtpddjebdncaceaaF08
import Derived.Test.YtpddjebdncaceaaF11
import Derived.Test.YtpddjebdncaceaaF12
import Derived.Deep.RegionHeld3
import Derived.IntWalk
import Derived.RowKit
namespace Go.Proofs.Ytpddjebdncaceaa
open Go.RowKit
theorem SlIn.set3 {w : World} {B g i j k : Nat} {l : List Tm} {v x y z : Value} (h : SlIn w B l v) (hg : g < B) : SlIn (((w.setCell ⟨g, i, none⟩ x).setCell ⟨g, j, none⟩ y).setCell ⟨g, k, none⟩ z) B l v :=
 ((h.setCell (p := ⟨g, i, none⟩) hg _).setCell (p := ⟨g, j, none⟩) hg _).setCell (p := ⟨g, k, none⟩) hg _
end Go.Proofs.Ytpddjebdncaceaa
