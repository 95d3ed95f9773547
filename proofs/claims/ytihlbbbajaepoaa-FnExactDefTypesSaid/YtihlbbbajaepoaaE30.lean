/-
  TeleE.
-/
import Derived.Test.YtihlbbbajaepoaaE06
import Derived.Test.YtihlbbbajaepoaaE11
import Derived.Test.YtihlbbbajaepoaaE12
import Derived.Test.YtihlbbbajaepoaaE17
import Derived.Test.YtihlbbbajaepoaaE21
namespace Go.Proofs.Ytihlbbbajaepoaa
open Go.RowKit
noncomputable def orNil (P : Prop) (l : List Tm) : List Tm := @ite _ P (Classical.propDecidable P) l []
theorem orNil_sizes {P : Prop} {l : List Tm} (h : P → sizes l ≤ 1000000) : sizes (orNil P l) ≤ 1000000 := by
 unfold orNil
 split
 ·rename_i hp; exact h hp
 ·simp [sizes]
end Go.Proofs.Ytihlbbbajaepoaa
