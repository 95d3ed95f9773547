/-
  Find.
-/
import Derived.Test.YtihlbbbajaepoaaB23
import Derived.Test.YtihlbbbajaepoaaB24
import Derived.Test.YtihlbbbajaepoaaB25
import Derived.Test.YtihlbbbajaepoaaB26
namespace Go.Proofs.Ytihlbbbajaepoaa
open Go.RowKit
def Passed (u : World) : List (Tm × Nat) → List (Tm × Value × Nat) → Prop
 | [], [] => True
 | (t, i) :: p, (t', s, i') :: q => t' = t ∧ i' = i ∧ SlIn u 0 t.kids s ∧ Passed u p q
 | _, _ => False
end Go.Proofs.Ytihlbbbajaepoaa
