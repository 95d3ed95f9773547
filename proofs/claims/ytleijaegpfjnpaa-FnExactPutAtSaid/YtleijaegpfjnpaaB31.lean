/-
  Find, Tele.
-/
import Derived.Test.YtleijaegpfjnpaaB07
import Derived.Test.YtleijaegpfjnpaaB12
import Derived.Test.YtleijaegpfjnpaaB19
import Derived.Test.YtleijaegpfjnpaaB26
import Derived.Test.YtleijaegpfjnpaaB27
import Derived.Test.YtleijaegpfjnpaaB29
import Derived.Test.YtleijaegpfjnpaaB30
namespace Go.Proofs.Ytleijaegpfjnpaa
open Go.RowKit
def Passed (u : World) : List (Tm × Nat) → List (Tm × Value × Nat) → Prop
 | [], [] => True
 | (t, i) :: p, (t', s, i') :: q => t' = t ∧ i' = i ∧ SlIn u 0 t.kids s ∧ Passed u p q
 | _, _ => False
end Go.Proofs.Ytleijaegpfjnpaa
namespace Go.Proofs.Ytleijaegpfjnpaa
def Fits (l : List Tm) : Prop := (∀ a ∈ l, a.Valid) ∧ l.length ≤ 8
end Go.Proofs.Ytleijaegpfjnpaa
