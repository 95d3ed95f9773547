/-
  FindP.
-/
import Derived.Test.YtleijaegpfjnpaaB07
import Derived.Test.YtleijaegpfjnpaaB12
import Derived.Test.YtleijaegpfjnpaaB19
namespace Go.Proofs.Ytleijaegpfjnpaa
def kidT (t : Tm) (i : Nat) : Tm := t.kids.getD i zeroT
section
variable (rl mo : Bool)
end
def around : List (Tm × Nat) → Tm → Tm
 | [], x => x
 | (t, i) :: p, x => .mk t.kind t.num (t.kids.set i (around p x))
section
variable {rl mo : Bool}
end
end Go.Proofs.Ytleijaegpfjnpaa
