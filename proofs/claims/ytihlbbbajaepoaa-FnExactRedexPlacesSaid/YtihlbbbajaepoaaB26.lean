/-
  FindP.
-/
import Derived.Test.YtihlbbbajaepoaaB25
namespace Go.Proofs.Ytihlbbbajaepoaa
def kidT (t : Tm) (i : Nat) : Tm := t.kids.getD i zeroT
section
variable (rl mo : Bool)
end
section
variable {rl mo : Bool}
end
end Go.Proofs.Ytihlbbbajaepoaa
