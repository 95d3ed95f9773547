/-
  FindP.
-/
import Derived.Test.YtakdfpoigjgcnaaB07
import Derived.Test.YtakdfpoigjgcnaaB13
import Derived.Test.YtakdfpoigjgcnaaB17
namespace Go.Proofs.Ytakdfpoigjgcnaa
def kidT (t : Tm) (i : Nat) : Tm := t.kids.getD i zeroT
section
variable (rl mo : Bool)
end
section
variable {rl mo : Bool}
end
end Go.Proofs.Ytakdfpoigjgcnaa
