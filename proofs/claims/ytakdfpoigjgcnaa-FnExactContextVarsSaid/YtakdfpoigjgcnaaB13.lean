/-
  Sub.
-/
import Derived.Test.YtakdfpoigjgcnaaB04
import Derived.RowKit
namespace Go.Proofs.Ytakdfpoigjgcnaa
open Go.RowKit
def zeroT : Tm := .mk 0 0 []
noncomputable def orZero (p : Prop) (t : Tm) : Tm := @ite _ p (Classical.propDecidable p) t zeroT
end Go.Proofs.Ytakdfpoigjgcnaa
