/-
  Sub.
-/
import Derived.Test.YtpddjebdncaceaaF03
import Derived.RowKit
namespace Go.Proofs.Ytpddjebdncaceaa
open Go.RowKit
def zeroT : Tm := .mk 0 0 []
end Go.Proofs.Ytpddjebdncaceaa
