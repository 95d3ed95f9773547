/-
  Sub.
-/
import Derived.Test.YtpddjebdncaceaaGreatB11
namespace Go.Proofs.YtpddjebdncaceaaGreat
open Go.RowKit
def zeroT : Tm := .mk 0 0 []
end Go.Proofs.YtpddjebdncaceaaGreat
