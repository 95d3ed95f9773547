/-
  Sub.
-/
import Derived.Test.YtihlbbbajaepoaaB03
import Derived.RowKit
namespace Go.Proofs.Ytihlbbbajaepoaa
open Go.RowKit
def zeroT : Tm := .mk 0 0 []
end Go.Proofs.Ytihlbbbajaepoaa
