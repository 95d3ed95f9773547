/-
  impl.ContractTerm.
-/
import Derived.Test.YtmfeocogkmmocaaGreatContrE
namespace Go.Proofs.YtmfeocogkmmocaaGreat
open Go.RowKit

def ContrOk (t : Tm) : Prop := t.Valid ∧ t.redex ≠ 0 ∧ t.contr.Valid

end Go.Proofs.YtmfeocogkmmocaaGreat
