/-
  impl.ContractTerm.
-/
import Derived.Test.YtmfeocogkmmocaaContrE
namespace Go.Proofs.Ytmfeocogkmmocaa
open Go.RowKit

def ContrOk (t : Tm) : Prop := t.Valid ∧ t.redex ≠ 0 ∧ t.contr.Valid

end Go.Proofs.Ytmfeocogkmmocaa
