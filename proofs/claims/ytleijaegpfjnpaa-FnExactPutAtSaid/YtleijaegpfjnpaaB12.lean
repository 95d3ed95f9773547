/-
  Bind, Sub.
-/
import Derived.Test.YtleijaegpfjnpaaB04
import Derived.RowKit
namespace Go.Proofs.Ytleijaegpfjnpaa
open Go.RowKit
def under (k : Int) (i : Nat) : Int := if i = 1 ∧ (k = 3 ∨ k = 4 ∨ k = 13) then 1 else 0
theorem under_01 (k : Int) (i : Nat) : 0 ≤ under k i ∧ under k i ≤ 1 := by unfold under; split <;> omega
section
variable {S : Type} (f : S → Tm → Int → Int → Option S)
end
section
variable (ρ : Int → Int → Tm)
end
section
variable (ok : Int → Int → Prop)
end
end Go.Proofs.Ytleijaegpfjnpaa
namespace Go.Proofs.Ytleijaegpfjnpaa
open Go.RowKit
def zeroT : Tm := .mk 0 0 []
noncomputable def orZero (p : Prop) (t : Tm) : Tm := @ite _ p (Classical.propDecidable p) t zeroT
end Go.Proofs.Ytleijaegpfjnpaa
