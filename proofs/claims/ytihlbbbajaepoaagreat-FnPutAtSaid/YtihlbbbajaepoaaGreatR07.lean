/-
  SFree, Sub.
-/
import Derived.Test.YtihlbbbajaepoaaGreatR02
import Derived.Deep.RegionHeld3
import Derived.IntWalk
import Derived.RowKit
namespace Go.Proofs.YtihlbbbajaepoaaGreat
open Go.RowKit
def zeroT : Tm := .mk 0 0 []
noncomputable def orZero (p : Prop) (t : Tm) : Tm := @ite _ p (Classical.propDecidable p) t zeroT
end Go.Proofs.YtihlbbbajaepoaaGreat
namespace Go.Proofs.YtihlbbbajaepoaaGreat
open Go.RowKit
theorem valid_bounds {t : Tm} (h : t.Valid) : sizes t.kids ≤ 399 ∧ hgts t.kids ≤ 29 := by
 have h1 := h.2.1
 have h2 := h.2.2
 rw [Tm.hgt_eq] at h1
 rw [Tm.size_eq] at h2
 omega
end Go.Proofs.YtihlbbbajaepoaaGreat
