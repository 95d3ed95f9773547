/-
  SFree.
-/
import Derived.Test.YtihlbbbajaepoaaB03
import Derived.Test.YtihlbbbajaepoaaB04
import Derived.Deep.RegionHeld3
import Derived.IntWalk
import Derived.RowKit
namespace Go.Proofs.Ytihlbbbajaepoaa
open Go.RowKit
theorem valid_bounds {t : Tm} (h : t.Valid) : sizes t.kids ≤ 399 ∧ hgts t.kids ≤ 29 := by
 have h1 := h.2.1
 have h2 := h.2.2
 rw [Tm.hgt_eq] at h1
 rw [Tm.size_eq] at h2
 omega
end Go.Proofs.Ytihlbbbajaepoaa
