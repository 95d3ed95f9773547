/-
  Sub, Trav.
-/
import Derived.Test.YtkjfdhdmkaofeaaB02
import Derived.Deep.RegionHeld3
import Derived.ProofKit
import Derived.RowKit
import Derived.Test.YtkjfdhdmkaofeaaProg
import Derived.WalkSpells
namespace Go.Proofs.Ytkjfdhdmkaofeaa
open Go.RowKit
theorem mem_hgts {l : List Tm} {i : Nat} (h : i < l.length) : l[i].hgt ≤ hgts l := (hgts_le l (hgts l)).1 (Nat.le_refl _) _ (List.getElem_mem h)
end Go.Proofs.Ytkjfdhdmkaofeaa
namespace Go.Proofs.Ytkjfdhdmkaofeaa
open Go.RowKit
def zeroT : Tm := .mk 0 0 []
noncomputable def orZero (p : Prop) (t : Tm) : Tm := @ite _ p (Classical.propDecidable p) t zeroT
end Go.Proofs.Ytkjfdhdmkaofeaa
