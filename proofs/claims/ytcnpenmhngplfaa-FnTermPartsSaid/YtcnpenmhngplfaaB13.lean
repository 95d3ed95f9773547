/-
  Trav.
-/
import Derived.Test.YtcnpenmhngplfaaB02
import Derived.Deep.RegionHeld3
import Derived.ProofKit
import Derived.RowKit
import Derived.Test.YtcnpenmhngplfaaProg
import Derived.WalkSpells
namespace Go.Proofs.Ytcnpenmhngplfaa
open Go.RowKit
theorem mem_hgts {l : List Tm} {i : Nat} (h : i < l.length) : l[i].hgt ≤ hgts l := (hgts_le l (hgts l)).1 (Nat.le_refl _) _ (List.getElem_mem h)
end Go.Proofs.Ytcnpenmhngplfaa
