/-
  TeleH.
-/
import Derived.Test.YtihlbbbajaepoaaE04
import Derived.Test.YtihlbbbajaepoaaE06
import Derived.Test.YtihlbbbajaepoaaE11
import Derived.Test.YtihlbbbajaepoaaE12
import Derived.Test.YtihlbbbajaepoaaE17
import Derived.Test.YtihlbbbajaepoaaE20
import Derived.Test.YtihlbbbajaepoaaE30
import Derived.Test.YtihlbbbajaepoaaE32
import Derived.Test.YtihlbbbajaepoaaE35
import Derived.ChangeAlike
import Derived.RegionTactic
namespace Go.Proofs.Ytihlbbbajaepoaa
open Go.RowKit
theorem rowT_made (W : World) (base : Nat) (h : base ≤ W.heap.size) : RowT 0 base [] (.slice (some ⟨W.heap.size, 0, none⟩) 0 0) (W.alloc (.cells #[] 30)) := by
 have := World.ownsRow_made W #[] 0 (base := base) (e := 30) (size := 3) h (by simp [maxLen]) rfl
 exact ⟨[], rfl, by simpa [cellsL] using this, fun x h => by cases h⟩
end Go.Proofs.Ytihlbbbajaepoaa
