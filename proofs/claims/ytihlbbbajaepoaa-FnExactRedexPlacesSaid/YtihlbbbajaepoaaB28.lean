/-
  Arnd.
-/
import Derived.Test.YtihlbbbajaepoaaB04
import Derived.Test.YtihlbbbajaepoaaB10
import Derived.Test.YtihlbbbajaepoaaB15
import Derived.Test.YtihlbbbajaepoaaB20
import Derived.Test.YtihlbbbajaepoaaB21
import Derived.Test.YtihlbbbajaepoaaB23
import Derived.Test.YtihlbbbajaepoaaB24
import Derived.Test.YtihlbbbajaepoaaB27
import Derived.Deep.DeepCutAuto
import Derived.LoopIn
import Derived.LoopNIn
import Derived.OwnWalk
import Derived.OwnWalkIn
import Derived.RangeFuncBound
import Derived.RangeFuncCalls
import Derived.RangeFuncLeaves
import Derived.RangeFuncNested
import Derived.Shelf.Abstract
import Derived.Shelf.RegionOpen
import Derived.TacticsInMore
import Derived.WalkKit
namespace Go.Proofs.Ytihlbbbajaepoaa
open Go.RowKit Go.Shelf
attribute [local go_sem] Oper.semAt_some
def entry (qs : List (Tm × Value × Nat)) (j : Nat) : Tm × Value × Nat := qs[j]?.getD (zeroT, .slice none 0 0, 0)
theorem stkCells_get : ∀ (qs : List (Tm × Value × Nat)) (j : Nat), j < qs.length → (stkCells qs)[j * 4]? = some (.int .i64 (entry qs j).1.kind) ∧ (stkCells qs)[j * 4 + 1]? = some (.int .i64 (entry qs j).1.num) ∧ (stkCells qs)[j * 4 + 2]? = some (entry qs j).2.1 ∧ (stkCells qs)[j * 4 + 3]? = some (.int .i64 ((entry qs j).2.2 : Int))
 | [], j, h => by simp at h
 | (t, s, i) :: r, 0, _ => ⟨rfl, rfl, rfl, rfl⟩
 | (t, s, i) :: r, j + 1, h => by
  have ih := stkCells_get r j (by simpa using h)
  have e : entry ((t, s, i) :: r) (j + 1) = entry r j := rfl
  rw [e]
  have h4 : (j + 1) * 4 = j * 4 + 1 + 1 + 1 + 1 := by omega
  simp only [stkCells, h4, List.getElem?_cons_succ, show j * 4 + 1 + 1 + 1 + 1 + 1 = j * 4 + 1 + 1 + 1 + 1 + 1 from rfl]
  exact ih
end Go.Proofs.Ytihlbbbajaepoaa
namespace Go.Proofs.Ytihlbbbajaepoaa
open Go.RowKit
end Go.Proofs.Ytihlbbbajaepoaa
namespace Go.Proofs.Ytihlbbbajaepoaa
open Go.RowKit Go.Shelf
attribute [local go_sem] Oper.semAt_some
theorem keepsFrom_of_below {W W2 : World} (h : Below W.heap.size W W2) (B : Nat) : KeepsFrom B W W2 := ⟨h.size, fun k _ _ hk _ => (h.block k (Array.getElem?_eq_some_iff.1 hk).1).trans hk⟩
end Go.Proofs.Ytihlbbbajaepoaa
