/-
  impl.StepTerm, impl.StepInner.
-/
import Derived.Test.YtmfeocogkmmocaaGreatStepJ
namespace Go.Proofs.YtmfeocogkmmocaaGreat
open Go.RowKit

set_option maxRecDepth 100000 in
theorem fromInside_any (w : World) : Calls Tryz.prog 27 #[] w fun e w' => e = .returned (.agg #[.bool true, .bool false]) ∧ Below w.heap.size w w' := by
  go_enter Tryz.func27, Tryz.ntmps27
  go_wp2_with fail
  refine bodyPost_ret (v := .agg #[.bool true, .bool false]) (by simp [results, Tryz.results27, go_sem, *]) rfl ⟨rfl, ?_⟩
  first | exact below1 _ _ | exact ((below1 _ _).setCell (Nat.le_refl _) _).setCell (Nat.le_refl _) _ | exact (below1 _ _).setCell (Nat.le_refl _) _

end Go.Proofs.YtmfeocogkmmocaaGreat
