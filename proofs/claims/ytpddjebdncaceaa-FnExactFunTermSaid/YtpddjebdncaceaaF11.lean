/-
  Grow.
-/
import Derived.Test.YtpddjebdncaceaaF06
import Derived.Deep.AppendLies
import Derived.Laws.AppendOwn
import Derived.OwnWalk
import Derived.ProofKit
import Derived.Test.YtpddjebdncaceaaProg
import Derived.WalkSpells
namespace Go.Proofs.Ytpddjebdncaceaa
open Go.RowKit
theorem info_termG : (Try.prog.info? 24).map (fun i => (i.zero, i.size, i.bytes)) = some (some (.agg #[.int .i64 0, .int .i64 0, .slice none 0 0]), 3, 40) := by kernel_rfl
theorem grown_none {w w' : World} (hb : Below w.heap.size w w') : w.grownBy w' none := ⟨hb.os, hb.tape, hb.output, hb.size, fun k hk _ => hb.block k hk⟩
theorem cellsL_append : ∀ a b : List (Tm × Value), cellsL (a ++ b) = cellsL a ++ cellsL b
 | [], b => rfl
 | (t, s) :: a, b => by simp only [List.cons_append, cellsL, cellsL_append a b]
end Go.Proofs.Ytpddjebdncaceaa
