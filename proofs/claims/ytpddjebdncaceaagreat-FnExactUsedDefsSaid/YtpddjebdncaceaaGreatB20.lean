/-
  Grow.
-/
import Derived.Test.YtpddjebdncaceaaGreatB09
import Derived.Deep.AppendLies
import Derived.Laws.AppendOwn
import Derived.OwnWalk
import Derived.ProofKit
import Derived.Test.YtpddjebdncaceaaGreatProg
import Derived.WalkSpells
namespace Go.Proofs.YtpddjebdncaceaaGreat
open Go.RowKit
theorem grown_none {w w' : World} (hb : Below w.heap.size w w') : w.grownBy w' none := ⟨hb.os, hb.tape, hb.output, hb.size, fun k hk _ => hb.block k hk⟩
end Go.Proofs.YtpddjebdncaceaaGreat
