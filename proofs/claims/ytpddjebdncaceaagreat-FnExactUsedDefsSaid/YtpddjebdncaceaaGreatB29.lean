/-
  Node.
-/
import Derived.Test.YtpddjebdncaceaaGreatB10
import Derived.OwnWalk
namespace Go.Proofs.YtpddjebdncaceaaGreat
open Go.RowKit
theorem bGrown {w w' : World} {v : Value} (h : w.grownBy w' v.ownBlock) {B : Nat} (hB : B ≤ w.heap.size) (hv : ∀ g, v.ownBlock = some g → B ≤ g) {a : World} (ha : Below B a w) : Below B a w' := ha.grown h hB hv
end Go.Proofs.YtpddjebdncaceaaGreat
