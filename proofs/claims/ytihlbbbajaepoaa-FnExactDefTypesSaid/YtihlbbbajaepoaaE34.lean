/-
  NodeX.
-/
import Derived.Test.YtihlbbbajaepoaaE10
import Derived.Test.YtihlbbbajaepoaaE31
import Derived.OwnWalk
namespace Go.Proofs.Ytihlbbbajaepoaa
open Go.RowKit
theorem SlX.less {w : World} {X Y : Nat → Prop} {l : List Tm} {v : Value} (h : SlX w Y l v) (hXY : ∀ i, X i → Y i) : SlX w X l v :=
 h.to fun _ _ hn hc => ⟨fun hx => hn (hXY _ hx), hc⟩
end Go.Proofs.Ytihlbbbajaepoaa
