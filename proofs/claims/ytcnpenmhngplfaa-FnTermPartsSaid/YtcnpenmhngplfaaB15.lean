/-
  LawT.
-/
import Derived.Test.YtcnpenmhngplfaaB01
import Derived.Test.YtcnpenmhngplfaaB05
import Derived.Test.YtcnpenmhngplfaaB12
import Derived.Test.YtcnpenmhngplfaaB14
import Derived.Laws.MakeOwn
import Derived.ProofKit
import Derived.StillTailTactics
import Derived.Test.YtcnpenmhngplfaaProg
import Derived.WalkSpells
namespace Go.Proofs.Ytcnpenmhngplfaa
open Go.RowKit
end Go.Proofs.Ytcnpenmhngplfaa
namespace Go.Proofs.Ytcnpenmhngplfaa
open Go.RowKit
end Go.Proofs.Ytcnpenmhngplfaa
namespace Go.Proofs.Ytcnpenmhngplfaa
open Go.RowKit
theorem sameAt_set {w : World} {p : Addr} {u : Value} {g : Nat} (h : g ≠ p.block) : SameAt w (w.setCell p u) g := SameAt.of_block (Below.heap_setCell w p u g h)
theorem SameAt.trans {a b c : World} {g : Nat} (h : SameAt a b g) (k : SameAt b c g) : SameAt a c g := fun i => ⟨(k i).1.trans (h i).1, (k i).2.trans (h i).2⟩
end Go.Proofs.Ytcnpenmhngplfaa
namespace Go.Proofs.Ytcnpenmhngplfaa
open Go.RowKit
end Go.Proofs.Ytcnpenmhngplfaa
namespace Go.Proofs.Ytcnpenmhngplfaa
open Go.RowKit
end Go.Proofs.Ytcnpenmhngplfaa
