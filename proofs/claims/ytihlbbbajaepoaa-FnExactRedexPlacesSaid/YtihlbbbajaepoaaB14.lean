/-
  Copy.
-/
import Derived.Test.YtihlbbbajaepoaaB12
import Derived.Test.YtihlbbbajaepoaaB13
import Derived.Deep.AppendLies
import Derived.Deep.RegionLaw
import Derived.Laws.AppendOwn
import Derived.OwnWalk
namespace Go.Proofs.Ytihlbbbajaepoaa
open Go.RowKit
theorem grown_of_below {w w' : World} (hb : Below w.heap.size w w') : w.grownBy w' none := ⟨hb.os, hb.tape, hb.output, hb.size, fun k hk _ => hb.block k hk⟩
theorem own_form {w : World} {base : Nat} {e : TypeId} {size : Nat} {v : Value} {n : Nat} {xs : List Value} (h : w.ownsRow base e size v n xs) : ∃ a cap, v = .slice a n cap := by
 rcases h.2 with ⟨h1, h2⟩ | ⟨g, cap, _, h1, _⟩
 ·exact ⟨none, 0, by rw [h1, h2]⟩
 ·exact ⟨_, _, h1⟩
theorem below_drew_alloc (w : World) (o : Obj) : Below w.heap.size w (w.alloc o).drew := (below1 w o).drew
end Go.Proofs.Ytihlbbbajaepoaa
namespace Go.Proofs.Ytihlbbbajaepoaa
open Go.RowKit
end Go.Proofs.Ytihlbbbajaepoaa
