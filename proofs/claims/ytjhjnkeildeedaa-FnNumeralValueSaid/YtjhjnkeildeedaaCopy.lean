/-
  impl.termBuffer: what it holds ('BufAt'); add, addVar. impl.termBuffer: addVar, copyTerm, insert: a term is written with others in the place of its free variables.
-/
import Derived.Test.YtjhjnkeildeedaaFree
import Derived.Deep.RegionLaw
import Derived.Deep.AppendLies
import Derived.OwnWalk
import Derived.Laws.AppendOwn
import Derived.Test.YtjhjnkeildeedaaSub
namespace Go.Proofs.Ytjhjnkeildeedaa
open Go.RowKit

/-- The cells of a row of nodes. -/
def nodeCells : Nodes → List Value
  | [] => []
  | (k, n, m) :: s => .int .i64 k :: .int .i64 n :: .int .i64 m :: nodeCells s
theorem nodeCells_append : ∀ s t : Nodes, nodeCells (s ++ t) = nodeCells s ++ nodeCells t
  | [], t => rfl
  | (k, n, m) :: s, t => by simp only [List.cons_append, nodeCells, nodeCells_append s t]
theorem nodeCells_length : ∀ s : Nodes, (nodeCells s).length = s.length * 3
  | [] => rfl
  | (k, n, m) :: s => by simp only [nodeCells, List.length_cons, nodeCells_length s]; omega

theorem grown_of_below {w w' : World} (hb : Below w.heap.size w w') : w.grownBy w' none := ⟨hb.os, hb.tape, hb.output, hb.size, fun k hk _ => hb.block k hk⟩

theorem own_form {w : World} {base : Nat} {e : TypeId} {size : Nat} {v : Value} {n : Nat} {xs : List Value} (h : w.ownsRow base e size v n xs) : ∃ a cap, v = .slice a n cap := by
  rcases h.2 with ⟨h1, h2⟩ | ⟨g, cap, _, h1, _⟩
  · exact ⟨none, 0, by rw [h1, h2]⟩
  · exact ⟨_, _, h1⟩

theorem below_drew_alloc (w : World) (o : Obj) : Below w.heap.size w (w.alloc o).drew := (below1 w o).drew

end Go.Proofs.Ytjhjnkeildeedaa

namespace Go.Proofs.Ytjhjnkeildeedaa
open Go.RowKit

theorem emit_varT {ok : Prop} {n d : Int} {s : Nodes} (h : s.length ≤ 400) : emit ok (varT n) d s = @ite _ ok (Classical.propDecidable _) (addNode 1 n 0 d s) none := emit_leaf h

theorem emit_iff {p q : Prop} (h : p ↔ q) (r : Tm) (d : Int) (s : Nodes) : emit p r d s = emit q r d s := by rw [propext h]
theorem emit_not {p : Prop} (h : ¬ p) (r : Tm) (d : Int) (s : Nodes) : emit p r d s = none := by unfold emit; rw [if_neg (fun e => h e.1)]

end Go.Proofs.Ytjhjnkeildeedaa
