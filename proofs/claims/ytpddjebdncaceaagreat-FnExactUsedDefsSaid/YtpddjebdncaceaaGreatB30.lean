/-
  IntG.
-/
import Derived.Test.YtpddjebdncaceaaGreatB20
import Derived.Test.YtpddjebdncaceaaGreatB28
import Derived.Test.YtpddjebdncaceaaGreatB29
namespace Go.Proofs.YtpddjebdncaceaaGreat
open Go.RowKit
def OwnN (base n : Nat) (N : Int → Int) (v : Value) (w : World) : Prop := w.ownsRow base 3 1 v n ((List.range n).map fun j : Nat => Value.int .i64 (N j))
theorem OwnN.push {base n : Nat} {N : Int → Int} {v' : Value} {w1 : World} (h : w1.ownsRow base 3 1 v' (n + 1) (((List.range n).map fun j : Nat => Value.int .i64 (N j)) ++ [.int .i64 (N n)])) : OwnN base (n + 1) N v' w1 := by
 unfold OwnN
 rw [List.range_succ, List.map_append]
 exact h
theorem OwnN.below {base n : Nat} {N : Int → Int} {v : Value} {w w' : World} (h : OwnN base n N v w) (hb : Below w.heap.size w w') : OwnN base n N v w' := by
 have h' : w.ownsRow base 3 1 v n _ := h
 refine h'.kept (grown_none hb) ?_
 cases v.ownBlock with
 | none => exact Or.inl rfl
 | some g => exact Or.inr (by simp)
theorem OwnN.form {base n : Nat} {N : Int → Int} {v : Value} {w : World} (h : OwnN base n N v w) : ∃ a cap, v = .slice a n cap := by
 rcases h.2 with ⟨h1, h2⟩ | ⟨g, cap, _, h1, _⟩
 ·exact ⟨none, 0, by rw [h1, h2]⟩
 ·exact ⟨_, _, h1⟩
theorem OwnN.lt {base n : Nat} {N : Int → Int} {v : Value} {w : World} (h : OwnN base n N v w) : ∀ g, v.ownBlock = some g → base ≤ g ∧ g < w.heap.size := World.ownsRow.lt h
theorem OwnN.after {base n : Nat} {N : Int → Int} {v : Value} {W wr w1 : World} {o : Obj} (h : OwnN base n N v wr) (hb : Below base W wr) (hB : base ≤ wr.heap.size) (hg : (wr.alloc o).grownBy w1 v.ownBlock) : Below base W w1 :=
 bGrown hg (Nat.le_trans hB (below1 wr o).size) (fun g hg => (h.lt g hg).1) (hb.alloc hB o)
end Go.Proofs.YtpddjebdncaceaaGreat
