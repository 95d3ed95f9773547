/-
  Num.
-/
import Derived.Test.YtlbikgnanabjgaaGreatQ05
import Derived.ProofKit
import Derived.Test.YtlbikgnanabjgaaGreatProg
import Derived.WalkSpells
namespace Go.Proofs.YtlbikgnanabjgaaGreat
open Go.RowKit
def Made (B : Nat) (t : Tm) (v : Value) (w : World) : Prop := ∃ s F, v = .agg #[.int .i64 t.kind, .int .i64 t.num, s] ∧ SlOwn w t.kids s F ∧ F.Nodup ∧ ∀ g ∈ F, B ≤ g ∧ g < w.heap.size
def VarAt (g : Nat) (k n : Int) (s : Value) (w : World) : Prop := w.heap[g]? = some (.cells #[.int .i64 k, .int .i64 n, s] 25 (0, 0))
theorem VarAt.facts {g : Nat} {k n : Int} {s : Value} {w : World} (h : VarAt g k n s w) : g < w.heap.size ∧ w.cell? ⟨g, 0, none⟩ = some (.int .i64 k) ∧ w.cell? ⟨g, 1, none⟩ = some (.int .i64 n) ∧ w.cell? ⟨g, 2, none⟩ = some s ∧ ∀ i, w.frozen? ⟨g, i, none⟩ = false := by
 obtain ⟨h1, h2, h3⟩ := block_of_cells h
 exact ⟨h1, h2 0, h2 1, h2 2, h3⟩
theorem VarAt.below {g : Nat} {k n : Int} {s : Value} {w w' : World} (h : VarAt g k n s w) (hb : Below w.heap.size w w') : VarAt g k n s w' := (hb.block g h.facts.1).trans h
theorem VarAt.far {g : Nat} {k n : Int} {s : Value} {w : World} (h : VarAt g k n s w) {p : Addr} (hp : g ≠ p.block) (u : Value) : VarAt g k n s (w.setCell p u) := (Below.heap_setCell w p u g hp).trans h
theorem VarAt.far3 {g : Nat} {k n : Int} {s : Value} {w : World} (h : VarAt g k n s w) {g' : Nat} (hp : g ≠ g') (a b c : Nat) (x y z : Value) : VarAt g k n s (((w.setCell ⟨g', a, none⟩ x).setCell ⟨g', b, none⟩ y).setCell ⟨g', c, none⟩ z) :=
 ((h.far (p := ⟨g', a, none⟩) hp _).far (p := ⟨g', b, none⟩) hp _).far (p := ⟨g', c, none⟩) hp _
theorem VarAt.set {g : Nat} {k n k' n' : Int} {s s' : Value} {w : World} (h : VarAt g k n s w) : VarAt g k' n' s' (((w.setCell ⟨g, 0, none⟩ (.int .i64 k')).setCell ⟨g, 1, none⟩ (.int .i64 n')).setCell ⟨g, 2, none⟩ s') := by
 have := block_set (block_set (block_set h 0 (.int .i64 k')) 1 (.int .i64 n')) 2 s'
 simpa [VarAt] using this
theorem VarAt.new (w : World) (k n : Int) (s : Value) : VarAt w.heap.size k n s (w.alloc (.cells #[.int .i64 k, .int .i64 n, s] 25)) := heap_new _ _
end Go.Proofs.YtlbikgnanabjgaaGreat
