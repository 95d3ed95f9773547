/-
  impl.Numeral makes the numeral of a number in memory of its own.
-/
import Derived.Test.YteeafpnjpcgfaaaGreatRow
import Derived.Test.YteeafpnjpcgfaaaGreatProg
import Derived.WalkSpells
import Derived.ProofKit
namespace Go.Proofs.YteeafpnjpcgfaaaGreat
open Go.RowKit

def numKind (q : Nat) : Int := if q = 0 then 7 else 8
theorem numT_kind (q : Nat) : (numT q).kind = numKind q := by cases q <;> rfl
theorem numT_num (q : Nat) : (numT q).num = 0 := by cases q <;> rfl

/-- A term of the call's own: its value, its blocks. -/
def Made (B : Nat) (t : Tm) (v : Value) (w : World) : Prop := ∃ s F, v = .agg #[.int .i64 t.kind, .int .i64 t.num, s] ∧ SlOwn w t.kids s F ∧ F.Nodup ∧ ∀ g ∈ F, B ≤ g ∧ g < w.heap.size

/-- What Numeral leaves. -/
def NumPost (n : Int) (w : World) (e : Ending) (w' : World) : Prop := Below w.heap.size w w' ∧
  ∃ v, e = .returned (.tuple #[v, .bool (decide (0 ≤ n ∧ n ≤ 20))]) ∧ Made w.heap.size (if 0 ≤ n ∧ n ≤ 20 then numT n.toNat else .mk 0 0 []) v w'

/-- A variable of a term's type: a block with the three cells. -/
def VarAt (g : Nat) (k n : Int) (s : Value) (w : World) : Prop := w.heap[g]? = some (.cells #[.int .i64 k, .int .i64 n, s] 29 (0, 0))
theorem VarAt.facts {g : Nat} {k n : Int} {s : Value} {w : World} (h : VarAt g k n s w) : g < w.heap.size ∧ w.cell? ⟨g, 0, none⟩ = some (.int .i64 k) ∧ w.cell? ⟨g, 1, none⟩ = some (.int .i64 n) ∧ w.cell? ⟨g, 2, none⟩ = some s ∧ ∀ i, w.frozen? ⟨g, i, none⟩ = false := by
  obtain ⟨h1, h2, h3⟩ := block_of_cells h
  exact ⟨h1, h2 0, h2 1, h2 2, h3⟩
theorem VarAt.below {g : Nat} {k n : Int} {s : Value} {w w' : World} (h : VarAt g k n s w) (hb : Below w.heap.size w w') : VarAt g k n s w' := (hb.block g h.facts.1).trans h
theorem VarAt.far {g : Nat} {k n : Int} {s : Value} {w : World} (h : VarAt g k n s w) {p : Addr} (hp : g ≠ p.block) (u : Value) : VarAt g k n s (w.setCell p u) := (Below.heap_setCell w p u g hp).trans h
theorem VarAt.far3 {g : Nat} {k n : Int} {s : Value} {w : World} (h : VarAt g k n s w) {g' : Nat} (hp : g ≠ g') (a b c : Nat) (x y z : Value) : VarAt g k n s (((w.setCell ⟨g', a, none⟩ x).setCell ⟨g', b, none⟩ y).setCell ⟨g', c, none⟩ z) :=
  ((h.far (p := ⟨g', a, none⟩) hp _).far (p := ⟨g', b, none⟩) hp _).far (p := ⟨g', c, none⟩) hp _
theorem VarAt.set {g : Nat} {k n k' n' : Int} {s s' : Value} {w : World} (h : VarAt g k n s w) : VarAt g k' n' s' (((w.setCell ⟨g, 0, none⟩ (.int .i64 k')).setCell ⟨g, 1, none⟩ (.int .i64 n')).setCell ⟨g, 2, none⟩ s') := by
  have := block_set (block_set (block_set h 0 (.int .i64 k')) 1 (.int .i64 n')) 2 s'
  simpa [VarAt] using this
theorem VarAt.new (w : World) (k n : Int) (s : Value) : VarAt w.heap.size k n s (w.alloc (.cells #[.int .i64 k, .int .i64 n, s] 29)) := heap_new _ _

end Go.Proofs.YteeafpnjpcgfaaaGreat
