/-
  What the walks of the exact laws share: a boxed term that stays; what is held through a region that calls.
-/
import Derived.Test.YthmcgpppacodeaaImplB
import Derived.Test.YthmcgpppacodeaaTo
import Derived.Test.YthmcgpppacodeaaEq
namespace Go.Proofs.Ythmcgpppacodeaa
open Go.RowKit

/-- Block g begins with a term's three cells. -/
def BoxAt (g : Nat) (k n : Int) (s : Value) (w : World) : Prop := g < w.heap.size ∧ w.cell? ⟨g, 0, none⟩ = some (.int .i64 k) ∧ w.cell? ⟨g, 1, none⟩ = some (.int .i64 n) ∧ w.cell? ⟨g, 2, none⟩ = some s
theorem BoxAt.below {g : Nat} {k n : Int} {s : Value} {w w' : World} (h : BoxAt g k n s w) (hb : Below w.heap.size w w') : BoxAt g k n s w' :=
  ⟨Nat.lt_of_lt_of_le h.1 hb.size, (hb.cell (p := ⟨g, 0, none⟩) h.1).trans h.2.1, (hb.cell (p := ⟨g, 1, none⟩) h.1).trans h.2.2.1, (hb.cell (p := ⟨g, 2, none⟩) h.1).trans h.2.2.2⟩
theorem BoxAt.new (w : World) (k n : Int) (s : Value) (T : TypeId) : BoxAt w.heap.size k n s (w.alloc (.cells #[.int .i64 k, .int .i64 n, s] T)) := by
  refine ⟨by simp, ?_, ?_, ?_⟩ <;> simp
theorem BoxAt.drew {g : Nat} {k n : Int} {s : Value} {w : World} (h : BoxAt g k n s w) : BoxAt g k n s w.drew := h

/-- What is held through the last region of an exact law over one term. -/
theorem held1 {w w1 w' : World} {l : List Tm} {s s5 : Value} {k n : Int} {g g5 : Nat}
    (h : Below w.heap.size w w1 ∧ SlIn w1 0 l s ∧ SlIn w1 0 l s5 ∧ (g < w1.heap.size ∧ w1.cell? ⟨g, 0, none⟩ = some (.int .i64 k) ∧ w1.cell? ⟨g, 1, none⟩ = some (.int .i64 n) ∧ w1.cell? ⟨g, 2, none⟩ = some s) ∧
      (g5 < w1.heap.size ∧ w1.cell? ⟨g5, 0, none⟩ = some (.int .i64 k) ∧ w1.cell? ⟨g5, 1, none⟩ = some (.int .i64 n) ∧ w1.cell? ⟨g5, 2, none⟩ = some s5)) (hb : Below w1.heap.size w1 w') :
    Below w.heap.size w w' ∧ SlIn w' 0 l s ∧ SlIn w' 0 l s5 ∧ (g < w'.heap.size ∧ w'.cell? ⟨g, 0, none⟩ = some (.int .i64 k) ∧ w'.cell? ⟨g, 1, none⟩ = some (.int .i64 n) ∧ w'.cell? ⟨g, 2, none⟩ = some s) ∧
      (g5 < w'.heap.size ∧ w'.cell? ⟨g5, 0, none⟩ = some (.int .i64 k) ∧ w'.cell? ⟨g5, 1, none⟩ = some (.int .i64 n) ∧ w'.cell? ⟨g5, 2, none⟩ = some s5) :=
  ⟨bAfter h.1 hb, h.2.1.below hb, h.2.2.1.below hb, BoxAt.below h.2.2.2.1 hb, BoxAt.below h.2.2.2.2 hb⟩
theorem held_arg {w1 : World} {l : List Tm} {s : Value} {p q : Prop} (h : p ∧ SlIn w1 0 l s ∧ q) : SlIn w1 0 l s := h.2.1
theorem held_x {w1 : World} {l : List Tm} {s s5 : Value} {p q : Prop} (h : p ∧ SlIn w1 0 l s ∧ SlIn w1 0 l s5 ∧ q) : SlIn w1 0 l s5 := h.2.2.1

end Go.Proofs.Ythmcgpppacodeaa
