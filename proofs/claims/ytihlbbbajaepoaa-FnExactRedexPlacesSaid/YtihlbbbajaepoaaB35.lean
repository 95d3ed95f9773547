/-
  PlB.
-/
import Derived.Test.YtihlbbbajaepoaaB06
import Derived.Test.YtihlbbbajaepoaaB29
import Derived.Test.YtihlbbbajaepoaaB34
namespace Go.Proofs.Ytihlbbbajaepoaa
open Go.RowKit
theorem CurAt.new (u w1 : World) (t : Tm) (s : Value) (hb : Below u.heap.size u w1) (hs : SlIn u 0 t.kids s) :
  CurAt u w1.heap.size t [] (fun i => i = w1.heap.size ∨ (Value.slice none 0 0).ownBlock = some i) (w1.alloc (.cells #[.int .i64 t.kind, .int .i64 t.num, s, .slice none 0 0] 87)) := by
 refine ⟨View.of_below (bAfter hb (below1 _ _)) ?_, s, [], hs, trivial, by simp, .slice none 0 0, by simpa using heap_new w1 (.cells #[.int .i64 t.kind, .int .i64 t.num, s, .slice none 0 0] 87), by simp, World.ownsRow_nil _ _ _ _, rfl⟩
 rintro i (rfl | h)
 ·exact hb.size
 ·cases h
theorem CurAt.lt {u w : World} {g : Nat} {t : Tm} {p : List (Tm × Nat)} {M : Nat → Prop} (h : CurAt u g t p M w) : ∀ i, M i → g ≤ i ∧ i < w.heap.size := by
 obtain ⟨-, s, qs, -, -, hst⟩ := h
 exact hst.lt
end Go.Proofs.Ytihlbbbajaepoaa
