/-
  DfC.
-/
import Derived.Test.YtpddjebdncaceaaGreatB16
import Derived.Test.YtpddjebdncaceaaGreatB24
namespace Go.Proofs.YtpddjebdncaceaaGreat
open Go.RowKit
theorem DBox.far {T : TypeId} {g : Nat} {k n k' n' : Int} {s s' : Value} {w : World} (h : DBox T g k n s k' n' s' w) {p : Addr} (hp : g ≠ p.block) (u : Value) : DBox T g k n s k' n' s' (w.setCell p u) := (Below.heap_setCell w p u g hp).trans h
theorem DBox.set1 {T : TypeId} {g : Nat} {k n k' n' x y : Int} {s s' z : Value} {w : World} (h : DBox T g k n s k' n' s' w) : DBox T g x y z k' n' s' (((w.setCell ⟨g, 0, none⟩ (.int .i64 x)).setCell ⟨g, 1, none⟩ (.int .i64 y)).setCell ⟨g, 2, none⟩ z) := by
 have := block_set (block_set (block_set h 0 (.int .i64 x)) 1 (.int .i64 y)) 2 z
 simp only [List.setIfInBounds_toArray, List.set_cons_zero, List.set_cons_succ] at this
 exact this
theorem dbox_new1 (T : TypeId) (w : World) (o : Obj) (k n : Int) (s : Value) (k' n' : Int) (s' : Value) : DBox T (w.heap.size + 1) k n s k' n' s' ((w.alloc o).alloc (.cells #[.int .i64 k, .int .i64 n, s, .int .i64 k', .int .i64 n', s'] T)) := by
 have h := DBox.new T (w.alloc o) k n s k' n' s'
 rwa [show (w.alloc o).heap.size = w.heap.size + 1 by simp] at h
theorem dbox_new2 (T : TypeId) (w : World) (o p : Obj) (k n : Int) (s : Value) (k' n' : Int) (s' : Value) : DBox T (w.heap.size + 1 + 1) k n s k' n' s' (((w.alloc o).alloc p).alloc (.cells #[.int .i64 k, .int .i64 n, s, .int .i64 k', .int .i64 n', s'] T)) := by
 have h := DBox.new T ((w.alloc o).alloc p) k n s k' n' s'
 rwa [show ((w.alloc o).alloc p).heap.size = w.heap.size + 1 + 1 by simp] at h
theorem dfree3 {T : TypeId} {g : Nat} {k n k' n' : Int} {s s' : Value} {w : World} (h : DBox T g k n s k' n' s' w) {q : Nat} (hp : g ≠ q) (a b c : Nat) (x y z : Value) : DBox T g k n s k' n' s' (((w.setCell ⟨q, a, none⟩ x).setCell ⟨q, b, none⟩ y).setCell ⟨q, c, none⟩ z) :=
 ((h.far (p := ⟨q, a, none⟩) hp _).far (p := ⟨q, b, none⟩) hp _).far (p := ⟨q, c, none⟩) hp _
end Go.Proofs.YtpddjebdncaceaaGreat
