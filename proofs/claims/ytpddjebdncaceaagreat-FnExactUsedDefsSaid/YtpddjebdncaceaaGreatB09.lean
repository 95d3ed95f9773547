/-
  Row.
-/
import Derived.Test.YtpddjebdncaceaaGreatB08
namespace Go.Proofs.YtpddjebdncaceaaGreat
open Go.RowKit
theorem SlOwn.below {w w' : World} {l : List Tm} {v : Value} {F : List Nat} (h : SlOwn w l v F) (hF : ∀ g ∈ F, g < w.heap.size) (hb : Below w.heap.size w w') : SlOwn w' l v F :=
 h.keep fun g hg => SameAt.of_block (hb.block _ (hF g hg))
theorem SlOwn.setCell {w : World} {l : List Tm} {v : Value} {F : List Nat} (h : SlOwn w l v F) {p : Addr} (hp : p.block ∉ F) (u : Value) : SlOwn (w.setCell p u) l v F :=
 h.keep fun g hg => SameAt.of_block (Below.heap_setCell w p u g (fun e => hp (by rw [← e]; exact hg)))
theorem bSet3 {B : Nat} {a w : World} (h : Below B a w) {g : Nat} (hg : B ≤ g) (i j k : Nat) (x y z : Value) : Below B a (((w.setCell ⟨g, i, none⟩ x).setCell ⟨g, j, none⟩ y).setCell ⟨g, k, none⟩ z) :=
 ((h.setCell (p := ⟨g, i, none⟩) hg _).setCell (p := ⟨g, j, none⟩) hg _).setCell (p := ⟨g, k, none⟩) hg _
theorem size_set3 (w : World) (g i j k : Nat) (x y z : Value) : (((w.setCell ⟨g, i, none⟩ x).setCell ⟨g, j, none⟩ y).setCell ⟨g, k, none⟩ z).heap.size = w.heap.size := by simp [World.setCell]
end Go.Proofs.YtpddjebdncaceaaGreat
