/-
  SpecT, SpecK.
-/
import Derived.Test.YtjdmfegdgpbkgaaGreatO02
import Derived.Test.YtjdmfegdgpbkgaaGreatO03
import Derived.Test.YtjdmfegdgpbkgaaGreatO09
import Derived.Test.YtjdmfegdgpbkgaaGreatO13
import Derived.Test.YtjdmfegdgpbkgaaGreatO17
import Derived.Deep.RegionHeld3
import Derived.IntWalk
import Derived.Orders
import Derived.RowKit
namespace Go.Proofs.YtjdmfegdgpbkgaaGreat
open Go.RowKit
theorem var_new1 (w : World) (o : Obj) (k n : Int) (s : Value) : VarAt (w.heap.size + 1) k n s ((w.alloc o).alloc (.cells #[.int .i64 k, .int .i64 n, s] 25)) := by
 have := VarAt.new (w.alloc o) k n s
 rwa [show (w.alloc o).heap.size = w.heap.size + 1 by simp] at this
end Go.Proofs.YtjdmfegdgpbkgaaGreat
namespace Go.Proofs.YtjdmfegdgpbkgaaGreat
open Go.RowKit
theorem SlIn.set3 {w : World} {B g i j k : Nat} {l : List Tm} {v x y z : Value} (h : SlIn w B l v) (hg : g < B) : SlIn (((w.setCell ⟨g, i, none⟩ x).setCell ⟨g, j, none⟩ y).setCell ⟨g, k, none⟩ z) B l v :=
 ((h.setCell (p := ⟨g, i, none⟩) hg _).setCell (p := ⟨g, j, none⟩) hg _).setCell (p := ⟨g, k, none⟩) hg _
end Go.Proofs.YtjdmfegdgpbkgaaGreat
