/-
  SpecT.
-/
import Derived.Test.YtjdmfegdgpbkgaaN03
import Derived.Test.YtjdmfegdgpbkgaaN04
import Derived.Test.YtjdmfegdgpbkgaaN07
import Derived.Test.YtjdmfegdgpbkgaaN08
import Derived.Test.YtjdmfegdgpbkgaaN19
import Derived.Deep.RegionHeld3
import Derived.IntWalk
import Derived.Orders
import Derived.RowKit
namespace Go.Proofs.Ytjdmfegdgpbkgaa
open Go.RowKit
theorem var_new1 (w : World) (o : Obj) (k n : Int) (s : Value) : VarAt (w.heap.size + 1) k n s ((w.alloc o).alloc (.cells #[.int .i64 k, .int .i64 n, s] 24)) := by
 have := VarAt.new (w.alloc o) k n s
 rwa [show (w.alloc o).heap.size = w.heap.size + 1 by simp] at this
end Go.Proofs.Ytjdmfegdgpbkgaa
