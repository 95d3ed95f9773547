/-
  SpecW.
-/
import Derived.Test.YtleijaegpfjnpaaB05
import Derived.Test.YtleijaegpfjnpaaB22
import Derived.Test.YtleijaegpfjnpaaB24
namespace Go.Proofs.Ytleijaegpfjnpaa
open Go.RowKit
theorem var_new3 (w : World) (o o' o2 : Obj) (k n : Int) (s : Value) : VarAt (w.heap.size + 1 + 1 + 1) k n s ((((w.alloc o).alloc o').alloc o2).alloc (.cells #[.int .i64 k, .int .i64 n, s] 29)) := by
 have := VarAt.new (((w.alloc o).alloc o').alloc o2) k n s
 rwa [show (((w.alloc o).alloc o').alloc o2).heap.size = w.heap.size + 1 + 1 + 1 by simp] at this
end Go.Proofs.Ytleijaegpfjnpaa
namespace Go.Proofs.Ytleijaegpfjnpaa
open Go.RowKit
end Go.Proofs.Ytleijaegpfjnpaa
