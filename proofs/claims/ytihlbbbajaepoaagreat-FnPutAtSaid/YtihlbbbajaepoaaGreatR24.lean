/-
  SpecW.
-/
import Derived.Test.YtihlbbbajaepoaaGreatR09
import Derived.Test.YtihlbbbajaepoaaGreatR11
namespace Go.Proofs.YtihlbbbajaepoaaGreat
open Go.RowKit
theorem var_new3 (w : World) (o o' o2 : Obj) (k n : Int) (s : Value) : VarAt (w.heap.size + 1 + 1 + 1) k n s ((((w.alloc o).alloc o').alloc o2).alloc (.cells #[.int .i64 k, .int .i64 n, s] 34)) := by
 have := VarAt.new (((w.alloc o).alloc o').alloc o2) k n s
 rwa [show (((w.alloc o).alloc o').alloc o2).heap.size = w.heap.size + 1 + 1 + 1 by simp] at this
end Go.Proofs.YtihlbbbajaepoaaGreat
namespace Go.Proofs.YtihlbbbajaepoaaGreat
open Go.RowKit
end Go.Proofs.YtihlbbbajaepoaaGreat
