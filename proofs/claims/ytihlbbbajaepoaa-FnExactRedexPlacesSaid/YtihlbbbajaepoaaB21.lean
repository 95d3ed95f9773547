/-
  SpecT.
-/
import Derived.Test.YtihlbbbajaepoaaB10
import Derived.Test.YtihlbbbajaepoaaB13
import Derived.Test.YtihlbbbajaepoaaB18
import Derived.Test.YtihlbbbajaepoaaB19
import Derived.Test.YtihlbbbajaepoaaB20
namespace Go.Proofs.Ytihlbbbajaepoaa
open Go.RowKit
theorem VarAt.grown {g : Nat} {k n : Int} {s : Value} {w w' : World} {row : Option Nat} (h : VarAt g k n s w) (hb : w.grownBy w' row) (hn : some g ≠ row) : VarAt g k n s w' := (hb.block g h.facts.1 hn).trans h
end Go.Proofs.Ytihlbbbajaepoaa
