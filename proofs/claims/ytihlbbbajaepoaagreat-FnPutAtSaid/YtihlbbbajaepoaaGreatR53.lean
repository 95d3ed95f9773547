/-
  DrawsU.
-/
import Derived.Test.YtihlbbbajaepoaaGreatR51
namespace Go.Proofs.YtihlbbbajaepoaaGreat
open Go.RowKit
theorem Only.ofDrewR {g : Nat} {w w' : World} (h : Only g w.drew w') : Only g w w' := ⟨h.os, h.tape, h.output, h.size, h.block⟩
theorem Rd.drewR {g : Nat} {a : Option Addr} {len cap p : Nat} {w : World} (h : Rd g a len cap p w) : Rd g a len cap p w.drew := h
theorem Bytes.drewR {U : Nat → Int} {a : Option Addr} {b o len : Nat} {w : World} (h : Bytes U a b o len w) : Bytes U a b o len w.drew := h
theorem VarAt.drewR {g : Nat} {k n : Int} {s : Value} {w : World} (h : VarAt g k n s w) : VarAt g k n s w.drew := h
end Go.Proofs.YtihlbbbajaepoaaGreat
