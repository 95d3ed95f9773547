/-
  Plc.
-/
import Derived.Test.YtihlbbbajaepoaaB27
namespace Go.Proofs.Ytihlbbbajaepoaa
theorem inPath_snoc : ∀ {p : List (Tm × Nat)} {x : Tm} {i : Nat}, InPath p → i < x.kids.length → InPath (p ++ [(x, i)])
 | [], _, _, _, hi => ⟨hi, trivial⟩
 | _ :: p, _, _, h, hi => ⟨h.1, inPath_snoc (p := p) h.2 hi⟩
theorem Tm.Valid.kids4 {t : Tm} (h : t.Valid) : t.kids.length ≤ 4 := by
 have h1 := h.root.1
 have : arity t.kind ≤ 4 := by unfold arity; (repeat' split) <;> omega
 omega
end Go.Proofs.Ytihlbbbajaepoaa
