/-
  PlE.
-/
import Derived.Test.YtihlbbbajaepoaaB19
import Derived.Test.YtihlbbbajaepoaaB23
import Derived.Test.YtihlbbbajaepoaaB28
import Derived.Test.YtihlbbbajaepoaaB35
import Derived.Test.YtihlbbbajaepoaaB36
import Derived.ChangeAlike
import Derived.RegionTactic
namespace Go.Proofs.Ytihlbbbajaepoaa
open Go.RowKit
theorem Passed.get {u : World} : ∀ {p : List (Tm × Nat)} {qs : List (Tm × Value × Nat)}, Passed u p qs → ∀ j (h : j < p.length), (entry qs j).1 = p[j].1 ∧ (entry qs j).2.2 = p[j].2 ∧ SlIn u 0 p[j].1.kids (entry qs j).2.1
 | _ :: _, _ :: _, h, 0, _ => ⟨h.1, h.2.1, by
   have := h.2.2.1
   simpa [entry] using this⟩
 | _ :: p, _ :: q, h, j + 1, hj => by
   have := Passed.get (p := p) (qs := q) h.2.2.2 j (by simpa using hj)
   simpa [entry] using this
 | [], [], _, j, h => by simp at h
 | [], _ :: _, h, _, _ => by cases h
 | _ :: _, [], h, _, _ => by cases h
end Go.Proofs.Ytihlbbbajaepoaa
