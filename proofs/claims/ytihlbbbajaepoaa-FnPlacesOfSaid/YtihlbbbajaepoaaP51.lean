/-
  Pth.
-/
import Derived.Test.YtihlbbbajaepoaaP11
import Derived.Test.YtihlbbbajaepoaaP16
import Derived.Test.YtihlbbbajaepoaaP18
import Derived.Test.YtihlbbbajaepoaaP30
import Derived.Test.YtihlbbbajaepoaaP31
import Derived.Test.YtihlbbbajaepoaaP33
import Derived.Test.YtihlbbbajaepoaaP38
import Derived.Test.YtihlbbbajaepoaaP50
import Derived.Deep.DeepCutAuto
namespace Go.Proofs.Ytihlbbbajaepoaa
open Go.RowKit
theorem RowP.at {base c n : Nat} {L : List ((Int → Int) × Nat)} {a : Option Addr} {w : World} (h : RowP base L (.slice a n c) w) {j : Nat} (hj : j < L.length) : ∃ g, (a = some ⟨g, 0, none⟩ ∧ g < w.heap.size) ∧ base ≤ g ∧ ∃ ua uc, w.cell? ⟨g, j, none⟩ = some (.slice ua L[j].2 uc) ∧ IsX w (fun i => g = i ∨ i < base) L[j].1 L[j].2 (.slice ua L[j].2 uc) ∧ Sm (.slice ua L[j].2 uc) := by
 obtain ⟨a', cap, g, e, h⟩ := h.get
 injection e with e1 e2 e3
 subst e1
 obtain ⟨k1, k2, k3, k4⟩ := h j hj
 exact ⟨g, ⟨k1, k3⟩, k2, k4⟩
end Go.Proofs.Ytihlbbbajaepoaa
