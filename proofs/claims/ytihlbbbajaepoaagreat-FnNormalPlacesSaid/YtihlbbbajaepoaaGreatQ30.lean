/-
  StepJ.
-/
import Derived.Test.YtihlbbbajaepoaaGreatQ16
import Derived.Test.YtihlbbbajaepoaaGreatQ19
import Derived.Test.YtihlbbbajaepoaaGreatQ22
namespace Go.Proofs.YtihlbbbajaepoaaGreat
open Go.RowKit
end Go.Proofs.YtihlbbbajaepoaaGreat
namespace Go.Proofs.YtihlbbbajaepoaaGreat
open Go.RowKit
theorem StkAt.view {g o : Nat} {T : TypeId} {cs : Array Value} {qs : List (Tm × Value × Nat)} {M : Nat → Prop} {w : World} (h : StkAt g o T cs qs M w) : ∃ (sa : Option Addr) (gb cap : Nat), w.cell? ⟨g, o, none⟩ = some (.slice sa qs.length cap) ∧ (qs ≠ [] → sa = some ⟨gb, 0, none⟩ ∧ gb < w.heap.size) ∧
  ∀ j u, (stkCells qs)[j]? = some u → w.cell? ⟨gb, j, none⟩ = some u := by
 obtain ⟨h1, v, h2, ho, h3, rfl⟩ := h
 have hc := (stk_cells h2 ho).2.1
 have hrow := h3
 rcases h3.2 with ⟨e1, e2⟩ | ⟨gb, cap, cur, rfl, r1, r2, r3⟩
 ·have : qs = [] := List.length_eq_zero_iff.1 e2
  subst this
  subst e1
  exact ⟨none, 0, 0, hc, fun h => absurd rfl h, fun j u hu => by simp [stkCells] at hu⟩
 ·refine ⟨_, gb, cap, hc, fun _ => ⟨rfl, (block_of_cells r2).1⟩, fun j u hu => ?_⟩
  have := hrow.cells (g := gb) rfl j u hu
  have hadd : (⟨gb, 0, none⟩ : Addr).add j = ⟨gb, j, none⟩ := by unfold Addr.add; split <;> simp_all
  rwa [hadd] at this
end Go.Proofs.YtihlbbbajaepoaaGreat
