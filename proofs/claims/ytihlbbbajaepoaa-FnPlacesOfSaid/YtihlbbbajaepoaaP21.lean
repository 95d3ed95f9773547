/-
  Arnd, Find, NumT, StepJ.
-/
import Derived.Test.YtihlbbbajaepoaaP04
import Derived.Test.YtihlbbbajaepoaaP05
import Derived.Test.YtihlbbbajaepoaaP07
import Derived.Test.YtihlbbbajaepoaaP08
import Derived.Test.YtihlbbbajaepoaaP09
import Derived.Test.YtihlbbbajaepoaaP10
import Derived.Test.YtihlbbbajaepoaaP11
import Derived.Test.YtihlbbbajaepoaaP13
import Derived.Test.YtihlbbbajaepoaaP14
import Derived.Test.YtihlbbbajaepoaaP15
import Derived.Test.YtihlbbbajaepoaaP16
import Derived.Test.YtihlbbbajaepoaaP17
import Derived.Test.YtihlbbbajaepoaaP18
import Derived.Deep.DeepCutAuto
import Derived.LoopIn
import Derived.LoopNIn
import Derived.OwnWalkIn
import Derived.RangeFuncBound
import Derived.RangeFuncCalls
import Derived.RangeFuncLeaves
import Derived.RangeFuncNested
import Derived.Shelf.Abstract
import Derived.Shelf.RegionOpen
import Derived.TacticsInMore
import Derived.WalkKit
namespace Go.Proofs.Ytihlbbbajaepoaa
open Go.RowKit Go.Shelf
attribute [local go_sem] Oper.semAt_some
def entry (qs : List (Tm × Value × Nat)) (j : Nat) : Tm × Value × Nat := qs[j]?.getD (zeroT, .slice none 0 0, 0)
theorem stkCells_get : ∀ (qs : List (Tm × Value × Nat)) (j : Nat), j < qs.length → (stkCells qs)[j * 4]? = some (.int .i64 (entry qs j).1.kind) ∧ (stkCells qs)[j * 4 + 1]? = some (.int .i64 (entry qs j).1.num) ∧ (stkCells qs)[j * 4 + 2]? = some (entry qs j).2.1 ∧ (stkCells qs)[j * 4 + 3]? = some (.int .i64 ((entry qs j).2.2 : Int))
 | [], j, h => by simp at h
 | (t, s, i) :: r, 0, _ => ⟨rfl, rfl, rfl, rfl⟩
 | (t, s, i) :: r, j + 1, h => by
  have ih := stkCells_get r j (by simpa using h)
  have e : entry ((t, s, i) :: r) (j + 1) = entry r j := rfl
  rw [e]
  have h4 : (j + 1) * 4 = j * 4 + 1 + 1 + 1 + 1 := by omega
  simp only [stkCells, h4, List.getElem?_cons_succ, show j * 4 + 1 + 1 + 1 + 1 + 1 = j * 4 + 1 + 1 + 1 + 1 + 1 from rfl]
  exact ih
end Go.Proofs.Ytihlbbbajaepoaa
namespace Go.Proofs.Ytihlbbbajaepoaa
open Go.RowKit
end Go.Proofs.Ytihlbbbajaepoaa
namespace Go.Proofs.Ytihlbbbajaepoaa
open Go.RowKit Go.Shelf
attribute [local go_sem] Oper.semAt_some
theorem keepsFrom_of_below {W W2 : World} (h : Below W.heap.size W W2) (B : Nat) : KeepsFrom B W W2 := ⟨h.size, fun k _ _ hk _ => (h.block k (Array.getElem?_eq_some_iff.1 hk).1).trans hk⟩
end Go.Proofs.Ytihlbbbajaepoaa
namespace Go.Proofs.Ytihlbbbajaepoaa
open Go.RowKit
def Passed (u : World) : List (Tm × Nat) → List (Tm × Value × Nat) → Prop
 | [], [] => True
 | (t, i) :: p, (t', s, i') :: q => t' = t ∧ i' = i ∧ SlIn u 0 t.kids s ∧ Passed u p q
 | _, _ => False
end Go.Proofs.Ytihlbbbajaepoaa
namespace Go.Proofs.Ytihlbbbajaepoaa
open Go.RowKit
end Go.Proofs.Ytihlbbbajaepoaa
namespace Go.Proofs.Ytihlbbbajaepoaa
open Go.RowKit
theorem StkAt.view {g o : Nat} {T : TypeId} {cs : Array Value} {qs : List (Tm × Value × Nat)} {M : Nat → Prop} {w : World} (h : StkAt g o T cs qs M w) : ∃ (sa : Option Addr) (gb cap : Nat), w.cell? ⟨g, o, none⟩ = some (.slice sa qs.length cap) ∧ (qs ≠ [] → sa = some ⟨gb, 0, none⟩ ∧ gb < w.heap.size) ∧
  ∀ j u, (stkCells qs)[j]? = some u → w.cell? ⟨gb, j, none⟩ = some u := by
 obtain ⟨h1, v, h2, ho, h3, rfl⟩ := h
 have hc := (stk_cells h2 ho).2.1
 have hrow := h3
 rcases h3.2 with ⟨e1, e2⟩ | ⟨gb, cap, cur, rfl, r1, r2, r3⟩
 ·have : qs = [] := List.length_eq_zero_iff.1 e2
  subst this
  subst e1
  exact ⟨none, 0, 0, hc, fun h => absurd rfl h, fun j u hu => by simp [stkCells] at hu⟩
 ·refine ⟨_, gb, cap, hc, fun _ => ⟨rfl, (block_of_cells r2).1⟩, fun j u hu => ?_⟩
  have := hrow.cells (g := gb) rfl j u hu
  have hadd : (⟨gb, 0, none⟩ : Addr).add j = ⟨gb, j, none⟩ := by unfold Addr.add; split <;> simp_all
  rwa [hadd] at this
end Go.Proofs.Ytihlbbbajaepoaa
namespace Go.Proofs.Ytihlbbbajaepoaa
open Go.RowKit
theorem numT_rootOk (m : Nat) : (numT m).rootOk := by
 cases m with
 | zero => exact ⟨rfl, by decide, by decide⟩
 | succ m => exact ⟨rfl, show (0 : Int) ≤ 0 by decide, show (0 : Int) ≤ mostN 8 by decide⟩
theorem hgt_numT (m : Nat) : (numT m).hgt = m + 1 := by
 induction m with
 | zero => rw [numT, Tm.hgt, hgts]
 | succ m ih => rw [numT, Tm.hgt, hgts, hgts, ih]; omega
theorem allOk_numT (m : Nat) : (numT m).allOk := by
 induction m with
 | zero => exact ⟨numT_rootOk 0, trivial⟩
 | succ m ih => exact ⟨numT_rootOk (m + 1), ih, trivial⟩
theorem valid_numT {m : Nat} (h : m ≤ 20) : (numT m).Valid := ⟨allOk_numT m, by rw [hgt_numT]; omega, by rw [numT_size]; omega⟩
end Go.Proofs.Ytihlbbbajaepoaa
