/-
  StepJ, LawL, PlS.
-/
import Derived.Test.YtihlbbbajaepoaaGreatR02
import Derived.Test.YtihlbbbajaepoaaGreatR04
import Derived.Test.YtihlbbbajaepoaaGreatR08
import Derived.Test.YtihlbbbajaepoaaGreatR11
import Derived.Test.YtihlbbbajaepoaaGreatR12
import Derived.Test.YtihlbbbajaepoaaGreatR16
import Derived.Test.YtihlbbbajaepoaaGreatR17
import Derived.Test.YtihlbbbajaepoaaGreatR19
import Derived.Test.YtihlbbbajaepoaaGreatR22
import Derived.Test.YtihlbbbajaepoaaGreatR26
import Derived.ChangeAlike
import Derived.RegionTactic
namespace Go.Proofs.YtihlbbbajaepoaaGreat
open Go.RowKit
theorem tl_sl3 {w : World} {B gz : Nat} {l : List Tm} {v x y z : Value} (h : SlIn w B l v) (hg : gz < B) : SlIn (((w.setCell ⟨gz, 0, none⟩ x).setCell ⟨gz, 1, none⟩ y).setCell ⟨gz, 2, none⟩ z) B l v :=
 ((h.setCell (p := ⟨gz, 0, none⟩) hg _).setCell (p := ⟨gz, 1, none⟩) hg _).setCell (p := ⟨gz, 2, none⟩) hg _
end Go.Proofs.YtihlbbbajaepoaaGreat
namespace Go.Proofs.YtihlbbbajaepoaaGreat
open Go.RowKit
end Go.Proofs.YtihlbbbajaepoaaGreat
namespace Go.Proofs.YtihlbbbajaepoaaGreat
open Go.RowKit
theorem Passed.toX {u w : World} {X : Nat → Prop} (hv : ∀ l v, SlIn u 0 l v → SlX w X l v) : ∀ {p : List (Tm × Nat)} {qs : List (Tm × Value × Nat)}, InPath p → (∀ y ∈ p, y.1.Valid) → Passed u p qs → PassX w X p qs
 | [], [], _, _, _ => trivial
 | (t, i) :: p, (t', s, i') :: q, hp, hy, h => ⟨h.1, h.2.1, hp.1, root_len (hy (t, i) (by simp)).root, hv _ _ h.2.2.1, Passed.toX hv hp.2 (fun y h => hy y (by simp [h])) h.2.2.2⟩
 | [], _ :: _, _, _, h => by cases h
 | _ :: _, [], _, _, h => by cases h
theorem StkAt.view {g o : Nat} {T : TypeId} {cs : Array Value} {qs : List (Tm × Value × Nat)} {M : Nat → Prop} {w : World} (h : StkAt g o T cs qs M w) : ∃ (sa : Option Addr) (gb cap : Nat), w.cell? ⟨g, o, none⟩ = some (.slice sa qs.length cap) ∧ (qs ≠ [] → sa = some ⟨gb, 0, none⟩ ∧ gb < w.heap.size) ∧
  ∀ j u, (stkCells qs)[j]? = some u → w.cell? ⟨gb, j, none⟩ = some u := by
 obtain ⟨h1, v, h2, ho, h3, rfl⟩ := h
 have hc := (stk_cells h2 ho).2.1
 have hrow := h3
 rcases h3.2 with ⟨e1, e2⟩ | ⟨gb, cap, cur, rfl, r1, r2, r3⟩
 ·have : qs = [] := List.length_eq_zero_iff.1 e2
  subst this
  subst e1
  exact ⟨none, 0, 0, hc, fun h => absurd rfl h, fun j u hu => by simp [stkCells] at hu⟩
 ·refine ⟨_, gb, cap, hc, fun _ => ⟨rfl, (block_of_cells r2).1⟩, fun j u hu => ?_⟩
  have := hrow.cells (g := gb) rfl j u hu
  have hadd : (⟨gb, 0, none⟩ : Addr).add j = ⟨gb, j, none⟩ := by unfold Addr.add; split <;> simp_all
  rwa [hadd] at this
end Go.Proofs.YtihlbbbajaepoaaGreat
namespace Go.Proofs.YtihlbbbajaepoaaGreat
open Go.RowKit
def ixAt (p : List (Tm × Nat)) : Int → Int := fun j => (((p[j.toNat]?).map (·.2)).getD 0 : Nat)
theorem ixAt_eq (p : List (Tm × Nat)) (j : Nat) (h : j < p.length) : ixAt p (j : Int) = ((p[j].2 : Nat) : Int) := by
 unfold ixAt
 rw [Int.toNat_natCast, List.getElem?_eq_getElem h]
 rfl
end Go.Proofs.YtihlbbbajaepoaaGreat
