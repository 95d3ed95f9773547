/-
  PlY, VarsQ, PlAB.
-/
import Derived.Test.YtihlbbbajaepoaaGreatR06
import Derived.Test.YtihlbbbajaepoaaGreatR08
import Derived.Test.YtihlbbbajaepoaaGreatR12
import Derived.Test.YtihlbbbajaepoaaGreatR22
import Derived.Test.YtihlbbbajaepoaaGreatR23
import Derived.Test.YtihlbbbajaepoaaGreatR26
import Derived.Test.YtihlbbbajaepoaaGreatR27
import Derived.Test.YtihlbbbajaepoaaGreatR31
import Derived.Test.YtihlbbbajaepoaaGreatR34
import Derived.Test.YtihlbbbajaepoaaGreatR36
import Derived.ChangeAlike
import Derived.Deep.DeepCutAuto
import Derived.LoopIn
import Derived.LoopNIn
import Derived.OwnWalkIn
import Derived.RangeFuncBound
import Derived.RangeFuncCalls
import Derived.RangeFuncLeaves
import Derived.RangeFuncNested
import Derived.RegionTactic
import Derived.TacticsInMore
namespace Go.Proofs.YtihlbbbajaepoaaGreat
open Go.RowKit
theorem way_split {t Y : Tm} {N : Int → Int} {k : Nat} {P : List (Tm × Nat)} (h : way t N k = some (P, Y)) : ∀ m : Nat, way t N (k + m) = (way Y (fun j => N (k + j)) m).map fun y => (P ++ y.1, y.2)
 | 0 => by rw [Nat.add_zero, h, way]; simp
 | m + 1 => by
  rw [← Nat.add_assoc, way, way_split h m, way]
  cases way Y (fun j => N (k + j)) m with
  | none => rfl
  | some y =>
   simp only [Option.map_some, Option.bind_some]
   rw [show ((k + m : Nat) : Int) = (k : Int) + (m : Int) by push_cast; rfl]
   split <;> simp
end Go.Proofs.YtihlbbbajaepoaaGreat
namespace Go.Proofs.YtihlbbbajaepoaaGreat
open Go.RowKit
theorem RowP.base {base b' : Nat} {L : List ((Int → Int) × Nat)} {v : Value} {w : World} (h : RowP base L v w) (hb : b' ≤ base) : RowP b' L v w := by
 obtain ⟨vs, h1, h2, h3⟩ := h
 exact ⟨vs, h1, ⟨h2.1, h2.2.imp id (fun ⟨g, cap, cur, e, hb2, rest⟩ => ⟨g, cap, cur, e, Nat.le_trans hb hb2, rest⟩)⟩, fun j hj => by
  obtain ⟨u, k1, k2, k3⟩ := h3 j hj
  exact ⟨u, k1, k2.to fun b hx hbw => ⟨fun h => hx (h.imp id fun h => Nat.lt_of_lt_of_le h hb), hbw, fun _ => rfl⟩, k3⟩⟩
end Go.Proofs.YtihlbbbajaepoaaGreat
namespace Go.Proofs.YtihlbbbajaepoaaGreat
open Go.RowKit
def tot : List ((Int → Int) × Nat) → Nat
 | [] => 0
 | (_, n) :: L => n + tot L
theorem tot_bound (m : Nat) : ∀ (L : List ((Int → Int) × Nat)), (∀ x ∈ L, x.2 ≤ m) → tot L ≤ L.length * m
 | [], _ => by simp [tot]
 | (N, n) :: L, h => by
  have h1 := tot_bound m L (fun x hx => h x (List.mem_cons_of_mem _ hx))
  have h2 : n ≤ m := h (N, n) (by simp)
  rw [tot, List.length_cons, Nat.add_mul]
  omega
theorem RowP.get {base : Nat} {L : List ((Int → Int) × Nat)} {v : Value} {w : World} (h : RowP base L v w) : ∃ a cap g, v = .slice a L.length cap ∧ ∀ j (hj : j < L.length), a = some ⟨g, 0, none⟩ ∧ base ≤ g ∧ g < w.heap.size ∧ ∃ ua uc, w.cell? ⟨g, j, none⟩ = some (.slice ua L[j].2 uc) ∧ IsX w (fun i => g = i ∨ i < base) L[j].1 L[j].2 (.slice ua L[j].2 uc) ∧ Sm (.slice ua L[j].2 uc) := by
 obtain ⟨vs, h1, h2, h3⟩ := h
 have hrow := h2
 rcases h2.2 with ⟨rfl, h0⟩ | ⟨g, cap, cur, rfl, hb, hg, -⟩
 ·exact ⟨none, 0, 0, by rw [h0], fun j hj => absurd hj (by omega)⟩
 ·refine ⟨_, cap, g, rfl, fun j hj => ⟨rfl, hb, (block_of_cells hg).1, ?_⟩⟩
  obtain ⟨u, k1, k2, k3⟩ := h3 j hj
  obtain ⟨ua, uc, rfl⟩ := k2.form
  have hc := hrow.cells (g := g) rfl j _ k1
  have hadd : (⟨g, 0, none⟩ : Addr).add j = ⟨g, j, none⟩ := by unfold Addr.add; split <;> simp_all
  rw [hadd] at hc
  refine ⟨ua, uc, hc, k2.to fun b hx hbw => ⟨fun e => hx (e.imp (fun e => by rw [e]; rfl) id), hbw, fun _ => rfl⟩, k3⟩
end Go.Proofs.YtihlbbbajaepoaaGreat
