/-
  OpenB, PlAB.
-/
import Derived.Test.YtihlbbbajaepoaaGreatQ13
import Derived.Test.YtihlbbbajaepoaaGreatQ29
import Derived.Test.YtihlbbbajaepoaaGreatQ35
namespace Go.Proofs.YtihlbbbajaepoaaGreat
open Go.ChangeShapes Go.WideShapes Go.ChangeAt Go.RowKit Go.Deep
theorem cells_u8 : Tryz.prog.cellsOf 5 = 1 := by kernel_rfl
set_option maxRecDepth 100000 in
theorem open_bytes {H : Type} {enc : TypeId × Value → H} {W : World} {v : Value} {d : DataW H} {ps : List MemPlace} (hok : Value.okWide Tryz.prog W .any 0 43 v) (h : DataW.Trod enc Tryz.prog W 0 (fun _ => true) true 43 v d ps) :
  ∃ (U : Nat → Int) (a : Option Addr) (b o len cap : Nat), v = .slice a len cap ∧ len ≤ cap ∧ cap ≤ maxLen ∧ (0 < len → b < W.heap.size) ∧ Bytes U a b o len W := by
 obtain ⟨a0, len, cap, rfl⟩ := okWide_slice Tryz.underlying43 hok
 obtain ⟨fuel, hf⟩ := h
 rcases open_ints Tryz.underlying43 Tryz.underlying5 cells_u8 hf with ⟨hcs, _⟩ | ⟨a, len', cap', zs, hcs, _, hl, hm, hz, _, hcell, hwz⟩
 ·simp [Value.cells] at hcs
  obtain ⟨rfl, rfl, rfl⟩ := hcs
  exact ⟨fun _ => 0, none, 0, 0, 0, 0, rfl, Nat.le_refl _, Nat.zero_le _, fun h => by omega, fun h => by omega, fun i hi => by omega⟩
 ·simp [Value.cells] at hcs
  obtain ⟨rfl, rfl, rfl⟩ := hcs
  simp only [if_true] at hz
  obtain ⟨b, o, spot⟩ := a
  have hsp : 0 < len → spot = none := fun h0 => by simpa [Addr.add] using World.cell?_spot (hcell 0 (by omega))
  have hc : ∀ i, i < len → W.cell? ⟨b, o + i, none⟩ = some (.int .u8 (zs.getD i 0)) := fun i hi => by
   have h1 := hsp (by omega)
   subst h1
   have h2 := hcell i (by omega)
   have ea : (Addr.mk b o none).add i = ⟨b, o + i, none⟩ := by unfold Addr.add; split <;> simp_all
   rwa [ea] at h2
  refine ⟨fun i => zs.getD i 0, some ⟨b, o, spot⟩, b, o, len, cap, rfl, hl, hm, fun h0 => World.block_lt_of_cell? W _ (hc 0 h0), fun h0 => by rw [hsp h0], fun i hi => ⟨hc i hi, ?_⟩⟩
  have hi2 : i < zs.length := by omega
  have hw := hwz _ (List.getElem_mem hi2)
  have e : zs.getD i 0 = zs[i] := by simp [hi2]
  show 0 ≤ zs.getD i 0 ∧ zs.getD i 0 ≤ 255
  rw [e]
  simpa [Lit.wf, IntKind.min, IntKind.max, IntKind.signed, IntKind.bits] using hw
end Go.Proofs.YtihlbbbajaepoaaGreat
namespace Go.Proofs.YtihlbbbajaepoaaGreat
open Go.RowKit
def tot : List ((Int → Int) × Nat) → Nat
 | [] => 0
 | (_, n) :: L => n + tot L
theorem tot_bound (m : Nat) : ∀ (L : List ((Int → Int) × Nat)), (∀ x ∈ L, x.2 ≤ m) → tot L ≤ L.length * m
 | [], _ => by simp [tot]
 | (N, n) :: L, h => by
  have h1 := tot_bound m L (fun x hx => h x (List.mem_cons_of_mem _ hx))
  have h2 : n ≤ m := h (N, n) (by simp)
  rw [tot, List.length_cons, Nat.add_mul]
  omega
theorem RowP.get {base : Nat} {L : List ((Int → Int) × Nat)} {v : Value} {w : World} (h : RowP base L v w) : ∃ a cap g, v = .slice a L.length cap ∧ ∀ j (hj : j < L.length), a = some ⟨g, 0, none⟩ ∧ base ≤ g ∧ g < w.heap.size ∧ ∃ ua uc, w.cell? ⟨g, j, none⟩ = some (.slice ua L[j].2 uc) ∧ IsX w (fun i => g = i ∨ i < base) L[j].1 L[j].2 (.slice ua L[j].2 uc) ∧ Sm (.slice ua L[j].2 uc) := by
 obtain ⟨vs, h1, h2, h3⟩ := h
 have hrow := h2
 rcases h2.2 with ⟨rfl, h0⟩ | ⟨g, cap, cur, rfl, hb, hg, -⟩
 ·exact ⟨none, 0, 0, by rw [h0], fun j hj => absurd hj (by omega)⟩
 ·refine ⟨_, cap, g, rfl, fun j hj => ⟨rfl, hb, (block_of_cells hg).1, ?_⟩⟩
  obtain ⟨u, k1, k2, k3⟩ := h3 j hj
  obtain ⟨ua, uc, rfl⟩ := k2.form
  have hc := hrow.cells (g := g) rfl j _ k1
  have hadd : (⟨g, 0, none⟩ : Addr).add j = ⟨g, j, none⟩ := by unfold Addr.add; split <;> simp_all
  rw [hadd] at hc
  refine ⟨ua, uc, hc, k2.to fun b hx hbw => ⟨fun e => hx (e.imp (fun e => by rw [e]; rfl) id), hbw, fun _ => rfl⟩, k3⟩
end Go.Proofs.YtihlbbbajaepoaaGreat
