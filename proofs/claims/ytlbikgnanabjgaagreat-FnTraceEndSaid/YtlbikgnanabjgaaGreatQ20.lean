/-
  OpenB, NumT, SpecK.
-/
import Derived.Test.YtlbikgnanabjgaaGreatQ02
import Derived.Test.YtlbikgnanabjgaaGreatQ03
import Derived.Test.YtlbikgnanabjgaaGreatQ06
import Derived.Test.YtlbikgnanabjgaaGreatQ17
import Derived.Test.YtlbikgnanabjgaaGreatQ19
namespace Go.Proofs.YtlbikgnanabjgaaGreat
open Go.ChangeShapes Go.WideShapes Go.ChangeAt Go.RowKit Go.Deep
theorem cells_u8 : Tryz.prog.cellsOf 5 = 1 := by kernel_rfl
set_option maxRecDepth 100000 in
theorem open_bytes {H : Type} {enc : TypeId × Value → H} {W : World} {v : Value} {d : DataW H} {ps : List MemPlace} (hok : Value.okWide Tryz.prog W .any 0 22 v) (h : DataW.Trod enc Tryz.prog W 0 (fun _ => true) true 22 v d ps) :
  ∃ (U : Nat → Int) (a : Option Addr) (b o len cap : Nat), v = .slice a len cap ∧ len ≤ cap ∧ cap ≤ maxLen ∧ (0 < len → b < W.heap.size) ∧ Bytes U a b o len W := by
 obtain ⟨a0, len, cap, rfl⟩ := okWide_slice Tryz.underlying22 hok
 obtain ⟨fuel, hf⟩ := h
 rcases open_ints Tryz.underlying22 Tryz.underlying5 cells_u8 hf with ⟨hcs, _⟩ | ⟨a, len', cap', zs, hcs, _, hl, hm, hz, _, hcell, hwz⟩
 ·simp [Value.cells] at hcs
  obtain ⟨rfl, rfl, rfl⟩ := hcs
  exact ⟨fun _ => 0, none, 0, 0, 0, 0, rfl, Nat.le_refl _, Nat.zero_le _, fun h => by omega, fun h => by omega, fun i hi => by omega⟩
 ·simp [Value.cells] at hcs
  obtain ⟨rfl, rfl, rfl⟩ := hcs
  simp only [if_true] at hz
  obtain ⟨b, o, spot⟩ := a
  have hsp : 0 < len → spot = none := fun h0 => by simpa [Addr.add] using World.cell?_spot (hcell 0 (by omega))
  have hc : ∀ i, i < len → W.cell? ⟨b, o + i, none⟩ = some (.int .u8 (zs.getD i 0)) := fun i hi => by
   have h1 := hsp (by omega)
   subst h1
   have h2 := hcell i (by omega)
   have ea : (Addr.mk b o none).add i = ⟨b, o + i, none⟩ := by unfold Addr.add; split <;> simp_all
   rwa [ea] at h2
  refine ⟨fun i => zs.getD i 0, some ⟨b, o, spot⟩, b, o, len, cap, rfl, hl, hm, fun h0 => World.block_lt_of_cell? W _ (hc 0 h0), fun h0 => by rw [hsp h0], fun i hi => ⟨hc i hi, ?_⟩⟩
  have hi2 : i < zs.length := by omega
  have hw := hwz _ (List.getElem_mem hi2)
  have e : zs.getD i 0 = zs[i] := by simp [hi2]
  show 0 ≤ zs.getD i 0 ∧ zs.getD i 0 ≤ 255
  rw [e]
  simpa [Lit.wf, IntKind.min, IntKind.max, IntKind.signed, IntKind.bits] using hw
end Go.Proofs.YtlbikgnanabjgaaGreat
namespace Go.Proofs.YtlbikgnanabjgaaGreat
open Go.RowKit
theorem SlIn.set3 {w : World} {B g i j k : Nat} {l : List Tm} {v x y z : Value} (h : SlIn w B l v) (hg : g < B) : SlIn (((w.setCell ⟨g, i, none⟩ x).setCell ⟨g, j, none⟩ y).setCell ⟨g, k, none⟩ z) B l v :=
 ((h.setCell (p := ⟨g, i, none⟩) hg _).setCell (p := ⟨g, j, none⟩) hg _).setCell (p := ⟨g, k, none⟩) hg _
end Go.Proofs.YtlbikgnanabjgaaGreat
namespace Go.Proofs.YtlbikgnanabjgaaGreat
open Go.RowKit
theorem numT_rootOk (m : Nat) : (numT m).rootOk := by
 cases m with
 | zero => exact ⟨rfl, by decide, by decide⟩
 | succ m => exact ⟨rfl, show (0 : Int) ≤ 0 by decide, show (0 : Int) ≤ mostN 8 by decide⟩
theorem hgt_numT (m : Nat) : (numT m).hgt = m + 1 := by
 induction m with
 | zero => rw [numT, Tm.hgt, hgts]
 | succ m ih => rw [numT, Tm.hgt, hgts, hgts, ih]; omega
theorem allOk_numT (m : Nat) : (numT m).allOk := by
 induction m with
 | zero => exact ⟨numT_rootOk 0, trivial⟩
 | succ m ih => exact ⟨numT_rootOk (m + 1), ih, trivial⟩
theorem valid_numT {m : Nat} (h : m ≤ 20) : (numT m).Valid := ⟨allOk_numT m, by rw [hgt_numT]; omega, by rw [numT_size]; omega⟩
end Go.Proofs.YtlbikgnanabjgaaGreat
