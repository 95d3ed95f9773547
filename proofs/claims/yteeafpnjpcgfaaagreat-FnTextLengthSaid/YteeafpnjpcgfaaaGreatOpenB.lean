/-
  An argument of bytes, as the draws read it.
-/
import Derived.Test.YteeafpnjpcgfaaaGreatOpen
import Derived.Test.YteeafpnjpcgfaaaGreatDraw
namespace Go.Proofs.YteeafpnjpcgfaaaGreat
open Go.ChangeShapes Go.WideShapes Go.ChangeAt Go.RowKit Go.Deep

theorem cells_u8 : Tryz.prog.cellsOf 5 = 1 := by kernel_rfl

set_option maxRecDepth 100000 in
theorem open_bytes {H : Type} {enc : TypeId × Value → H} {W : World} {v : Value} {d : DataW H} {ps : List MemPlace} (hok : Value.okWide Tryz.prog W .any 0 33 v) (h : DataW.Trod enc Tryz.prog W 0 (fun _ => true) true 33 v d ps) :
    ∃ (U : Nat → Int) (a : Option Addr) (b o len cap : Nat), v = .slice a len cap ∧ len ≤ cap ∧ cap ≤ maxLen ∧ (0 < len → b < W.heap.size) ∧ Bytes U a b o len W := by
  obtain ⟨a0, len, cap, rfl⟩ := okWide_slice Tryz.underlying33 hok
  obtain ⟨fuel, hf⟩ := h
  rcases open_ints Tryz.underlying33 Tryz.underlying5 cells_u8 hf with ⟨hcs, _⟩ | ⟨a, len', cap', zs, hcs, _, hl, hm, hz, _, hcell, hwz⟩
  · simp [Value.cells] at hcs
    obtain ⟨rfl, rfl, rfl⟩ := hcs
    exact ⟨fun _ => 0, none, 0, 0, 0, 0, rfl, Nat.le_refl _, Nat.zero_le _, fun h => by omega, fun h => by omega, fun i hi => by omega⟩
  · simp [Value.cells] at hcs
    obtain ⟨rfl, rfl, rfl⟩ := hcs
    simp only [if_true] at hz
    obtain ⟨b, o, spot⟩ := a
    have hsp : 0 < len → spot = none := fun h0 => by simpa [Addr.add] using World.cell?_spot (hcell 0 (by omega))
    have hc : ∀ i, i < len → W.cell? ⟨b, o + i, none⟩ = some (.int .u8 (zs.getD i 0)) := fun i hi => by
      have h1 := hsp (by omega)
      subst h1
      have h2 := hcell i (by omega)
      have ea : (Addr.mk b o none).add i = ⟨b, o + i, none⟩ := by unfold Addr.add; split <;> simp_all
      rwa [ea] at h2
    refine ⟨fun i => zs.getD i 0, some ⟨b, o, spot⟩, b, o, len, cap, rfl, hl, hm, fun h0 => World.block_lt_of_cell? W _ (hc 0 h0), fun h0 => by rw [hsp h0], fun i hi => ⟨hc i hi, ?_⟩⟩
    have hi2 : i < zs.length := by omega
    have hw := hwz _ (List.getElem_mem hi2)
    have e : zs.getD i 0 = zs[i] := by simp [hi2]
    show 0 ≤ zs.getD i 0 ∧ zs.getD i 0 ≤ 255
    rw [e]
    simpa [Lit.wf, IntKind.min, IntKind.max, IntKind.signed, IntKind.bits] using hw

end Go.Proofs.YteeafpnjpcgfaaaGreat
