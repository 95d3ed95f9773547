/-
  An argument of ints.
-/
import Derived.Test.YtjhjnkeildeedaaOpen
import Derived.Test.YtjhjnkeildeedaaInts
namespace Go.Proofs.Ytjhjnkeildeedaa
open Go.ChangeShapes Go.WideShapes Go.ChangeAt Go.RowKit Go.Deep


set_option maxRecDepth 100000 in
theorem open_intsl {H : Type} {enc : TypeId × Value → H} {W : World} {v : Value} {d : DataW H} {ps : List MemPlace} (hok : Value.okWide Try.prog W .any 0 24 v) (h : DataW.Trod enc Try.prog W 0 (fun _ => true) true 24 v d ps) :
    ∃ (N : Int → Int) (len : Nat), Ints W 0 N len v := by
  obtain ⟨a0, len, cap, rfl⟩ := okWide_slice Try.underlying24 hok
  obtain ⟨fuel, hf⟩ := h
  rcases open_ints Try.underlying24 Try.underlying3 cells_int hf with ⟨hcs, _⟩ | ⟨a, len', cap', zs, hcs, _, hl, hm, hz, _, hcell, hwz⟩
  · simp [Value.cells] at hcs
    obtain ⟨rfl, rfl, rfl⟩ := hcs
    exact ⟨fun _ => 0, 0, none, 0, 0, 0, rfl, fun h => by omega, fun i hi => by omega⟩
  · simp [Value.cells] at hcs
    obtain ⟨rfl, rfl, rfl⟩ := hcs
    simp only [if_true] at hz
    obtain ⟨b, o, spot⟩ := a
    have hsp : 0 < len → spot = none := fun h0 => by simpa [Addr.add] using World.cell?_spot (hcell 0 (by omega))
    have hc : ∀ i, i < len → W.cell? ⟨b, o + i, none⟩ = some (.int .i64 (zs.getD i 0)) := fun i hi => by
      have h1 := hsp (by omega)
      subst h1
      have h2 := hcell i (by omega)
      have ea : (Addr.mk b o none).add i = ⟨b, o + i, none⟩ := by unfold Addr.add; split <;> simp_all
      rwa [ea] at h2
    exact ⟨fun x => zs.getD x.toNat 0, len, some ⟨b, o, spot⟩, cap, b, o, rfl, fun h0 => ⟨by rw [hsp h0], Nat.zero_le _, World.block_lt_of_cell? W _ (hc 0 h0)⟩, fun i hi => by simpa using hc i hi⟩

end Go.Proofs.Ytjhjnkeildeedaa
