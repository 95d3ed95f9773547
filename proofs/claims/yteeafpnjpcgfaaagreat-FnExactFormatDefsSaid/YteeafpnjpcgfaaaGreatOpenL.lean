/-
  An argument that is a slice of terms: it reads as a list of terms.
-/
import Derived.Test.YteeafpnjpcgfaaaGreatOpen
namespace Go.Proofs.YteeafpnjpcgfaaaGreat
open Go.ChangeShapes Go.WideShapes Go.ChangeAt Go.RowKit Go.Deep

section
variable {H : Type} {enc : TypeId × Value → H} {W : World}

set_option maxRecDepth 100000 in
theorem open_terms {v : Value} {d : DataW H} {ps : List MemPlace} (hok : Value.okWide Tryz.prog W .any 0 22 v) (h : DataW.Trod enc Tryz.prog W 0 (fun _ => true) true 22 v d ps) : ∃ l : List Tm, SlIn W 0 l v := by
  obtain ⟨a0, len0, cap0, rfl⟩ := okWide_slice Tryz.underlying22 hok
  obtain ⟨n, hn⟩ := h
  rcases open_slice Tryz.underlying22 hn with ⟨hc, hy⟩ | ⟨a, len, cap, mm, q, D, Pl, hc, _, hl, hm, hmm, hy, hall⟩
  · simp [Value.cells] at hc
    obtain ⟨rfl, rfl, rfl⟩ := hc
    exact ⟨[], SlIn.nil _ _ _ _⟩
  · simp [Value.cells] at hc
    obtain ⟨rfl, rfl, rfl⟩ := hc
    simp only [if_true] at hmm
    subst hmm
    rw [cells_lterm] at hall
    have hone : ∀ i, i < len0 → ∃ t s, W.cell? (a.add (i * 3)) = some (.int .i64 (Tm.kind t)) ∧ W.cell? ((a.add (i * 3)).add 1) = some (.int .i64 (Tm.num t)) ∧ W.cell? ((a.add (i * 3)).add 2) = some s ∧ SlIn W 0 (Tm.kids t) s := by
      intro i hi
      obtain ⟨cs', g1, g2⟩ := hall i (by omega)
      obtain ⟨t, s, rfl, hs⟩ := open_termN (W := W) (enc := enc) _ (D i) (Nat.le_refl _) q cs' (Pl i) g2
      obtain ⟨_, _, hcell⟩ := World.cells?_some g1
      exact ⟨t, s, by simpa [Addr.add] using hcell 0 (by omega), by simpa using hcell 1 (by omega), by simpa using hcell 2 (by omega), hs⟩
    obtain ⟨T, hT⟩ := choose_lt (α := Tm) (p := fun i t => ∃ s, W.cell? (a.add (i * 3)) = some (.int .i64 (Tm.kind t)) ∧ W.cell? ((a.add (i * 3)).add 1) = some (.int .i64 (Tm.num t)) ∧ W.cell? ((a.add (i * 3)).add 2) = some s ∧ SlIn W 0 (Tm.kids t) s) hone
    obtain ⟨b, o, spot⟩ := a
    refine ⟨(List.range len0).map T, SlIn.of_range (b := b) (o := o) (by omega) (fun h0 => ?_) (fun i hi => ?_)⟩
    · obtain ⟨s, g0, _⟩ := hT 0 h0
      have : spot = none := by simpa [Addr.add] using World.cell?_spot g0
      rw [this]
    · obtain ⟨s0, g0, _⟩ := hT 0 (by omega)
      have : spot = none := by simpa [Addr.add] using World.cell?_spot g0
      subst this
      obtain ⟨s, g0, g1, g2, hs⟩ := hT i hi
      have ea : ∀ j, (Addr.mk b o none).add j = ⟨b, o + j, none⟩ := fun j => by unfold Addr.add; split <;> simp_all
      have eb : ∀ x j, (Addr.mk b x none).add j = ⟨b, x + j, none⟩ := fun x j => by unfold Addr.add; split <;> simp_all
      rw [ea] at g0
      rw [ea, eb] at g1 g2
      exact TmAt_iff.2 ⟨s, g0, g1, g2, hs⟩
end

end Go.Proofs.YteeafpnjpcgfaaaGreat
