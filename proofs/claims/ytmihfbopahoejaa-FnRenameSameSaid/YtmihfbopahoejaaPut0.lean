/-
  The first term of a row of its own is set: what may be read then.
-/
import Derived.Test.YtmihfbopahoejaaSpecT
import Derived.Test.YtmihfbopahoejaaMark
namespace Go.Proofs.Ytmihfbopahoejaa
open Go.RowKit

/-- Behind a store of a term without operands into the first place of a row. -/
theorem put0 {w : World} {B : Nat} {x : Tm} {l : List Tm} {v : Value} {F : List Nat} {k n : Int} (h : SlOwn w (x :: l) v F) (hn : F.Nodup) (hB : ∀ g ∈ F, B ≤ g) : ∃ (gr cap : Nat), v = .slice (some ⟨gr, 0, none⟩) (l.length + 1) cap ∧ gr ∈ F ∧ (∀ i, w.frozen? ⟨gr, i, none⟩ = false) ∧
    (∃ c0 c1 c2, w.cell? ⟨gr, 0, none⟩ = some c0 ∧ w.cell? ⟨gr, 1, none⟩ = some c1 ∧ w.cell? ⟨gr, 2, none⟩ = some c2) ∧
    SlIn (((w.setCell ⟨gr, 0, none⟩ (.int .i64 k)).setCell ⟨gr, 1, none⟩ (.int .i64 n)).setCell ⟨gr, 2, none⟩ (.slice none 0 0)) B (.mk k n [] :: l) v := by
  obtain ⟨a, cap, b, F1, rfl, hl, hab, hrow⟩ := h
  rcases hab with ⟨h1, _⟩ | ⟨rfl, rfl, hfz⟩
  · cases h1
  · have hr := hrow (by simp)
    rw [RowOwn] at hr
    obtain ⟨G, F3, rfl, h3, h4⟩ := hr
    obtain ⟨s, c0, c1, c2, hs⟩ := TmOwn_iff.1 h3
    rw [List.nodup_cons] at hn
    obtain ⟨hb, hn⟩ := hn
    have ne : ∀ {i j : Nat}, i ≠ j → (⟨b, i, none⟩ : Addr) ≠ ⟨b, j, none⟩ := fun h e => by injection e with _ e; exact h e
    have far : ∀ (i : Nat), 3 ≤ i → (((w.setCell ⟨b, 0, none⟩ (.int .i64 k)).setCell ⟨b, 1, none⟩ (.int .i64 n)).setCell ⟨b, 2, none⟩ (.slice none 0 0)).cell? ⟨b, i, none⟩ = w.cell? ⟨b, i, none⟩ := fun i hi => by
      rw [World.cell?_setCell_other _ _ _ _ (ne (by omega)), World.cell?_setCell_other _ _ _ _ (ne (by omega)), World.cell?_setCell_other _ _ _ _ (ne (by omega))]
    have d0 : (((w.setCell ⟨b, 0, none⟩ (.int .i64 k)).setCell ⟨b, 1, none⟩ (.int .i64 n)).setCell ⟨b, 2, none⟩ (.slice none 0 0)).cell? ⟨b, 0, none⟩ = some (.int .i64 k) := by
      rw [World.cell?_setCell_other _ _ _ _ (ne (by omega)), World.cell?_setCell_other _ _ _ _ (ne (by omega))]
      exact World.cell?_setCell_same _ _ _ c0
    have d1 : (((w.setCell ⟨b, 0, none⟩ (.int .i64 k)).setCell ⟨b, 1, none⟩ (.int .i64 n)).setCell ⟨b, 2, none⟩ (.slice none 0 0)).cell? ⟨b, 0 + 1, none⟩ = some (.int .i64 n) := by
      rw [World.cell?_setCell_other _ _ _ _ (ne (by omega))]
      exact World.cell?_setCell_same _ _ _ ((World.cell?_setCell_other _ _ _ _ (ne (by omega))).trans c1)
    have d2 : (((w.setCell ⟨b, 0, none⟩ (.int .i64 k)).setCell ⟨b, 1, none⟩ (.int .i64 n)).setCell ⟨b, 2, none⟩ (.slice none 0 0)).cell? ⟨b, 0 + 2, none⟩ = some (.slice none 0 0) :=
      World.cell?_setCell_same _ _ _ ((World.cell?_setCell_other _ _ _ _ (ne (by omega))).trans ((World.cell?_setCell_other _ _ _ _ (ne (by omega))).trans c2))
    have hF3 : ∀ g ∈ F3, SameAt w (((w.setCell ⟨b, 0, none⟩ (.int .i64 k)).setCell ⟨b, 1, none⟩ (.int .i64 n)).setCell ⟨b, 2, none⟩ (.slice none 0 0)) g := fun g hg => by
      have hgb : g ≠ b := fun e => hb (by rw [← e]; simp [hg])
      exact ((sameAt_set (p := ⟨b, 0, none⟩) hgb).trans (sameAt_set (p := ⟨b, 1, none⟩) hgb)).trans (sameAt_set (p := ⟨b, 2, none⟩) hgb)
    have hrest := h4.keep (w' := (((w.setCell ⟨b, 0, none⟩ (.int .i64 k)).setCell ⟨b, 1, none⟩ (.int .i64 n)).setCell ⟨b, 2, none⟩ (.slice none 0 0))) (fun i _ => far _ (by omega)) hF3
    have hfz3 : ∀ i, (((w.setCell ⟨b, 0, none⟩ (.int .i64 k)).setCell ⟨b, 1, none⟩ (.int .i64 n)).setCell ⟨b, 2, none⟩ (.slice none 0 0)).frozen? ⟨b, i, none⟩ = false := fun i => by
      rw [World.frozen?_setCell, World.frozen?_setCell, World.frozen?_setCell]
      exact hfz i
    have hown : SlOwn (((w.setCell ⟨b, 0, none⟩ (.int .i64 k)).setCell ⟨b, 1, none⟩ (.int .i64 n)).setCell ⟨b, 2, none⟩ (.slice none 0 0)) (.mk k n [] :: l) (.slice (some ⟨b, 0, none⟩) (l.length + 1) cap) (b :: F3) := by
      refine ⟨some ⟨b, 0, none⟩, cap, b, F3, rfl, by simpa using hl, Or.inr ⟨rfl, rfl, hfz3⟩, fun _ => ?_⟩
      rw [RowOwn]
      exact ⟨[], F3, rfl, TmOwn_iff.2 ⟨_, d0, d1, d2, SlOwn.nil _ _ _⟩, hrest⟩
    refine ⟨b, cap, rfl, by simp, hfz, ⟨_, _, _, c0, by simpa using c1, by simpa using c2⟩, hown.sl (fun g hg => hB g ?_)⟩
    rcases List.mem_cons.1 hg with rfl | hg
    · simp
    · simp [hg]

end Go.Proofs.Ytmihfbopahoejaa
