/-
  spec.l2Times, CountVar, FreeAt, l2Most, MaxFree answer as 'countOf', 'maxFreeOf' say.
-/
import Derived.Test.YtjhjnkeildeedaaBind
import Derived.Test.YtjhjnkeildeedaaSpecV
import Derived.Deep.RegionHeld3
import Derived.IntWalk
namespace Go.Proofs.Ytjhjnkeildeedaa
open Go.RowKit

/-- What is held through a region that calls: a term's box, and a row's three cells. -/
theorem hold_below {w w' : World} {W : World} {g bb o : Nat} {k : Int} {v v2 : Value} {k1 n1 : Int}
    (h : Below W.heap.size W w ∧ (g < w.heap.size ∧ bb < w.heap.size) ∧ w.cell? ⟨g, 0, none⟩ = some (.int .i64 k) ∧ w.cell? ⟨g, 2, none⟩ = some v ∧ w.cell? ⟨bb, o, none⟩ = some (.int .i64 k1) ∧ w.cell? ⟨bb, o + 1, none⟩ = some (.int .i64 n1) ∧ w.cell? ⟨bb, o + 2, none⟩ = some v2)
    (hb : Below w.heap.size w w') :
    Below W.heap.size W w' ∧ (g < w'.heap.size ∧ bb < w'.heap.size) ∧ w'.cell? ⟨g, 0, none⟩ = some (.int .i64 k) ∧ w'.cell? ⟨g, 2, none⟩ = some v ∧ w'.cell? ⟨bb, o, none⟩ = some (.int .i64 k1) ∧ w'.cell? ⟨bb, o + 1, none⟩ = some (.int .i64 n1) ∧ w'.cell? ⟨bb, o + 2, none⟩ = some v2 := by
  obtain ⟨h0, ⟨z0, z1⟩, h1, h2, h3, h4, h5⟩ := h
  have := hb.size
  exact ⟨bAfter h0 hb, ⟨by omega, by omega⟩, (hb.cell (p := ⟨g, 0, none⟩) z0).trans h1, (hb.cell (p := ⟨g, 2, none⟩) z0).trans h2, (hb.cell (p := ⟨bb, o, none⟩) z1).trans h3, (hb.cell (p := ⟨bb, o + 1, none⟩) z1).trans h4, (hb.cell (p := ⟨bb, o + 2, none⟩) z1).trans h5⟩

theorem hold_fst {p q : Prop} (h : p ∧ q) : p := h.1
theorem mem_hgts' {l : List Tm} {i : Nat} (h : i < l.length) : l[i].hgt ≤ hgts l := (hgts_le l (hgts l)).1 (Nat.le_refl _) _ (List.getElem_mem h)

/-- A valid term's bounds. -/
theorem valid_bounds {t : Tm} (h : t.Valid) : sizes t.kids ≤ 399 ∧ hgts t.kids ≤ 29 := by
  have h1 := h.2.1
  have h2 := h.2.2
  rw [Tm.hgt_eq] at h1
  rw [Tm.size_eq] at h2
  omega

theorem count_pos (t : Tm) (x : Int) : decide (0 < countOf t x) = (countOf t x != 0) := by
  have h : 0 ≤ countOf t x := by
    unfold countOf
    have := t.times_bd x
    split <;> omega
  rw [Bool.eq_iff_iff]
  simp
  omega

theorem root_num' {t : Tm} (h : t.rootOk) : t.num ≤ 20 := by
  have h1 := h.2
  unfold mostN at h1
  split at h1
  · omega
  · split at h1 <;> omega

end Go.Proofs.Ytjhjnkeildeedaa
