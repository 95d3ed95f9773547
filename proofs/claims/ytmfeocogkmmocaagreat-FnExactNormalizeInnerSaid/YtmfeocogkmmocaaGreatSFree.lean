/-
  spec.l2Times, CountVar, FreeAt, l2Most, MaxFree answer as 'countOf', 'maxFreeOf' say.
-/
import Derived.Test.YtmfeocogkmmocaaGreatBind
import Derived.Test.YtmfeocogkmmocaaGreatSpecV
import Derived.Deep.RegionHeld3
import Derived.IntWalk
namespace Go.Proofs.YtmfeocogkmmocaaGreat
open Go.RowKit

set_option maxRecDepth 100000 in
theorem binds_any (k : Int) (i : Nat) (w : World) : Calls Tryz.prog 84 #[.int .i64 k, .int .i64 i] w fun e w' => e = .returned (.bool (decide (under k i = 1))) ∧ w = w' := by
  by_cases h1 : i = 1
  · subst h1
    by_cases h : k = 3
    · subst h
      go_enter Tryz.func84, Tryz.ntmps84
      go_wp2
      go_ret
      exact ⟨rfl, rfl⟩
    · by_cases h' : k = 4
      · subst h'
        go_enter Tryz.func84, Tryz.ntmps84
        go_wp2
        go_ret
        exact ⟨rfl, rfl⟩
      · have g1 : (k == 3) = false := by simpa using h
        have g2 : (k == 4) = false := by simpa using h'
        have HU : Hid (decide (under k 1 = 1) = (k == 13)) := by
          show _ = _
          unfold under
          rw [Bool.eq_iff_iff]
          simp [h, h']
        rw [HU.out]
        clear h h'
        go_enter Tryz.func84, Tryz.ntmps84
        go_wp2
        go_ret
        exact ⟨rfl, rfl⟩
  · have g0 : ((i : Int) == 1) = false := by simp; omega
    rw [show decide (under k i = 1) = false by unfold under; simp [h1]]
    clear h1
    go_enter Tryz.func84, Tryz.ntmps84
    go_wp2
    go_ret
    exact ⟨rfl, rfl⟩

theorem under_any (k : Int) (i : Nat) (w : World) : Calls Tryz.prog 79 #[.int .i64 k, .int .i64 i] w fun e w' => e = .returned (.int .i64 (under k i)) ∧ w = w' := by
  have HB := tuck (binds_any k i)
  have hu := under_01 k i
  by_cases h : under k i = 1
  · rw [show decide (under k i = 1) = true by simpa using h] at HB
    rw [h]
    clear h hu
    go_enter Tryz.func79, Tryz.ntmps79
    go_wp2_with (go_at_call 84; refine (HB.out _).mono ?_; rintro e w' ⟨rfl, rfl⟩)
    go_ret
    exact ⟨rfl, rfl⟩
  · rw [show decide (under k i = 1) = false by simpa using h] at HB
    rw [show under k i = 0 by omega]
    clear h hu
    go_enter Tryz.func79, Tryz.ntmps79
    go_wp2_with (go_at_call 84; refine (HB.out _).mono ?_; rintro e w' ⟨rfl, rfl⟩)
    go_ret
    exact ⟨rfl, rfl⟩

/-- What is held through a region that calls: a term's box, and a row's three cells. -/
theorem hold_below {w w' : World} {W : World} {g bb o : Nat} {k : Int} {v v2 : Value} {k1 n1 : Int}
    (h : Below W.heap.size W w ∧ (g < w.heap.size ∧ bb < w.heap.size) ∧ w.cell? ⟨g, 0, none⟩ = some (.int .i64 k) ∧ w.cell? ⟨g, 2, none⟩ = some v ∧ w.cell? ⟨bb, o, none⟩ = some (.int .i64 k1) ∧ w.cell? ⟨bb, o + 1, none⟩ = some (.int .i64 n1) ∧ w.cell? ⟨bb, o + 2, none⟩ = some v2)
    (hb : Below w.heap.size w w') :
    Below W.heap.size W w' ∧ (g < w'.heap.size ∧ bb < w'.heap.size) ∧ w'.cell? ⟨g, 0, none⟩ = some (.int .i64 k) ∧ w'.cell? ⟨g, 2, none⟩ = some v ∧ w'.cell? ⟨bb, o, none⟩ = some (.int .i64 k1) ∧ w'.cell? ⟨bb, o + 1, none⟩ = some (.int .i64 n1) ∧ w'.cell? ⟨bb, o + 2, none⟩ = some v2 := by
  obtain ⟨h0, ⟨z0, z1⟩, h1, h2, h3, h4, h5⟩ := h
  have := hb.size
  exact ⟨bAfter h0 hb, ⟨by omega, by omega⟩, (hb.cell (p := ⟨g, 0, none⟩) z0).trans h1, (hb.cell (p := ⟨g, 2, none⟩) z0).trans h2, (hb.cell (p := ⟨bb, o, none⟩) z1).trans h3, (hb.cell (p := ⟨bb, o + 1, none⟩) z1).trans h4, (hb.cell (p := ⟨bb, o + 2, none⟩) z1).trans h5⟩

theorem hold_fst {p q : Prop} (h : p ∧ q) : p := h.1
theorem mem_hgts' {l : List Tm} {i : Nat} (h : i < l.length) : l[i].hgt ≤ hgts l := (hgts_le l (hgts l)).1 (Nat.le_refl _) _ (List.getElem_mem h)

/-- A valid term's bounds. -/
theorem valid_bounds {t : Tm} (h : t.Valid) : sizes t.kids ≤ 399 ∧ hgts t.kids ≤ 29 := by
  have h1 := h.2.1
  have h2 := h.2.2
  rw [Tm.hgt_eq] at h1
  rw [Tm.size_eq] at h2
  omega

theorem count_pos (t : Tm) (x : Int) : decide (0 < countOf t x) = (countOf t x != 0) := by
  have h : 0 ≤ countOf t x := by
    unfold countOf
    have := t.times_bd x
    split <;> omega
  rw [Bool.eq_iff_iff]
  simp
  omega

theorem root_num' {t : Tm} (h : t.rootOk) : t.num ≤ 20 := by
  have h1 := h.2
  unfold mostN at h1
  split at h1
  · omega
  · split at h1 <;> omega

end Go.Proofs.YtmfeocogkmmocaaGreat
