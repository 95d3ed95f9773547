/-
  SFree.
-/
import Derived.Test.YtlbikgnanabjgaaGreatQ03
import Derived.Test.YtlbikgnanabjgaaGreatQ07
import Derived.Deep.RegionHeld3
import Derived.IntWalk
namespace Go.Proofs.YtlbikgnanabjgaaGreat
open Go.RowKit
set_option maxRecDepth 100000 in
theorem binds_any (k : Int) (i : Nat) (w : World) : Calls Tryz.prog 84 #[.int .i64 k, .int .i64 i] w fun e w' => e = .returned (.bool (decide (under k i = 1))) ∧ w = w' := by
 by_cases h1 : i = 1
 ·subst h1
  by_cases h : k = 3
  ·subst h
   go_enter Tryz.func84, Tryz.ntmps84
   go_wp2
   go_ret
   exact ⟨rfl, rfl⟩
  ·by_cases h' : k = 4
   ·subst h'
    go_enter Tryz.func84, Tryz.ntmps84
    go_wp2
    go_ret
    exact ⟨rfl, rfl⟩
   ·have g1 : (k == 3) = false := by simpa using h
    have g2 : (k == 4) = false := by simpa using h'
    have HU : Hid (decide (under k 1 = 1) = (k == 13)) := by
     show _ = _
     unfold under
     rw [Bool.eq_iff_iff]
     simp [h, h']
    rw [HU.out]
    clear h h'
    go_enter Tryz.func84, Tryz.ntmps84
    go_wp2
    go_ret
    exact ⟨rfl, rfl⟩
 ·have g0 : ((i : Int) == 1) = false := by simp; omega
  rw [show decide (under k i = 1) = false by unfold under; simp [h1]]
  clear h1
  go_enter Tryz.func84, Tryz.ntmps84
  go_wp2
  go_ret
  exact ⟨rfl, rfl⟩
theorem under_any (k : Int) (i : Nat) (w : World) : Calls Tryz.prog 76 #[.int .i64 k, .int .i64 i] w fun e w' => e = .returned (.int .i64 (under k i)) ∧ w = w' := by
 have HB := tuck (binds_any k i)
 have hu := under_01 k i
 by_cases h : under k i = 1
 ·rw [show decide (under k i = 1) = true by simpa using h] at HB
  rw [h]
  clear h hu
  go_enter Tryz.func76, Tryz.ntmps76
  go_wp2_with (go_at_call 84; refine (HB.out _).mono ?_; rintro e w' ⟨rfl, rfl⟩)
  go_ret
  exact ⟨rfl, rfl⟩
 ·rw [show decide (under k i = 1) = false by simpa using h] at HB
  rw [show under k i = 0 by omega]
  clear h hu
  go_enter Tryz.func76, Tryz.ntmps76
  go_wp2_with (go_at_call 84; refine (HB.out _).mono ?_; rintro e w' ⟨rfl, rfl⟩)
  go_ret
  exact ⟨rfl, rfl⟩
theorem mem_hgts' {l : List Tm} {i : Nat} (h : i < l.length) : l[i].hgt ≤ hgts l := (hgts_le l (hgts l)).1 (Nat.le_refl _) _ (List.getElem_mem h)
theorem valid_bounds {t : Tm} (h : t.Valid) : sizes t.kids ≤ 399 ∧ hgts t.kids ≤ 29 := by
 have h1 := h.2.1
 have h2 := h.2.2
 rw [Tm.hgt_eq] at h1
 rw [Tm.size_eq] at h2
 omega
theorem root_num' {t : Tm} (h : t.rootOk) : t.num ≤ 20 := by
 have h1 := h.2
 unfold mostN at h1
 split at h1
 ·omega
 ·split at h1 <;> omega
end Go.Proofs.YtlbikgnanabjgaaGreat
