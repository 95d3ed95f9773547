/-
  Num, SFree.
-/
import Derived.Test.YteeafpnjpcgfaaaGreatB04
import Derived.Test.YteeafpnjpcgfaaaGreatB09
import Derived.Test.YteeafpnjpcgfaaaGreatB10
import Derived.Deep.RegionHeld3
import Derived.IntWalk
import Derived.ProofKit
import Derived.Test.YteeafpnjpcgfaaaGreatProg
import Derived.WalkSpells
namespace Go.Proofs.YteeafpnjpcgfaaaGreat
open Go.RowKit
def Made (B : Nat) (t : Tm) (v : Value) (w : World) : Prop := ∃ s F, v = .agg #[.int .i64 t.kind, .int .i64 t.num, s] ∧ SlOwn w t.kids s F ∧ F.Nodup ∧ ∀ g ∈ F, B ≤ g ∧ g < w.heap.size
def VarAt (g : Nat) (k n : Int) (s : Value) (w : World) : Prop := w.heap[g]? = some (.cells #[.int .i64 k, .int .i64 n, s] 29 (0, 0))
theorem VarAt.facts {g : Nat} {k n : Int} {s : Value} {w : World} (h : VarAt g k n s w) : g < w.heap.size ∧ w.cell? ⟨g, 0, none⟩ = some (.int .i64 k) ∧ w.cell? ⟨g, 1, none⟩ = some (.int .i64 n) ∧ w.cell? ⟨g, 2, none⟩ = some s ∧ ∀ i, w.frozen? ⟨g, i, none⟩ = false := by
 obtain ⟨h1, h2, h3⟩ := block_of_cells h
 exact ⟨h1, h2 0, h2 1, h2 2, h3⟩
theorem VarAt.below {g : Nat} {k n : Int} {s : Value} {w w' : World} (h : VarAt g k n s w) (hb : Below w.heap.size w w') : VarAt g k n s w' := (hb.block g h.facts.1).trans h
theorem VarAt.far {g : Nat} {k n : Int} {s : Value} {w : World} (h : VarAt g k n s w) {p : Addr} (hp : g ≠ p.block) (u : Value) : VarAt g k n s (w.setCell p u) := (Below.heap_setCell w p u g hp).trans h
theorem VarAt.far3 {g : Nat} {k n : Int} {s : Value} {w : World} (h : VarAt g k n s w) {g' : Nat} (hp : g ≠ g') (a b c : Nat) (x y z : Value) : VarAt g k n s (((w.setCell ⟨g', a, none⟩ x).setCell ⟨g', b, none⟩ y).setCell ⟨g', c, none⟩ z) :=
 ((h.far (p := ⟨g', a, none⟩) hp _).far (p := ⟨g', b, none⟩) hp _).far (p := ⟨g', c, none⟩) hp _
theorem VarAt.set {g : Nat} {k n k' n' : Int} {s s' : Value} {w : World} (h : VarAt g k n s w) : VarAt g k' n' s' (((w.setCell ⟨g, 0, none⟩ (.int .i64 k')).setCell ⟨g, 1, none⟩ (.int .i64 n')).setCell ⟨g, 2, none⟩ s') := by
 have := block_set (block_set (block_set h 0 (.int .i64 k')) 1 (.int .i64 n')) 2 s'
 simpa [VarAt] using this
theorem VarAt.new (w : World) (k n : Int) (s : Value) : VarAt w.heap.size k n s (w.alloc (.cells #[.int .i64 k, .int .i64 n, s] 29)) := heap_new _ _
end Go.Proofs.YteeafpnjpcgfaaaGreat
namespace Go.Proofs.YteeafpnjpcgfaaaGreat
open Go.RowKit
set_option maxRecDepth 100000 in
theorem binds_any (k : Int) (i : Nat) (w : World) : Calls Tryz.prog 95 #[.int .i64 k, .int .i64 i] w fun e w' => e = .returned (.bool (decide (under k i = 1))) ∧ w = w' := by
 by_cases h1 : i = 1
 ·subst h1
  by_cases h : k = 3
  ·subst h
   go_enter Tryz.func95, Tryz.ntmps95
   go_wp2
   go_ret
   exact ⟨rfl, rfl⟩
  ·by_cases h' : k = 4
   ·subst h'
    go_enter Tryz.func95, Tryz.ntmps95
    go_wp2
    go_ret
    exact ⟨rfl, rfl⟩
   ·have g1 : (k == 3) = false := by simpa using h
    have g2 : (k == 4) = false := by simpa using h'
    have HU : Hid (decide (under k 1 = 1) = (k == 13)) := by
     show _ = _
     unfold under
     rw [Bool.eq_iff_iff]
     simp [h, h']
    rw [HU.out]
    clear h h'
    go_enter Tryz.func95, Tryz.ntmps95
    go_wp2
    go_ret
    exact ⟨rfl, rfl⟩
 ·have g0 : ((i : Int) == 1) = false := by simp; omega
  rw [show decide (under k i = 1) = false by unfold under; simp [h1]]
  clear h1
  go_enter Tryz.func95, Tryz.ntmps95
  go_wp2
  go_ret
  exact ⟨rfl, rfl⟩
theorem under_any (k : Int) (i : Nat) (w : World) : Calls Tryz.prog 71 #[.int .i64 k, .int .i64 i] w fun e w' => e = .returned (.int .i64 (under k i)) ∧ w = w' := by
 have HB := tuck (binds_any k i)
 have hu := under_01 k i
 by_cases h : under k i = 1
 ·rw [show decide (under k i = 1) = true by simpa using h] at HB
  rw [h]
  clear h hu
  go_enter Tryz.func71, Tryz.ntmps71
  go_wp2_with (go_at_call 95; refine (HB.out _).mono ?_; rintro e w' ⟨rfl, rfl⟩)
  go_ret
  exact ⟨rfl, rfl⟩
 ·rw [show decide (under k i = 1) = false by simpa using h] at HB
  rw [show under k i = 0 by omega]
  clear h hu
  go_enter Tryz.func71, Tryz.ntmps71
  go_wp2_with (go_at_call 95; refine (HB.out _).mono ?_; rintro e w' ⟨rfl, rfl⟩)
  go_ret
  exact ⟨rfl, rfl⟩
theorem mem_hgts' {l : List Tm} {i : Nat} (h : i < l.length) : l[i].hgt ≤ hgts l := (hgts_le l (hgts l)).1 (Nat.le_refl _) _ (List.getElem_mem h)
theorem valid_bounds {t : Tm} (h : t.Valid) : sizes t.kids ≤ 399 ∧ hgts t.kids ≤ 29 := by
 have h1 := h.2.1
 have h2 := h.2.2
 rw [Tm.hgt_eq] at h1
 rw [Tm.size_eq] at h2
 omega
theorem root_num' {t : Tm} (h : t.rootOk) : t.num ≤ 20 := by
 have h1 := h.2
 unfold mostN at h1
 split at h1
 ·omega
 ·split at h1 <;> omega
end Go.Proofs.YteeafpnjpcgfaaaGreat
