/-
  DfF.
-/
import Derived.Test.YtpddjebdncaceaaGreatB13
import Derived.Test.YtpddjebdncaceaaGreatB27
import Derived.Carry
import Derived.IntWalk
namespace Go.Proofs.YtpddjebdncaceaaGreat
open Go.RowKit
def EnvN (n : Nat) (v : Value) (w : World) : Prop := (n = 0 ∧ v = .pointer none) ∨ (0 < n ∧ ∃ g, v = .pointer (some ⟨g, 0, none⟩) ∧ g < w.heap.size ∧ w.cell? ⟨g, 7, none⟩ = some (.int .i64 n))
theorem EnvN.below {n : Nat} {v : Value} {w w' : World} (h : EnvN n v w) (hb : Below w.heap.size w w') : EnvN n v w' := by
 rcases h with h | ⟨h, g, hv, hg, hc⟩
 ·exact Or.inl h
 ·exact Or.inr ⟨h, g, hv, Nat.lt_of_lt_of_le hg hb.size, (hb.cell (p := ⟨g, 7, none⟩) hg).trans hc⟩
theorem envCount_any (n : Nat) (w : World) (v : Value) (h : EnvN n v w) : Calls Tryz.prog 70 #[v] w (IntPost w n) := by
 rcases h with ⟨rfl, rfl⟩ | ⟨h, g, rfl, hg, hc⟩
 ·have HP : Hid (IntPost w (0 : Nat) (.returned (.int .i64 0)) w) := tuck ⟨rfl, Below.refl _ _⟩
  generalize IntPost w (0 : Nat) = post at *
  go_enter Tryz.func70, Tryz.ntmps70
  go_wp2
  exact HP.out
 ·have HP : Hid (IntPost w n (.returned (.int .i64 n)) w) := tuck ⟨rfl, Below.refl _ _⟩
  generalize IntPost w n = post at *
  go_enter Tryz.func70, Tryz.ntmps70
  go_wp2
  exact HP.out
set_option maxRecDepth 100000 in
theorem envCovers_any (t : Tm) (n : Nat) (w : World) (v s : Value) (h : EnvN n v w) (hs : SlIn w 0 t.kids s) : Calls Tryz.prog 69 #[v, .agg #[.int .i64 t.kind, .int .i64 t.num, s]] w (BoolPost w (decide (0 ≤ maxFreeOf t ∧ maxFreeOf t ≤ n))) := by
 obtain ⟨a, c, rfl⟩ := hs.form
 obtain ⟨m, hm⟩ : ∃ m, m = maxFreeOf t := ⟨_, rfl⟩
 rw [← hm]
 have hb0 := below1 w (.cells #[.int .i64 t.kind, .int .i64 t.num, .slice a t.kids.length c] 34)
 have HM : Hid (∀ (W : World), SlIn W 0 t.kids (.slice a t.kids.length c) → Calls Tryz.prog 24 #[.agg #[.int .i64 t.kind, .int .i64 t.num, .slice a t.kids.length c]] W (IntPost W m)) := tuck fun W hW => by rw [hm]; exact maxFreeI_any _ W _ ⟨_, rfl, hW⟩
 have HS := tuck (hs.below hb0)
 have HE := tuck (h.below hb0)
 have HB := tuck hb0
 have HC : Hid (∀ (W : World), EnvN n v W → Calls Tryz.prog 70 #[v] W (IntPost W n)) := tuck fun W h => envCount_any n W v h
 have hvf : ∃ p, v = .pointer p := by rcases h with ⟨-, rfl⟩ | ⟨-, g, rfl, -⟩ <;> exact ⟨_, rfl⟩
 obtain ⟨pp, rfl⟩ := hvf
 clear hb0 hs h hm
 by_cases h0 : 0 ≤ m
 ·have d0 : decide (0 ≤ m) = true := decide_eq_true h0
  have hdd : decide (0 ≤ m ∧ m ≤ n) = decide (m ≤ (n : Int)) := by simp [h0]
  rw [hdd]
  go_enter Tryz.func69, Tryz.ntmps69
  go_wp2_with fail
  refine (HM.out _ HS.out).mono ?_
  rintro e w1 ⟨rfl, hb1⟩
  replace HB := tuck (bAfter HB.out hb1)
  replace HE := tuck (HE.out.below hb1)
  clear hb1
  go_wp2_with fail
  refine (HC.out _ HE.out).mono ?_
  rintro e w2 ⟨rfl, hb1⟩
  replace HB := tuck (bAfter HB.out hb1)
  clear hb1
  go_wp2_with fail
  go_ret
  exact ⟨rfl, HB.out⟩
 ·have d0 : decide (0 ≤ m) = false := decide_eq_false h0
  have hdd : decide (0 ≤ m ∧ m ≤ n) = false := decide_eq_false fun h => h0 h.1
  rw [hdd]
  go_enter Tryz.func69, Tryz.ntmps69
  go_wp2_with fail
  refine (HM.out _ HS.out).mono ?_
  rintro e w1 ⟨rfl, hb1⟩
  replace HB := tuck (bAfter HB.out hb1)
  clear hb1
  go_wp2_with fail
  go_ret
  exact ⟨rfl, HB.out⟩
end Go.Proofs.YtpddjebdncaceaaGreat
