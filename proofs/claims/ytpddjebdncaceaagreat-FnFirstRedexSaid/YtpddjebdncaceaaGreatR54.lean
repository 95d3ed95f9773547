/-
  VarsF.
-/
import Derived.Test.YtpddjebdncaceaaGreatR11
import Derived.Test.YtpddjebdncaceaaGreatR13
import Derived.Test.YtpddjebdncaceaaGreatR14
import Derived.Test.YtpddjebdncaceaaGreatR18
import Derived.Test.YtpddjebdncaceaaGreatR25
import Derived.Test.YtpddjebdncaceaaGreatR26
import Derived.Test.YtpddjebdncaceaaGreatR27
import Derived.Test.YtpddjebdncaceaaGreatR29
import Derived.Test.YtpddjebdncaceaaGreatR47
import Derived.Test.YtpddjebdncaceaaGreatR49
import Derived.Test.YtpddjebdncaceaaGreatR50
import Derived.Test.YtpddjebdncaceaaGreatR52
import Derived.Test.YtpddjebdncaceaaGreatR53
import Derived.BigQuiet
import Derived.Deep.DeepCutAuto
import Derived.Deep.QuietTactic
namespace Go.Proofs.YtpddjebdncaceaaGreat
open Go.RowKit
set_option linter.unusedVariables false
set_option linter.unusedSimpArgs false
def CdPost (w : World) (c : Int) (T : Tm) (e : Ending) (w' : World) : Prop := Below w.heap.size w w' ∧ ∃ v, e = .returned (.tuple #[v, .int .i64 c]) ∧ TmIn w' 0 T v
theorem stepI_f (T : Tm) (w : World) (v : Value) (h : TmIn w 0 T v) : Calls Tryz.prog 28 #[v] w (CdPost w (stepOut false false T).2 (stepOut false false T).1) := (stepTI_any T w v h).mono fun _ _ h => by
 obtain ⟨hb, v, he, s, F, hv, hs, -, -⟩ := h
 exact ⟨hb, v, he, s, hv, hs.sl fun _ _ => Nat.zero_le _⟩
theorem contrAtI_n {t : Tm} {N : Int → Int} {len : Nat} (hlen : len ≤ 1048576) (w : World) (v tv : Value) (hl : Ints w 0 N len v) (ht : TmIn w 0 t tv) : Calls Tryz.prog 20 #[tv, v] w (NewPost8 w (orZero (ContrAt t N len) (contrAt t N len)) (tr (ContrAt t N len))) := (contractAtI_any t N len hlen w tv v ht hl).mono fun _ _ ⟨hb, v, he, s, _, hv, hs, _, hF⟩ => ⟨hb, v, he, s, hv, hs.sl fun g hg => (hF g hg).1⟩
theorem first_none {T : Tm} (h : (placesP true T).length = 0) : (stepOut false false T).2 ≠ 1 := by
 have hn := List.length_eq_zero_iff.1 h
 unfold stepOut
 by_cases hv : T.Valid
 ·rw [if_pos hv, (step_first hv).1 hn]
  simp
 ·rw [if_neg hv]
  simp
theorem first_some {T : Tm} (h : 0 < (placesP true T).length) : IsPlace T (placesP true T)[0].1 (placesP true T)[0].2 ∧ (placesP true T)[0].2 ≤ 1048576 ∧
  ((ContrAt T (placesP true T)[0].1 (placesP true T)[0].2 ∧ stepOut false false T = (contrAt T (placesP true T)[0].1 (placesP true T)[0].2, 1)) ∨ (¬ ContrAt T (placesP true T)[0].1 (placesP true T)[0].2 ∧ stepOut false false T = (zeroT, 2))) := by
 have hv : T.Valid := Classical.byContradiction fun hn => by
  have h0 : placesP true T = [] := by unfold placesP; rw [if_neg hn]
  rw [h0] at h
  simp at h
 obtain ⟨h1, h2, h3⟩ := (step_first hv).2 h
 refine ⟨h1, (placesP_small true T).2.2 _ (List.getElem_mem h), ?_⟩
 unfold stepOut
 rw [if_pos hv, h3]
 by_cases hz : (around (wayP T (placesP true T)[0].1 (placesP true T)[0].2) (wayT T (placesP true T)[0].1 (placesP true T)[0].2).contr).Valid
 ·exact Or.inl ⟨⟨h1, h2, hz⟩, by simp only [hz, if_true]; rfl⟩
 ·exact Or.inr ⟨fun hh => hz hh.2.2, by simp only [hz, if_false]⟩
end Go.Proofs.YtpddjebdncaceaaGreat
