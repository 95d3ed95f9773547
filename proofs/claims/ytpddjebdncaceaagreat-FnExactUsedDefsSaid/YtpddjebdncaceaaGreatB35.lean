/-
  DuC.
-/
import Derived.Test.YtpddjebdncaceaaGreatB31
import Derived.Test.YtpddjebdncaceaaGreatB34
namespace Go.Proofs.YtpddjebdncaceaaGreat
open Go.RowKit
set_option linter.unusedVariables false
set_option linter.unusedSimpArgs false
noncomputable def goU : List (Tm × Tm) → List (Tm × Nat) → List Nat → List Nat
 | [], _, J => J
 | x :: r, U, J => if U.any (scUse (r.length : Nat)) then goU r (U ++ [(x.2, r.length)]) (J ++ [r.length]) else goU r U J
theorem scUse_dir {t : Tm} (h : t.Valid) {d i : Nat} (hi : i < d) (hd : d ≤ 8) : scUse (i : Int) (t, d) = decide (0 < t.times ((d : Int) - 1 - (i : Int))) := by
 have hb := t.times_bd ((d : Int) - 1 - (i : Int))
 unfold scUse countOf
 rw [if_pos ⟨h, by simp only; omega, by simp only; omega⟩]
 by_cases e : 0 < t.times ((d : Int) - 1 - (i : Int))
 ·rw [decide_eq_true e]
  have : t.times ((d : Int) - 1 - (i : Int)) ≠ 0 := by omega
  simp [this]
 ·rw [decide_eq_false e]
  have : t.times ((d : Int) - 1 - (i : Int)) = 0 := by omega
  simp [this]
theorem afterU_keep (l : List (Tm × Tm)) (t : Tm) (i : Nat) : ∀ (k m : Nat), l.length - 1 - i ≤ m → m + k ≤ l.length → afterU l t (m + k) i = afterU l t m i
 | 0, _, _, _ => rfl
 | k + 1, m, h1, h2 => by
  have ih := afterU_keep l t i k m h1 (by omega)
  show stepU l (afterU l t (m + k)) (l.length - 1 - (m + k)) i = _
  unfold stepU
  rw [decide_eq_false (show ¬ i < l.length - 1 - (m + k) by omega), ih]
  simp
theorem goU_spec (l : List (Tm × Tm)) (t : Tm) (hd : DefsOk l) : ∀ (k m : Nat) (U : List (Tm × Nat)) (J : List Nat), k + m = l.length → (∀ i : Nat, i < k → U.any (scUse (i : Int)) = afterU l t m i) → goU (l.take k).reverse U J = J ++ ((List.range k).filter (afterU l t l.length)).reverse
 | 0, _, _, J, _, _ => by simp [goU]
 | k + 1, m, U, J, hk, hU => by
  have hlt : k < l.length := by omega
  have e1 : (l.take (k + 1)).reverse = l[k] :: (l.take k).reverse := by
   rw [List.take_add_one, List.getElem?_eq_getElem hlt, List.reverse_append]; rfl
  have e2 : (l.take k).reverse.length = k := by simp; omega
  have hq : l.length - 1 - m = k := by omega
  have hk1 := hU k (by omega)
  have hkn : afterU l t l.length k = afterU l t m k := by
   have := afterU_keep l t k (l.length - m) m (by omega) (by omega)
   rwa [show m + (l.length - m) = l.length by omega] at this
  rw [e1]
  unfold goU
  rw [e2, List.range_succ, List.filter_append, List.reverse_append]
  have hbody : bodyAt l k = l[k].2 := by
   unfold bodyAt
   rw [List.getD_eq_getElem?_getD, List.getElem?_eq_getElem hlt]; rfl
  cases hu : afterU l t m k with
  | true =>
   rw [if_pos (by rw [hk1, hu]), List.filter_cons_of_pos (by rw [hkn, hu])]
   rw [goU_spec l t hd k (m + 1) _ _ (by omega) ?_]
   ·simp
   ·intro i hi
    show _ = stepU l (afterU l t m) (l.length - 1 - m) i
    unfold stepU
    rw [hq, List.any_append, hU i (by omega), hu, hbody, decide_eq_true hi]
    simp only [List.any_cons, List.any_nil, Bool.or_false, Bool.true_and]
    rw [scUse_dir (defs_valid hd k hlt).2 hi (by have := hd.1; omega)]
  | false =>
   rw [if_neg (by rw [hk1, hu]; simp), List.filter_cons_of_neg (by rw [hkn, hu]; simp)]
   rw [goU_spec l t hd k (m + 1) _ _ (by omega) ?_]
   ·simp
   ·intro i hi
    show _ = stepU l (afterU l t m) (l.length - 1 - m) i
    unfold stepU
    rw [hq, hU i (by omega), hu]
    simp
theorem goU_used {l : List (Tm × Tm)} {t : Tm} (h : UsedOk l t) : goU l.reverse [(t, l.length)] [] = (usedL l t).reverse := by
 have e := goU_spec l t h.1 l.length 0 [(t, l.length)] [] rfl fun i hi => by
  show _ = dirU t l.length i
  simp only [List.any_cons, List.any_nil, Bool.or_false]
  exact scUse_dir h.2.1 hi h.1.1
 rw [List.take_length, List.nil_append] at e
 rw [e]
 unfold usedL
 rw [if_pos h]
end Go.Proofs.YtpddjebdncaceaaGreat
