/-
  KidP.
-/
import Derived.Test.YtmgoajgjpgamcaaB37
import Derived.Test.YtmgoajgjpgamcaaB38
import Derived.Test.YtmgoajgjpgamcaaB42
namespace Go.Proofs.Ytmgoajgjpgamcaa
open Go.RowKit
mutual
theorem Tm.nf_reds : ∀ t : Tm, (t.nf = true) ↔ t.reds = 0
 | .mk k n l => by
  have h := nfL_reds l
  have hb := redsL_bd l
  rw [Tm.nf, Tm.reds, Bool.and_eq_true, h, beq_iff_eq]
  constructor
  ·rintro ⟨h1, h2⟩; rw [if_pos h2, h1]; rfl
  ·intro h3
   by_cases hr : (Tm.mk k n l).redex = 0
   ·rw [if_pos hr] at h3; exact ⟨by omega, hr⟩
   ·rw [if_neg hr] at h3; omega
theorem nfL_reds : ∀ l : List Tm, (nfL l = true) ↔ redsL l = 0
 | [] => by rw [nfL, redsL]; simp
 | t :: l => by
  have h1 := Tm.nf_reds t
  have h2 := nfL_reds l
  have h3 := t.reds_bd
  have h4 := redsL_bd l
  rw [nfL, redsL, Bool.and_eq_true, h1, h2]
  omega
end
theorem redsOf_kids {t : Tm} (hv : t.Valid) : redsOf t = (if t.redex = 0 then 0 else 1) + redsL t.kids := by
 unfold redsOf
 rw [if_pos hv]
 cases t; rw [Tm.reds]; rfl
theorem redsOf_valid {t : Tm} (hv : t.Valid) : redsOf t = t.reds := by unfold redsOf; rw [if_pos hv]
theorem normal_reds {t : Tm} (hv : t.Valid) : normalOf t = decide (redsOf t = 0) := by
 rw [redsOf_valid hv, Bool.eq_iff_iff, decide_eq_true_iff, ← t.nf_reds]
 unfold normalOf
 rw [tr_iff]
 exact ⟨fun h => h.2, fun h => ⟨hv, h⟩⟩
theorem kid_valid {t : Tm} (hv : t.Valid) {q : Nat} (hq : q < t.kids.length) : t.kids[q].Valid := hv.get hq
theorem redsL_take {l : List Tm} {q : Nat} (hq : q < l.length) : redsL (l.take (q + 1)) = redsL (l.take q) + l[q].reds := by
 rw [List.take_succ_eq_append_getElem hq, redsL_append, redsL, redsL]; omega
theorem nfL_take {l : List Tm} {q : Nat} (hq : q < l.length) : nfL (l.take (q + 1)) = (nfL (l.take q) && l[q].nf) := by
 have h : ∀ a b : List Tm, nfL (a ++ b) = (nfL a && nfL b) := fun a b => by
  induction a with
  | nil => simp [nfL]
  | cons x a ih => rw [List.cons_append, nfL, nfL, ih, Bool.and_assoc]
 rw [List.take_succ_eq_append_getElem hq, h, nfL, nfL, Bool.and_true]
theorem normal_kids {t : Tm} (hv : t.Valid) : normalOf t = (decide (t.redex = 0) && nfL t.kids) := by
 unfold normalOf
 have h : t.nf = (nfL t.kids && (t.redex == 0)) := by cases t; rw [Tm.nf]; rfl
 rw [Bool.eq_iff_iff, tr_iff, h]
 simp [hv, and_comm]
theorem normal_valid {t : Tm} (hv : t.Valid) : normalOf t = t.nf := by
 unfold normalOf
 rw [Bool.eq_iff_iff, tr_iff]
 exact ⟨fun h => h.2, fun h => ⟨hv, h⟩⟩
theorem redexOf_valid {t : Tm} (hv : t.Valid) : redexOf t = t.redex := by unfold redexOf; rw [if_pos hv]
end Go.Proofs.Ytmgoajgjpgamcaa
