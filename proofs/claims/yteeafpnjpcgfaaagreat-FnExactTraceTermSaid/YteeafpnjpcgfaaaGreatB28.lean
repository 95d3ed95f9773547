/-
  StepP.
-/
import Derived.Test.YteeafpnjpcgfaaaGreatB11
import Derived.Test.YteeafpnjpcgfaaaGreatB27
namespace Go.Proofs.YteeafpnjpcgfaaaGreat
theorem Tm.Valid.get {t : Tm} (h : t.Valid) {i : Nat} (hi : i < t.kids.length) : t.kids[i].Valid := by
 obtain ⟨h1, h2, h3⟩ := h
 refine ⟨(allsOk_iff _).1 (t.allOk_iff.1 h1).2 _ (List.getElem_mem hi), ?_, ?_⟩
 ·have := mem_hgts hi
  have := t.hgt_eq
  omega
 ·have := size_get_le t.kids i hi
  have := t.size_eq
  omega
theorem kidT_eq {t : Tm} {i : Nat} (hi : i < t.kids.length) : kidT t i = t.kids[i] := by
 unfold kidT
 rw [List.getD_eq_getElem?_getD, List.getElem?_eq_getElem hi]
 rfl
theorem Tm.Valid.kidT {t : Tm} (h : t.Valid) {i : Nat} (hi : i < t.kids.length) : (kidT t i).Valid := by
 rw [kidT_eq hi]; exact h.get hi
def InPath : List (Tm × Nat) → Prop
 | [] => True
 | (t, i) :: p => i < t.kids.length ∧ InPath p
theorem around_valid : ∀ (p : List (Tm × Nat)) (x : Tm), InPath p → (around p x).Valid → x.Valid
 | [], _, _, h => h
 | (t, i) :: p, x, hp, h => by
  rw [around] at h
  have := h.get (i := i) (by simpa [Tm.kids] using hp.1)
  simp only [Tm.kids, List.getElem_set_self] at this
  exact around_valid p x hp.2 this
mutual
theorem Tm.find_ok {rl mo : Bool} : ∀ (t : Tm) (p : List (Tm × Nat)) (x : Tm), t.find rl mo = some (p, x) → t.Valid → InPath p ∧ x.redex ≠ 0 ∧ x.Valid ∧ p.length ≤ hgts t.kids ∧ ∀ y ∈ p, y.1.Valid
 | .mk k n l, p, x, h, hv => by
  rw [Tm.find] at h
  by_cases h1 : (Tm.mk k n l).redex ≠ 0 ∧ rl = false
  ·rw [if_pos h1] at h
   obtain ⟨rfl, rfl⟩ : [] = p ∧ Tm.mk k n l = x := by simpa using h
   exact ⟨trivial, h1.1, hv, Nat.zero_le _, fun y hy => by cases hy⟩
  ·rw [if_neg h1] at h
   cases hf : findL rl mo (.mk k n l) l 0 with
   | some y =>
    rw [hf] at h
    obtain rfl : y = (p, x) := by simpa using h
    exact findL_ok (.mk k n l) hv l [] rfl p x hf
   | none =>
    rw [hf] at h
    by_cases h2 : (Tm.mk k n l).redex ≠ 0
    ·simp only [if_pos h2] at h
     obtain ⟨rfl, rfl⟩ : [] = p ∧ Tm.mk k n l = x := by simpa using h
     exact ⟨trivial, h2, hv, Nat.zero_le _, fun y hy => by cases hy⟩
    ·simp only [if_neg h2] at h
     cases h
theorem findL_ok {rl mo : Bool} (t0 : Tm) (hv : t0.Valid) : ∀ (l pre : List Tm), t0.kids = pre ++ l → ∀ (p : List (Tm × Nat)) (x : Tm), findL rl mo t0 l pre.length = some (p, x) → InPath p ∧ x.redex ≠ 0 ∧ x.Valid ∧ p.length ≤ hgts t0.kids ∧ ∀ y ∈ p, y.1.Valid
 | [], pre, _, p, x, h => by rw [findL] at h; cases h
 | t :: l, pre, e, p, x, h => by
  rw [findL] at h
  have hlen : pre.length < t0.kids.length := by rw [e]; simp
  have hget : t0.kids[pre.length] = t := by simp [e]
  cases hf : (if mo = true ∧ mainIx t0.kind ≠ (pre.length : Int) then none else t.find rl mo) with
  | none =>
   rw [hf] at h
   exact findL_ok t0 hv l (pre ++ [t]) (by rw [e, List.append_assoc]; rfl) p x (by rw [List.length_append, List.length_singleton]; exact h)
  | some y =>
   obtain ⟨p', x'⟩ := y
   rw [hf] at h
   obtain ⟨rfl, rfl⟩ : (t0, pre.length) :: p' = p ∧ x' = x := by simpa using h
   have hf' : t.find rl mo = some (p', x') := by
    split at hf
    ·cases hf
    ·exact hf
   have hvt : t.Valid := hget ▸ hv.get hlen
   obtain ⟨a, b, c, d, e'⟩ := Tm.find_ok t p' x' hf' hvt
   refine ⟨⟨hlen, a⟩, b, c, ?_, fun y hy => ?_⟩
   ·have h1 := mem_hgts hlen
    rw [hget, t.hgt_eq] at h1
    rw [List.length_cons]
    omega
   ·rcases List.mem_cons.1 hy with rfl | hy
    ·exact hv
    ·exact e' y hy
end
theorem redex_shape {t : Tm} (hr : t.rootOk) (h : t.redex ≠ 0) :
  (t.redex = 1 ∧ t.kind = 5 ∧ t.kids.length = 2 ∧ (kidT t 0).kind = 4) ∨ (t.redex = 2 ∧ t.kind = 9 ∧ t.kids.length = 4 ∧ (kidT t 3).kind = 7) ∨ (t.redex = 3 ∧ t.kind = 9 ∧ t.kids.length = 4 ∧ (kidT t 3).kind = 8) ∨
  (t.redex = 4 ∧ t.kind = 12 ∧ t.kids.length = 3 ∧ (kidT t 1).kind = 11) ∨ (t.redex = 5 ∧ t.kind = 15 ∧ t.kids.length = 1 ∧ (kidT t 0).kind = 14) ∨ (t.redex = 6 ∧ t.kind = 16 ∧ t.kids.length = 1 ∧ (kidT t 0).kind = 14) := by
 have ha : arity t.kind = t.kids.length := hr.1
 have hred : t.redex = redexK t.kind (kidT t (mainIx t.kind).toNat).kind := rfl
 by_cases h5 : t.kind = 5
 ·rw [h5] at ha hred
  rw [show (mainIx 5).toNat = 0 by decide] at hred
  have h2 : arity 5 = 2 := by decide
  have hm : (kidT t 0).kind = 4 := by
   refine Classical.byContradiction fun hc => h ?_
   rw [hred]; unfold redexK; (repeat' split) <;> omega
  rw [hm] at hred
  exact Or.inl ⟨hred.trans (by decide), h5, by omega, hm⟩
 by_cases h9 : t.kind = 9
 ·rw [h9] at ha hred
  rw [show (mainIx 9).toNat = 3 by decide] at hred
  have h2 : arity 9 = 4 := by decide
  have hm : (kidT t 3).kind = 7 ∨ (kidT t 3).kind = 8 := by
   refine Classical.byContradiction fun hc => h ?_
   rw [hred]; unfold redexK; (repeat' split) <;> omega
  rcases hm with hm | hm
  ·rw [hm] at hred
   exact Or.inr (Or.inl ⟨hred.trans (by decide), h9, by omega, hm⟩)
  ·rw [hm] at hred
   exact Or.inr (Or.inr (Or.inl ⟨hred.trans (by decide), h9, by omega, hm⟩))
 by_cases h12 : t.kind = 12
 ·rw [h12] at ha hred
  rw [show (mainIx 12).toNat = 1 by decide] at hred
  have h2 : arity 12 = 3 := by decide
  have hm : (kidT t 1).kind = 11 := by
   refine Classical.byContradiction fun hc => h ?_
   rw [hred]; unfold redexK; (repeat' split) <;> omega
  rw [hm] at hred
  exact Or.inr (Or.inr (Or.inr (Or.inl ⟨hred.trans (by decide), h12, by omega, hm⟩)))
 by_cases h15 : t.kind = 15
 ·rw [h15] at ha hred
  rw [show (mainIx 15).toNat = 0 by decide] at hred
  have h2 : arity 15 = 1 := by decide
  have hm : (kidT t 0).kind = 14 := by
   refine Classical.byContradiction fun hc => h ?_
   rw [hred]; unfold redexK; (repeat' split) <;> omega
  rw [hm] at hred
  exact Or.inr (Or.inr (Or.inr (Or.inr (Or.inl ⟨hred.trans (by decide), h15, by omega, hm⟩))))
 by_cases h16 : t.kind = 16
 ·rw [h16] at ha hred
  rw [show (mainIx 16).toNat = 0 by decide] at hred
  have h2 : arity 16 = 1 := by decide
  have hm : (kidT t 0).kind = 14 := by
   refine Classical.byContradiction fun hc => h ?_
   rw [hred]; unfold redexK; (repeat' split) <;> omega
  rw [hm] at hred
  exact Or.inr (Or.inr (Or.inr (Or.inr (Or.inr ⟨hred.trans (by decide), h16, by omega, hm⟩))))
 refine absurd ?_ h
 rw [hred]; unfold redexK; (repeat' split) <;> omega
theorem kid_len {t : Tm} (h : t.rootOk) {k : Int} (hk : t.kind = k) {a : Int} (ha : arity k = a) : (t.kids.length : Int) = a := by
 have := h.1
 rw [hk, ha] at this
 exact this.symm
theorem Tm.Valid.root {t : Tm} (h : t.Valid) : t.rootOk := (t.allOk_iff.1 h.1).1
theorem contr_part {t : Tm} (hk : ∀ i (hi : i < t.kids.length), t.kids[i].Valid) (hr : t.rootOk) (h : t.redex ≠ 0) (h1 : t.redex ≠ 1) (h3 : t.redex ≠ 3) : t.contr.Valid := by
 have hv : ∀ i, i < t.kids.length → (kidT t i).Valid := fun i hi => by rw [kidT_eq hi]; exact hk i hi
 unfold Tm.contr
 rcases redex_shape hr h with ⟨e, _⟩ | ⟨e, -, hl, -⟩ | ⟨e, _⟩ | ⟨e, -, hl, -⟩ | ⟨e, -, hl, hm⟩ | ⟨e, -, hl, hm⟩
 ·exact absurd e h1
 ·rw [e, if_neg (by decide), if_pos rfl]; exact hv 1 (by omega)
 ·exact absurd e h3
 ·rw [e, if_neg (by decide), if_neg (by decide), if_neg (by decide), if_pos rfl]; exact hv 2 (by omega)
 ·rw [e, if_neg (by decide), if_neg (by decide), if_neg (by decide), if_neg (by decide), if_pos rfl]
  have := hv 0 (by omega)
  exact this.kidT (by have := kid_len this.root hm (a := 3) (by decide); omega)
 ·rw [e, if_neg (by decide), if_neg (by decide), if_neg (by decide), if_neg (by decide), if_neg (by decide)]
  have := hv 0 (by omega)
  exact this.kidT (by have := kid_len this.root hm (a := 3) (by decide); omega)
noncomputable def stepOut (rl mo : Bool) (t : Tm) : Tm × Int :=
 @ite _ t.Valid (Classical.propDecidable _) (match t.step rl mo with | none => (t, 0) | some t' => @ite _ t'.Valid (Classical.propDecidable _) (t', 1) (zeroT, 2)) (zeroT, 3)
end Go.Proofs.YteeafpnjpcgfaaaGreat
