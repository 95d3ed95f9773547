/-
  Confl.
-/
import Derived.Test.YtpddjebdncaceaaGreatQ14
import Derived.Test.YtpddjebdncaceaaGreatQ24
namespace Go.Proofs.YtpddjebdncaceaaGreat
mutual
def Tm.wf : Tm → Prop | .mk k _ l => arity k = l.length ∧ wfL l
def wfL : List Tm → Prop
 | [] => True
 | t :: l => t.wf ∧ wfL l
end
mutual
theorem Tm.allOk.wf : ∀ {t : Tm}, t.allOk → t.wf
 | .mk k n l, h => by
  rw [Tm.allOk] at h
  rw [Tm.wf]
  exact ⟨h.1.1, allsOk.wf h.2⟩
theorem allsOk.wf : ∀ {l : List Tm}, allsOk l → wfL l
 | [], _ => by rw [wfL]; trivial
 | t :: l, h => by
  rw [allsOk] at h
  rw [wfL]
  exact ⟨Tm.allOk.wf h.1, allsOk.wf h.2⟩
end
theorem wfL_iff : ∀ (l : List Tm), wfL l ↔ ∀ t ∈ l, t.wf
 | [] => by simp [wfL]
 | t :: l => by rw [wfL, wfL_iff l]; simp
theorem Tm.wf_iff (t : Tm) : t.wf ↔ arity t.kind = t.kids.length ∧ wfL t.kids := by cases t; rw [Tm.wf]; rfl
theorem Tm.wf.kid {t : Tm} (h : t.wf) {i : Nat} (hi : i < t.kids.length) : (kidT t i).wf := by
 rw [kidT_eq hi]
 exact (wfL_iff _).1 (t.wf_iff.1 h).2 _ (List.getElem_mem hi)
theorem Tm.wf.len {t : Tm} (h : t.wf) {k : Int} (hk : t.kind = k) {a : Int} (ha : arity k = a) : (t.kids.length : Int) = a := by
 have := (t.wf_iff.1 h).1
 rw [hk, ha] at this
 exact this.symm
theorem wf_var {n : Int} {l : List Tm} (h : (Tm.mk 1 n l).wf) : l = [] := by
 rw [Tm.wf] at h
 have := h.1
 simp [arity] at this
 exact List.length_eq_zero_iff.1 (by omega)
theorem redex_wf {t : Tm} (hr : arity t.kind = t.kids.length) (h : t.redex ≠ 0) :
  (t.redex = 1 ∧ t.kind = 5 ∧ t.kids.length = 2 ∧ (kidT t 0).kind = 4) ∨ (t.redex = 2 ∧ t.kind = 9 ∧ t.kids.length = 4 ∧ (kidT t 3).kind = 7) ∨ (t.redex = 3 ∧ t.kind = 9 ∧ t.kids.length = 4 ∧ (kidT t 3).kind = 8) ∨
  (t.redex = 4 ∧ t.kind = 12 ∧ t.kids.length = 3 ∧ (kidT t 1).kind = 11) ∨ (t.redex = 5 ∧ t.kind = 15 ∧ t.kids.length = 1 ∧ (kidT t 0).kind = 14) ∨ (t.redex = 6 ∧ t.kind = 16 ∧ t.kids.length = 1 ∧ (kidT t 0).kind = 14) := by
 have h0 : Tm.redex (.mk t.kind 0 t.kids) = t.redex := rfl
 have := redex_shape (t := .mk t.kind 0 t.kids) ⟨hr, Int.le_refl _, by show (0 : Int) ≤ mostN t.kind; unfold mostN; (repeat' split) <;> omega⟩ (by rw [h0]; exact h)
 exact this
theorem redex_of {t s : Tm} (hk : s.kind = t.kind) (hm : (kidT s (mainIx t.kind).toNat).kind = (kidT t (mainIx t.kind).toNat).kind) : s.redex = t.redex := by
 show redexK s.kind (kidT s (mainIx s.kind).toNat).kind = redexK t.kind (kidT t (mainIx t.kind).toNat).kind
 rw [hk, hm]
-- operands of shifted and substituted terms
theorem shiftL_get (e k : Int) : ∀ (l : List Tm) (i j : Nat) (c : Int) (h : j < l.length), (shiftL e k l i c)[j]'(by rw [shiftL_length]; exact h) = l[j].shift e (c + under k (i + j))
 | t :: l, i, 0, c, _ => by simp [shiftL]
 | t :: l, i, j + 1, c, h => by
  simp only [shiftL, List.getElem_cons_succ]
  rw [shiftL_get e k l (i + 1) j c (by simpa using h), show i + 1 + j = i + (j + 1) by omega]
theorem substL_get (u : Tm) (k : Int) : ∀ (l : List Tm) (i j : Nat) (x d : Int) (h : j < l.length), (substL u k l i x d)[j]'(by rw [substL_length]; exact h) = l[j].subst u (x + under k (i + j)) (d + under k (i + j))
 | t :: l, i, 0, x, d, _ => by simp [substL]
 | t :: l, i, j + 1, x, d, h => by
  simp only [substL, List.getElem_cons_succ]
  rw [substL_get u k l (i + 1) j x d (by simpa using h), show i + 1 + j = i + (j + 1) by omega]
theorem kid_shift {t : Tm} {e c : Int} {i : Nat} (hi : i < t.kids.length) : kidT (t.shift e c) i = (kidT t i).shift e (c + under t.kind i) := by
 obtain ⟨k, n, l⟩ := t
 have hi' : i < l.length := hi
 have h := shiftL_get e k l 0 i c hi'
 rw [Nat.zero_add] at h
 rw [kidT_eq hi, Tm.shift, kidT_eq (by show i < (shiftL e k l 0 c).length; rw [shiftL_length]; exact hi')]
 exact h
theorem kid_subst {t u : Tm} {x d : Int} {i : Nat} (hk : t.kind ≠ 1) (hi : i < t.kids.length) : kidT (t.subst u x d) i = (kidT t i).subst u (x + under t.kind i) (d + under t.kind i) := by
 obtain ⟨k, n, l⟩ := t
 have hi' : i < l.length := hi
 have hk' : k ≠ 1 := hk
 have h := substL_get u k l 0 i x d hi'
 rw [Nat.zero_add] at h
 rw [kidT_eq hi, Tm.subst, if_neg (fun h => hk' h.1), kidT_eq (by show i < (substL u k l 0 x d).length; rw [substL_length]; exact hi')]
 exact h
theorem shift_kind (t : Tm) (e c : Int) : (t.shift e c).kind = t.kind := by rw [t.shift_eq]; rfl
theorem subst_kind {t : Tm} (hk : t.kind ≠ 1) (u : Tm) (x d : Int) : (t.subst u x d).kind = t.kind := by obtain ⟨k, n, l⟩ := t; have hk' : k ≠ 1 := hk; rw [Tm.subst, if_neg (fun h => hk' h.1)]; rfl
mutual
theorem Tm.shift_wf (e : Int) : ∀ (t : Tm) (c : Int), t.wf → (t.shift e c).wf
 | .mk k n l, c, h => by
  rw [Tm.wf] at h
  rw [Tm.shift, Tm.wf, shiftL_length]
  exact ⟨h.1, shiftL_wf e l k 0 c h.2⟩
theorem shiftL_wf (e : Int) : ∀ (l : List Tm) (k : Int) (i : Nat) (c : Int), wfL l → wfL (shiftL e k l i c)
 | [], _, _, _, _ => by rw [shiftL, wfL]; trivial
 | t :: l, k, i, c, h => by
  rw [wfL] at h
  rw [shiftL, wfL]
  exact ⟨Tm.shift_wf e t _ h.1, shiftL_wf e l k _ c h.2⟩
end
mutual
theorem Tm.subst_wf {u : Tm} (hu : u.wf) : ∀ (t : Tm) (x d : Int), t.wf → (t.subst u x d).wf
 | .mk k n l, x, d, h => by
  rw [Tm.wf] at h
  rw [Tm.subst]
  split
  ·exact Tm.shift_wf _ _ _ hu
  ·rw [Tm.wf, substL_length]
   exact ⟨h.1, substL_wf hu l k 0 x d h.2⟩
theorem substL_wf {u : Tm} (hu : u.wf) : ∀ (l : List Tm) (k : Int) (i : Nat) (x d : Int), wfL l → wfL (substL u k l i x d)
 | [], _, _, _, _, _ => by rw [substL, wfL]; trivial
 | t :: l, k, i, x, d, h => by
  rw [wfL] at h
  rw [substL, wfL]
  exact ⟨Tm.subst_wf hu t _ _ h.1, substL_wf hu l k _ x d h.2⟩
end
theorem Tm.wf.contr {t : Tm} (h : t.wf) (hr : t.redex ≠ 0) : t.contr.wf := by
 have ha := (t.wf_iff.1 h).1
 unfold Tm.contr
 rcases redex_wf ha hr with ⟨e, -, hl, hm⟩ | ⟨e, -, hl, -⟩ | ⟨e, -, hl, hm⟩ | ⟨e, -, hl, -⟩ | ⟨e, -, hl, hm⟩ | ⟨e, -, hl, hm⟩
 ·rw [e, if_pos rfl]
  have h0 := h.kid (i := 0) (by omega)
  exact Tm.subst_wf (h.kid (by omega)) _ _ _ (h0.kid (by have := h0.len hm (a := 2) (by decide); omega))
 ·rw [e, if_neg (by decide), if_pos rfl]; exact h.kid (by omega)
 ·rw [e, if_neg (by decide), if_neg (by decide), if_pos rfl]
  have h3 := h.kid (i := 3) (by omega)
  have h30 := h3.kid (i := 0) (by have := h3.len hm (a := 1) (by decide); omega)
  have h0 := h.kid (i := 0) (by omega)
  have h1 := h.kid (i := 1) (by omega)
  have h2 := h.kid (i := 2) (by omega)
  simp only [Tm.wf, wfL, List.length_cons, List.length_nil, and_true]
  exact ⟨by decide, ⟨by decide, h2, h30⟩, by decide, h0, h1, h2, h30⟩
 ·rw [e, if_neg (by decide), if_neg (by decide), if_neg (by decide), if_pos rfl]; exact h.kid (by omega)
 ·rw [e, if_neg (by decide), if_neg (by decide), if_neg (by decide), if_neg (by decide), if_pos rfl]
  have h0 := h.kid (i := 0) (by omega)
  exact h0.kid (by have := h0.len hm (a := 3) (by decide); omega)
 ·rw [e, if_neg (by decide), if_neg (by decide), if_neg (by decide), if_neg (by decide), if_neg (by decide)]
  have h0 := h.kid (i := 0) (by omega)
  exact h0.kid (by have := h0.len hm (a := 3) (by decide); omega)
-- substitutions and shifts of terms of whatever numbers
mutual
theorem Tm.subst_subst' (u v : Tm) (j : Int) (hj : 0 ≤ j) : ∀ (t : Tm) (b : Int), t.wf → 0 ≤ b → (t.subst u b b).subst v (j + b) b = (t.subst (v.shift 1 0) (j + 1 + b) b).subst (u.subst v j 0) b b
 | .mk k n l, b, h, hb => by
  have hw := h
  rw [Tm.wf] at h
  have s1 : (Tm.mk k n l).subst u b b = if k = 1 ∧ n = b then u.shift b 0 else .mk k (if k = 1 ∧ b < n then n - 1 else n) (substL u k l 0 b b) := by rw [Tm.subst]
  have s2 : (Tm.mk k n l).subst (v.shift 1 0) (j + 1 + b) b = if k = 1 ∧ n = j + 1 + b then (v.shift 1 0).shift b 0 else .mk k (if k = 1 ∧ j + 1 + b < n then n - 1 else n) (substL (v.shift 1 0) k l 0 (j + 1 + b) b) := by rw [Tm.subst]
  rw [s1, s2]
  by_cases e1 : k = 1 ∧ n = b
  ·obtain ⟨rfl, rfl⟩ := e1
   obtain rfl := wf_var hw
   have e3 : ¬ ((1 : Int) = 1 ∧ n = j + 1 + n) := by omega
   have e4 : ¬ ((1 : Int) = 1 ∧ j + 1 + n < n) := by omega
   have := Tm.shift_subst v n hb u 0 j 0 (by omega) (by omega) hj
   rw [Int.zero_add] at this
   rw [if_pos ⟨rfl, rfl⟩, if_neg e3, if_neg e4, Tm.subst, if_pos ⟨rfl, rfl⟩, ← this]
  ·rw [if_neg e1]
   by_cases e2 : k = 1 ∧ n = j + 1 + b
   ·obtain ⟨rfl, rfl⟩ := e2
    obtain rfl := wf_var hw
    have e3 : (1 : Int) = 1 ∧ b < j + 1 + b := by omega
    rw [if_pos e3, if_pos (⟨rfl, rfl⟩ : (1 : Int) = 1 ∧ j + 1 + b = j + 1 + b), Tm.subst, if_pos (⟨rfl, by omega⟩ : (1 : Int) = 1 ∧ j + 1 + b - 1 = j + b), Tm.shift_in b 1 (by omega) v 0 0 (by omega) (by omega), Int.add_comm 1 b, Tm.subst_room _ b hb v 0 b b (by omega) (by omega)]
   ·rw [if_neg e2]
    have n1 : ¬ (k = 1 ∧ (if k = 1 ∧ b < n then n - 1 else n) = j + b) := by
     split <;> omega
    have n2 : ¬ (k = 1 ∧ (if k = 1 ∧ j + 1 + b < n then n - 1 else n) = b) := by
     split <;> omega
    rw [Tm.subst, if_neg n1, Tm.subst, if_neg n2, substL_substL' u v j hj l k 0 b h.2 hb]
    clear n1 n2 s1 s2
    congr 1
    (repeat' split) <;> omega
theorem substL_substL' (u v : Tm) (j : Int) (hj : 0 ≤ j) : ∀ (l : List Tm) (k : Int) (i : Nat) (b : Int), wfL l → 0 ≤ b → substL v k (substL u k l i b b) i (j + b) b = substL (u.subst v j 0) k (substL (v.shift 1 0) k l i (j + 1 + b) b) i b b
 | [], _, _, _, _, _ => by rw [substL, substL, substL, substL]
 | t :: l, k, i, b, h, hb => by
  have := under_succ k i
  rw [wfL] at h
  rw [substL, substL, substL, substL, Int.add_assoc j b, Int.add_assoc (j + 1) b, Tm.subst_subst' u v j hj t _ h.1 (by omega), substL_substL' u v j hj l k _ b h.2 hb]
end
mutual
theorem Tm.subst_depth (u : Tm) (d0 : Int) (h0 : 0 ≤ d0) : ∀ (t : Tm) (x d : Int), 0 ≤ d → t.subst u x (d0 + d) = t.subst (u.shift d0 0) x d
 | .mk k n l, x, d, hd => by
  rw [Tm.subst, Tm.subst, Tm.shift_in d d0 h0 u 0 0 (Int.le_refl _) (by omega), substL_depth u d0 h0 l k 0 x d hd]
theorem substL_depth (u : Tm) (d0 : Int) (h0 : 0 ≤ d0) : ∀ (l : List Tm) (k : Int) (i : Nat) (x d : Int), 0 ≤ d → substL u k l i x (d0 + d) = substL (u.shift d0 0) k l i x d
 | [], _, _, _, _, _ => by rw [substL, substL]
 | t :: l, k, i, x, d, hd => by
  have := under_succ k i
  rw [substL, substL, Int.add_assoc, Tm.subst_depth u d0 h0 t _ _ (by omega), substL_depth u d0 h0 l k _ x d hd]
end
theorem Tm.subst_at (u t : Tm) (x : Int) {d : Int} (hd : 0 ≤ d) : t.subst u x d = t.subst (u.shift d 0) x 0 := by
 have := Tm.subst_depth u d hd t x 0 (Int.le_refl _)
 rwa [Int.add_zero] at this
mutual
theorem Tm.shift_comm (e b : Int) (he : 0 ≤ e) (hb : 0 ≤ b) : ∀ (t : Tm) (c0 c : Int), c0 ≤ c → (t.shift b c0).shift e (c + b) = (t.shift e c).shift b c0
 | .mk k n l, c0, c, h => by
  rw [Tm.shift, Tm.shift, Tm.shift, Tm.shift, shiftL_comm e b he hb l k 0 c0 c h]
  congr 1
  by_cases h1 : k = 1
  ·subst h1
   simp only [true_and]
   (repeat' split) <;> omega
  ·simp [h1]
theorem shiftL_comm (e b : Int) (he : 0 ≤ e) (hb : 0 ≤ b) : ∀ (l : List Tm) (k : Int) (i : Nat) (c0 c : Int), c0 ≤ c → shiftL e k (shiftL b k l i c0) i (c + b) = shiftL b k (shiftL e k l i c) i c0
 | [], _, _, _, _, _ => by rw [shiftL, shiftL, shiftL, shiftL]
 | t :: l, k, i, c0, c, h => by
  rw [shiftL, shiftL, shiftL, shiftL, show c + b + under k i = c + under k i + b by omega, Tm.shift_comm e b he hb t _ _ (by omega), shiftL_comm e b he hb l k _ c0 c h]
end
mutual
theorem Tm.subst_up (u : Tm) (e : Int) (he : 0 ≤ e) : ∀ (t : Tm) (b c : Int), t.wf → 0 ≤ b → 0 ≤ c → (t.subst u b b).shift e (c + b) = (t.shift e (c + 1 + b)).subst (u.shift e c) b b
 | .mk k n l, b, c, h, hb, hc => by
  have hw := h
  rw [Tm.wf] at h
  by_cases e1 : k = 1 ∧ n = b
  ·obtain ⟨rfl, rfl⟩ := e1
   obtain rfl := wf_var hw
   have e2 : ¬ ((1 : Int) = 1 ∧ c + 1 + n ≤ n) := by omega
   rw [Tm.subst, if_pos ⟨rfl, rfl⟩, Tm.shift, if_neg e2, Tm.subst, if_pos ⟨rfl, rfl⟩, Tm.shift_comm e n he hb u 0 c hc]
  ·have n1 : ¬ (k = 1 ∧ (if k = 1 ∧ c + 1 + b ≤ n then n + e else n) = b) := by
    split <;> omega
   rw [Tm.subst, if_neg e1, Tm.shift, Tm.shift, Tm.subst, if_neg n1, substL_up u e he l k 0 b c h.2 hb hc]
   congr 1
   clear n1
   by_cases h1 : k = 1
   ·subst h1
    simp only [true_and] at e1 ⊢
    (repeat' split) <;> omega
   ·simp [h1]
theorem substL_up (u : Tm) (e : Int) (he : 0 ≤ e) : ∀ (l : List Tm) (k : Int) (i : Nat) (b c : Int), wfL l → 0 ≤ b → 0 ≤ c → shiftL e k (substL u k l i b b) i (c + b) = substL (u.shift e c) k (shiftL e k l i (c + 1 + b)) i b b
 | [], _, _, _, _, _, _, _ => by rw [substL, shiftL, shiftL, substL]
 | t :: l, k, i, b, c, h, hb, hc => by
  have := under_succ k i
  rw [wfL] at h
  rw [substL, shiftL, shiftL, substL, Int.add_assoc c b, Int.add_assoc (c + 1) b, Tm.subst_up u e he t _ c h.1 (by omega) hc, substL_up u e he l k _ b c h.2 hb hc]
end
theorem redex_shift {t : Tm} (ht : t.wf) (e c : Int) (h : t.redex ≠ 0) : (t.shift e c).redex = t.redex := by
 have hm : mainIx t.kind ≠ -1 := fun hm => h (redex_none hm)
 have hl : (mainIx t.kind).toNat < t.kids.length := by
  have ha := (t.wf_iff.1 ht).1
  rcases redex_wf ha h with ⟨-, e, hl, -⟩ | ⟨-, e, hl, -⟩ | ⟨-, e, hl, -⟩ | ⟨-, e, hl, -⟩ | ⟨-, e, hl, -⟩ | ⟨-, e, hl, -⟩ <;> rw [e, hl] <;> decide
 exact redex_of (shift_kind t e c) (by rw [kid_shift hl, shift_kind])
theorem main_not_var {t : Tm} (ht : t.wf) (h : t.redex ≠ 0) : (mainIx t.kind).toNat < t.kids.length ∧ (kidT t (mainIx t.kind).toNat).kind ≠ 1 ∧ t.kind ≠ 1 := by
 have ha := (t.wf_iff.1 ht).1
 rcases redex_wf ha h with ⟨-, e, hl, hm⟩ | ⟨-, e, hl, hm⟩ | ⟨-, e, hl, hm⟩ | ⟨-, e, hl, hm⟩ | ⟨-, e, hl, hm⟩ | ⟨-, e, hl, hm⟩ <;> rw [e] <;> refine ⟨by rw [hl]; decide, ?_, by decide⟩ <;>
  (first | (rw [show (mainIx 5).toNat = 0 by decide, hm]; decide) | (rw [show (mainIx 9).toNat = 3 by decide, hm]; decide) | (rw [show (mainIx 12).toNat = 1 by decide, hm]; decide) | (rw [show (mainIx 15).toNat = 0 by decide, hm]; decide) | (rw [show (mainIx 16).toNat = 0 by decide, hm]; decide))
theorem redex_subst {t : Tm} (ht : t.wf) (u : Tm) (x d : Int) (h : t.redex ≠ 0) : (t.subst u x d).redex = t.redex := by
 obtain ⟨h1, h2, h3⟩ := main_not_var ht h
 exact redex_of (subst_kind h3 u x d) (by rw [kid_subst h3 h1, subst_kind h2])
-- parallel reduction
mutual
def Tm.par : Tm → Tm → Prop
 | .mk k n l, s => ∃ m, parL l m ∧ (s = .mk k n m ∨ ((Tm.mk k n l).redex ≠ 0 ∧ s = Tm.contr (.mk k n m)))
def parL : List Tm → List Tm → Prop
 | [], m => m = []
 | t :: l, m => ∃ t' m', m = t' :: m' ∧ t.par t' ∧ parL l m'
end
mutual
theorem Tm.par_refl : ∀ t : Tm, t.par t
 | .mk k n l => by rw [Tm.par]; exact ⟨l, parL_refl l, Or.inl rfl⟩
theorem parL_refl : ∀ l : List Tm, parL l l
 | [] => by rw [parL]
 | t :: l => by rw [parL]; exact ⟨t, l, rfl, Tm.par_refl t, parL_refl l⟩
end
theorem parL_length : ∀ {l m : List Tm}, parL l m → m.length = l.length
 | [], m, h => by rw [parL] at h; rw [h]
 | t :: l, m, h => by
  rw [parL] at h
  obtain ⟨t', m', rfl, -, h⟩ := h
  rw [List.length_cons, List.length_cons, parL_length h]
theorem parL_get : ∀ {l m : List Tm}, parL l m → ∀ (i : Nat) (h1 : i < l.length) (h2 : i < m.length), l[i].par m[i]
 | t :: l, m, h, i, h1, h2 => by
  rw [parL] at h
  obtain ⟨t', m', rfl, h0, h⟩ := h
  cases i with
  | zero => exact h0
  | succ i => exact parL_get h i _ _
theorem par_kidL {k k' n n' : Int} {l m : List Tm} (h : parL l m) {i : Nat} (hi : i < l.length) : (kidT (.mk k n l) i).par (kidT (.mk k' n' m) i) := by
 have hl := parL_length h
 rw [kidT_eq (t := .mk k n l) (show i < (Tm.mk k n l).kids.length from hi), kidT_eq (t := .mk k' n' m) (show i < (Tm.mk k' n' m).kids.length by show i < m.length; omega)]
 exact parL_get h i hi (by omega)
theorem par_node {t s : Tm} (h : t.par s) (h0 : t.redex = 0) : ∃ m, parL t.kids m ∧ s = .mk t.kind t.num m := by
 obtain ⟨k, n, l⟩ := t
 rw [Tm.par] at h
 obtain ⟨m, hm, h | h⟩ := h
 ·exact ⟨m, hm, h⟩
 ·exact absurd h0 h.1
theorem par_kind {t s : Tm} (h : t.par s) (h0 : t.redex = 0) : s.kind = t.kind := by
 obtain ⟨m, -, rfl⟩ := par_node h h0; rfl
theorem par_kid {t s : Tm} (h : t.par s) (h0 : t.redex = 0) {i : Nat} (hi : i < t.kids.length) : (kidT t i).par (kidT s i) := by
 obtain ⟨m, hm, rfl⟩ := par_node h h0
 obtain ⟨k, n, l⟩ := t
 exact par_kidL hm hi
theorem con_redex {t : Tm} {k : Int} (hk : t.kind = k) (h : mainIx k = -1) : t.redex = 0 := redex_none (by rw [hk]; exact h)
theorem par_redex {k n n' : Int} {l m : List Tm} (hw : arity k = l.length) (hr : (Tm.mk k n l).redex ≠ 0) (hm : parL l m) : (Tm.mk k n' m).redex = (Tm.mk k n l).redex := by
 have hl := parL_length hm
 refine redex_of (t := .mk k n l) (s := .mk k n' m) rfl ?_
 have key : ∀ i K, i < l.length → (kidT (.mk k n l) i).kind = K → mainIx K = -1 → (kidT (.mk k n' m) i).kind = (kidT (.mk k n l) i).kind := fun i K hi hK hm1 =>
  par_kind (par_kidL hm hi) (con_redex hK hm1)
 have hk : (Tm.mk k n l).kind = k := rfl
 have hkl : (Tm.mk k n l).kids.length = l.length := rfl
 rcases redex_wf (t := .mk k n l) hw hr with ⟨-, e, h2, h3⟩ | ⟨-, e, h2, h3⟩ | ⟨-, e, h2, h3⟩ | ⟨-, e, h2, h3⟩ | ⟨-, e, h2, h3⟩ | ⟨-, e, h2, h3⟩ <;> rw [hkl] at h2 <;> rw [e]
 ·rw [show (mainIx 5).toNat = 0 by decide]; exact key 0 4 (by omega) h3 (by decide)
 ·rw [show (mainIx 9).toNat = 3 by decide]; exact key 3 7 (by omega) h3 (by decide)
 ·rw [show (mainIx 9).toNat = 3 by decide]; exact key 3 8 (by omega) h3 (by decide)
 ·rw [show (mainIx 12).toNat = 1 by decide]; exact key 1 11 (by omega) h3 (by decide)
 ·rw [show (mainIx 15).toNat = 0 by decide]; exact key 0 14 (by omega) h3 (by decide)
 ·rw [show (mainIx 16).toNat = 0 by decide]; exact key 0 14 (by omega) h3 (by decide)
mutual
theorem Tm.par_wf : ∀ (t s : Tm), t.wf → t.par s → s.wf
 | .mk k n l, s, h, hp => by
  rw [Tm.par] at hp
  obtain ⟨m, hm, hp⟩ := hp
  rw [Tm.wf] at h
  have hw : (Tm.mk k n m).wf := by rw [Tm.wf, parL_length hm]; exact ⟨h.1, parL_wf l m h.2 hm⟩
  rcases hp with rfl | ⟨hr, rfl⟩
  ·exact hw
  ·exact hw.contr (by rw [par_redex h.1 hr hm]; exact hr)
theorem parL_wf : ∀ (l m : List Tm), wfL l → parL l m → wfL m
 | [], m, _, h => by rw [parL] at h; rw [h, wfL]; trivial
 | t :: l, m, hw, h => by
  rw [parL] at h
  obtain ⟨t', m', rfl, h1, h2⟩ := h
  rw [wfL] at hw
  rw [wfL]
  exact ⟨Tm.par_wf t t' hw.1 h1, parL_wf l m' hw.2 h2⟩
end
theorem contr_1 {t : Tm} (h : t.redex = 1) : t.contr = (kidT (kidT t 0) 1).subst (kidT t 1) 0 0 := by unfold Tm.contr; rw [h, if_pos rfl]
theorem contr_2 {t : Tm} (h : t.redex = 2) : t.contr = kidT t 1 := by unfold Tm.contr; rw [h, if_neg (by decide), if_pos rfl]
theorem contr_3 {t : Tm} (h : t.redex = 3) : t.contr = .mk 5 0 [.mk 5 0 [kidT t 2, kidT (kidT t 3) 0], .mk 9 0 [kidT t 0, kidT t 1, kidT t 2, kidT (kidT t 3) 0]] := by unfold Tm.contr; rw [h, if_neg (by decide), if_neg (by decide), if_pos rfl]
theorem contr_4 {t : Tm} (h : t.redex = 4) : t.contr = kidT t 2 := by unfold Tm.contr; rw [h, if_neg (by decide), if_neg (by decide), if_neg (by decide), if_pos rfl]
theorem contr_5 {t : Tm} (h : t.redex = 5) : t.contr = kidT (kidT t 0) 1 := by unfold Tm.contr; rw [h, if_neg (by decide), if_neg (by decide), if_neg (by decide), if_neg (by decide), if_pos rfl]
theorem contr_6 {t : Tm} (h : t.redex = 6) : t.contr = kidT (kidT t 0) 2 := by unfold Tm.contr; rw [h, if_neg (by decide), if_neg (by decide), if_neg (by decide), if_neg (by decide), if_neg (by decide)]
theorem under_0 {k : Int} (h : k ≠ 3 ∧ k ≠ 4 ∧ k ≠ 13) (i : Nat) : under k i = 0 := by unfold under; rw [if_neg]; omega
theorem under_fst (k : Int) : under k 0 = 0 := by unfold under; rw [if_neg]; omega
theorem contr_shift {t : Tm} (ht : t.wf) (hr : t.redex ≠ 0) {e c : Int} (he : 0 ≤ e) (hc : 0 ≤ c) : t.contr.shift e c = (t.shift e c).contr := by
 have ha := (t.wf_iff.1 ht).1
 have hs := redex_shift ht e c hr
 rcases redex_wf ha hr with ⟨h, e0, hl, hm⟩ | ⟨h, e0, hl, hm⟩ | ⟨h, e0, hl, hm⟩ | ⟨h, e0, hl, hm⟩ | ⟨h, e0, hl, hm⟩ | ⟨h, e0, hl, hm⟩ <;> rw [h] at hs
 ·have h0 := ht.kid (i := 0) (by omega)
  have hl0 := h0.len hm (a := 2) (by decide)
  rw [contr_1 h, contr_1 hs, kid_shift (by omega), kid_shift (by omega), kid_shift (by omega), e0, hm, show under 4 1 = 1 by decide, under_fst, under_0 (by decide)]
  have := Tm.subst_up (kidT t 1) e he (kidT (kidT t 0) 1) 0 c (h0.kid (by omega)) (by omega) hc
  simp only [Int.add_zero] at this ⊢
  exact this
 ·rw [contr_2 h, contr_2 hs, kid_shift (by omega), e0, under_0 (by decide), Int.add_zero]
 ·have h3 := ht.kid (i := 3) (by omega)
  have hl3 := h3.len hm (a := 1) (by decide)
  rw [contr_3 h, contr_3 hs, kid_shift (i := 3) (t := t) (by omega), kid_shift (i := 2) (t := t) (by omega), kid_shift (i := 0) (t := kidT t 3) (by omega), kid_shift (i := 0) (t := t) (by omega), kid_shift (i := 1) (t := t) (by omega), e0, hm]
  simp [Tm.shift, shiftL, under_0]
 ·rw [contr_4 h, contr_4 hs, kid_shift (by omega), e0, under_0 (by decide), Int.add_zero]
 ·have h0 := ht.kid (i := 0) (by omega)
  have hl0 := h0.len hm (a := 3) (by decide)
  rw [contr_5 h, contr_5 hs, kid_shift (by omega), kid_shift (by omega), e0, hm, under_0 (by decide), under_0 (by decide), Int.add_zero, Int.add_zero]
 ·have h0 := ht.kid (i := 0) (by omega)
  have hl0 := h0.len hm (a := 3) (by decide)
  rw [contr_6 h, contr_6 hs, kid_shift (by omega), kid_shift (by omega), e0, hm, under_0 (by decide), under_0 (by decide), Int.add_zero, Int.add_zero]
theorem subst_swap {T B u : Tm} (hT : T.wf) {x d : Int} (hx : 0 ≤ x) (hd : 0 ≤ d) : (T.subst B 0 0).subst u x d = (T.subst u (x + 1) (d + 1)).subst (B.subst u x d) 0 0 := by
 have h := Tm.subst_subst' B (u.shift d 0) x hx T 0 hT (Int.le_refl _)
 simp only [Int.add_zero] at h
 rw [Tm.subst_at u _ x hd, h, Tm.subst_at u T (x + 1) (by omega : 0 ≤ d + 1), Tm.shift_in 1 d hd u 0 0 (by omega) (by omega), Tm.subst_at u B x hd]
theorem contr_subst {t : Tm} (ht : t.wf) (hr : t.redex ≠ 0) (u : Tm) {x d : Int} (hx : 0 ≤ x) (hd : 0 ≤ d) : t.contr.subst u x d = (t.subst u x d).contr := by
 have ha := (t.wf_iff.1 ht).1
 have hs := redex_subst ht u x d hr
 have hk := (main_not_var ht hr).2.2
 rcases redex_wf ha hr with ⟨h, e0, hl, hm⟩ | ⟨h, e0, hl, hm⟩ | ⟨h, e0, hl, hm⟩ | ⟨h, e0, hl, hm⟩ | ⟨h, e0, hl, hm⟩ | ⟨h, e0, hl, hm⟩ <;> rw [h] at hs
 ·have h0 := ht.kid (i := 0) (by omega)
  have hl0 := h0.len hm (a := 2) (by decide)
  rw [contr_1 h, contr_1 hs, kid_subst hk (by omega), kid_subst (by omega) (by omega), kid_subst hk (by omega), e0, hm, show under 4 1 = 1 by decide, under_fst, under_0 (by decide)]
  simp only [Int.add_zero]
  exact subst_swap (h0.kid (by omega)) hx hd
 ·rw [contr_2 h, contr_2 hs, kid_subst hk (by omega), e0, under_0 (by decide), Int.add_zero, Int.add_zero]
 ·have h3 := ht.kid (i := 3) (by omega)
  have hl3 := h3.len hm (a := 1) (by decide)
  rw [contr_3 h, contr_3 hs, kid_subst hk (i := 3) (by omega), kid_subst hk (i := 2) (by omega), kid_subst (t := kidT t 3) (by omega) (by omega), kid_subst hk (i := 0) (t := t) (by omega), kid_subst hk (i := 1) (t := t) (by omega), e0, hm]
  simp [Tm.subst, substL, under_0]
 ·rw [contr_4 h, contr_4 hs, kid_subst hk (by omega), e0, under_0 (by decide), Int.add_zero, Int.add_zero]
 ·have h0 := ht.kid (i := 0) (by omega)
  have hl0 := h0.len hm (a := 3) (by decide)
  rw [contr_5 h, contr_5 hs, kid_subst hk (by omega), kid_subst (by omega) (by omega), e0, hm, under_0 (by decide), under_0 (by decide)]
  simp only [Int.add_zero]
 ·have h0 := ht.kid (i := 0) (by omega)
  have hl0 := h0.len hm (a := 3) (by decide)
  rw [contr_6 h, contr_6 hs, kid_subst hk (by omega), kid_subst (by omega) (by omega), e0, hm, under_0 (by decide), under_0 (by decide)]
  simp only [Int.add_zero]
mutual
theorem Tm.par_shift {e : Int} (he : 0 ≤ e) : ∀ (t s : Tm) (c : Int), 0 ≤ c → t.wf → t.par s → (t.shift e c).par (s.shift e c)
 | .mk k n l, s, c, hc, hw, hp => by
  have hww := hw
  rw [Tm.par] at hp
  obtain ⟨m, hm, hp⟩ := hp
  rw [Tm.wf] at hw
  have hL := parL_shift he l m k 0 c hc hw.2 hm
  rcases hp with rfl | ⟨hr, rfl⟩
  ·rw [Tm.shift, Tm.shift, Tm.par]
   exact ⟨_, hL, Or.inl rfl⟩
  ·have hr2 : (Tm.mk k n m).redex ≠ 0 := by rw [par_redex hw.1 hr hm]; exact hr
   have hw2 : (Tm.mk k n m).wf := by rw [Tm.wf, parL_length hm]; exact ⟨hw.1, parL_wf l m hw.2 hm⟩
   have hrs := redex_shift hww e c hr
   rw [contr_shift hw2 hr2 he hc, Tm.shift, Tm.shift, Tm.par]
   refine ⟨_, hL, Or.inr ⟨?_, rfl⟩⟩
   rw [Tm.shift] at hrs
   rw [hrs]
   exact hr
theorem parL_shift {e : Int} (he : 0 ≤ e) : ∀ (l m : List Tm) (k : Int) (i : Nat) (c : Int), 0 ≤ c → wfL l → parL l m → parL (shiftL e k l i c) (shiftL e k m i c)
 | [], m, k, i, c, _, _, h => by rw [parL] at h; rw [h, shiftL, parL]
 | t :: l, m, k, i, c, hc, hw, h => by
  rw [parL] at h
  obtain ⟨t', m', rfl, h1, h2⟩ := h
  rw [wfL] at hw
  have := under_succ k i
  rw [shiftL, shiftL, parL]
  exact ⟨_, _, rfl, Tm.par_shift he t t' _ (by omega) hw.1 h1, parL_shift he l m' k _ c hc hw.2 h2⟩
end
mutual
theorem Tm.par_subst {u v : Tm} (hu : u.wf) (huv : u.par v) : ∀ (t s : Tm) (x d : Int), 0 ≤ x → 0 ≤ d → t.wf → t.par s → (t.subst u x d).par (s.subst v x d)
 | .mk k n l, s, x, d, hx, hd, hw, hp => by
  have hww := hw
  rw [Tm.par] at hp
  obtain ⟨m, hm, hp⟩ := hp
  rw [Tm.wf] at hw
  have hL := parL_subst hu huv l m k 0 x d hx hd hw.2 hm
  rcases hp with rfl | ⟨hr, rfl⟩
  ·rw [Tm.subst, Tm.subst]
   by_cases h1 : k = 1 ∧ n = x
   ·rw [if_pos h1, if_pos h1]
    exact Tm.par_shift hd u v 0 (Int.le_refl _) hu huv
   ·rw [if_neg h1, if_neg h1, Tm.par]
    exact ⟨_, hL, Or.inl rfl⟩
  ·have hr2 : (Tm.mk k n m).redex ≠ 0 := by rw [par_redex hw.1 hr hm]; exact hr
   have hw2 : (Tm.mk k n m).wf := by rw [Tm.wf, parL_length hm]; exact ⟨hw.1, parL_wf l m hw.2 hm⟩
   have hrs := redex_subst hww u x d hr
   have hk : k ≠ 1 := (main_not_var hww hr).2.2
   have hne : ¬ (k = 1 ∧ n = x) := fun h => hk h.1
   rw [contr_subst hw2 hr2 v hx hd, Tm.subst, Tm.subst, if_neg hne, if_neg hne, Tm.par]
   refine ⟨_, hL, Or.inr ⟨?_, rfl⟩⟩
   rw [Tm.subst, if_neg hne] at hrs
   rw [hrs]
   exact hr
theorem parL_subst {u v : Tm} (hu : u.wf) (huv : u.par v) : ∀ (l m : List Tm) (k : Int) (i : Nat) (x d : Int), 0 ≤ x → 0 ≤ d → wfL l → parL l m → parL (substL u k l i x d) (substL v k m i x d)
 | [], m, k, i, x, d, _, _, _, h => by rw [parL] at h; rw [h, substL, substL, parL]
 | t :: l, m, k, i, x, d, hx, hd, hw, h => by
  rw [parL] at h
  obtain ⟨t', m', rfl, h1, h2⟩ := h
  rw [wfL] at hw
  have := under_succ k i
  rw [substL, substL, parL]
  exact ⟨_, _, rfl, Tm.par_subst hu huv t t' _ _ (by omega) (by omega) hw.1 h1, parL_subst hu huv l m' k _ x d hx hd hw.2 h2⟩
end
theorem par_mk {k n : Int} {l m : List Tm} (h : parL l m) : (Tm.mk k n l).par (.mk k n m) := by rw [Tm.par]; exact ⟨m, h, Or.inl rfl⟩
theorem contr_par {k n : Int} {l m : List Tm} (hw : (Tm.mk k n l).wf) (hr : (Tm.mk k n l).redex ≠ 0) (hm : parL l m) : (Tm.mk k n l).contr.par (Tm.mk k n m).contr := by
 have ha : arity k = l.length := ((Tm.mk k n l).wf_iff.1 hw).1
 have hs : (Tm.mk k n m).redex = (Tm.mk k n l).redex := par_redex (n' := n) ha hr hm
 have hkid : ∀ i, i < l.length → (kidT (.mk k n l) i).par (kidT (.mk k n m) i) := fun i hi => par_kidL hm hi
 have hkl : (Tm.mk k n l).kids.length = l.length := rfl
 rcases redex_wf (t := .mk k n l) ha hr with ⟨h, e0, hl, hm⟩ | ⟨h, e0, hl, hm⟩ | ⟨h, e0, hl, hm⟩ | ⟨h, e0, hl, hm⟩ | ⟨h, e0, hl, hm⟩ | ⟨h, e0, hl, hm⟩ <;> rw [h] at hs
 ·have h0 := hw.kid (i := 0) (by omega)
  have hl0 := h0.len hm (a := 2) (by decide)
  rw [contr_1 h, contr_1 hs]
  exact Tm.par_subst (hw.kid (by omega)) (hkid 1 (by omega)) _ _ 0 0 (Int.le_refl _) (Int.le_refl _) (h0.kid (by omega)) (par_kid (hkid 0 (by omega)) (con_redex hm (by decide)) (by omega))
 ·rw [contr_2 h, contr_2 hs]; exact hkid 1 (by omega)
 ·have h3 := hw.kid (i := 3) (by omega)
  have hl3 := h3.len hm (a := 1) (by decide)
  have h30 := par_kid (hkid 3 (by omega)) (con_redex hm (by decide)) (i := 0) (by omega)
  rw [contr_3 h, contr_3 hs]
  refine par_mk ?_
  simp only [parL]
  refine ⟨_, _, rfl, par_mk ?_, _, _, rfl, par_mk ?_, rfl⟩
  ·simp only [parL]
   exact ⟨_, _, rfl, hkid 2 (by omega), _, _, rfl, h30, rfl⟩
  ·simp only [parL]
   exact ⟨_, _, rfl, hkid 0 (by omega), _, _, rfl, hkid 1 (by omega), _, _, rfl, hkid 2 (by omega), _, _, rfl, h30, rfl⟩
 ·rw [contr_4 h, contr_4 hs]; exact hkid 2 (by omega)
 ·have h0 := hw.kid (i := 0) (by omega)
  have hl0 := h0.len hm (a := 3) (by decide)
  rw [contr_5 h, contr_5 hs]
  exact par_kid (hkid 0 (by omega)) (con_redex hm (by decide)) (by omega)
 ·have h0 := hw.kid (i := 0) (by omega)
  have hl0 := h0.len hm (a := 3) (by decide)
  rw [contr_6 h, contr_6 hs]
  exact par_kid (hkid 0 (by omega)) (con_redex hm (by decide)) (by omega)
mutual
def Tm.cd : Tm → Tm
 | .mk k n l => if (Tm.mk k n l).redex = 0 then .mk k n (cdL l) else Tm.contr (.mk k n (cdL l))
def cdL : List Tm → List Tm
 | [] => []
 | t :: l => t.cd :: cdL l
end
mutual
theorem Tm.par_cd : ∀ (t s : Tm), t.wf → t.par s → s.par t.cd
 | .mk k n l, s, hw, hp => by
  have hww := hw
  rw [Tm.par] at hp
  obtain ⟨m, hm, hp⟩ := hp
  rw [Tm.wf] at hw
  have hL := parL_cd l m hw.2 hm
  have hw2 : (Tm.mk k n m).wf := by rw [Tm.wf, parL_length hm]; exact ⟨hw.1, parL_wf l m hw.2 hm⟩
  rw [Tm.cd]
  rcases hp with rfl | ⟨hr, rfl⟩
  ·by_cases h0 : (Tm.mk k n l).redex = 0
   ·rw [if_pos h0]
    exact par_mk hL
   ·rw [if_neg h0, Tm.par]
    exact ⟨_, hL, Or.inr ⟨by rw [par_redex hw.1 h0 hm]; exact h0, rfl⟩⟩
  ·rw [if_neg hr]
   exact contr_par hw2 (by rw [par_redex hw.1 hr hm]; exact hr) hL
theorem parL_cd : ∀ (l m : List Tm), wfL l → parL l m → parL m (cdL l)
 | [], m, _, h => by rw [parL] at h; rw [h, cdL, parL]
 | t :: l, m, hw, h => by
  rw [parL] at h
  obtain ⟨t', m', rfl, h1, h2⟩ := h
  rw [wfL] at hw
  rw [cdL, parL]
  exact ⟨_, _, rfl, Tm.par_cd t t' hw.1 h1, parL_cd l m' hw.2 h2⟩
end
inductive Reds : Tm → Tm → Prop
 | refl (t : Tm) : Reds t t
 | step {t s u : Tm} : t.par s → Reds s u → Reds t u
theorem Reds.one {t s : Tm} (h : t.par s) : Reds t s := .step h (.refl s)
theorem Reds.trans {t s u : Tm} (h : Reds t s) (h2 : Reds s u) : Reds t u := by
 induction h with
 | refl => exact h2
 | step h _ ih => exact .step h (ih h2)
theorem Reds.strip {t b : Tm} (h : Reds t b) : ∀ a, t.wf → t.par a → ∃ c, Reds a c ∧ b.par c := by
 induction h with
 | refl t => intro a hw ha; exact ⟨a, .refl a, ha⟩
 | @step t s u h _ ih =>
  intro a hw ha
  obtain ⟨c, h1, h2⟩ := ih t.cd (Tm.par_wf _ _ hw h) (Tm.par_cd _ _ hw h)
  exact ⟨c, .step (Tm.par_cd _ _ hw ha) h1, h2⟩
theorem Reds.confl {t a : Tm} (h : Reds t a) : ∀ b, t.wf → Reds t b → ∃ c, Reds a c ∧ Reds b c := by
 induction h with
 | refl t => intro b _ hb; exact ⟨b, hb, .refl b⟩
 | @step t s u h _ ih =>
  intro b hw hb
  obtain ⟨c, h1, h2⟩ := hb.strip s hw h
  obtain ⟨d, h3, h4⟩ := ih c (Tm.par_wf _ _ hw h) h1
  exact ⟨d, h3, .step h2 h4⟩
def Nrm (t : Tm) : Prop := ∀ s, t.par s → s = t
theorem Nrm.reds {t s : Tm} (h : Nrm t) (hr : Reds t s) : s = t := by
 induction hr with
 | refl => rfl
 | @step t s u h1 _ ih =>
  have := h s h1
  subst this
  exact ih h
theorem nrm_one {t a b : Tm} (hw : t.wf) (ha : Reds t a) (hb : Reds t b) (na : Nrm a) (nb : Nrm b) : a = b := by
 obtain ⟨c, h1, h2⟩ := ha.confl b hw hb
 rw [← na.reds h1, ← nb.reds h2]
section
variable {rl mo : Bool}
mutual
theorem Tm.step_par : ∀ (t s : Tm), t.step rl mo = some s → t.par s
 | .mk k n l, s, h => by
  rw [Tm.step] at h
  rw [Tm.par]
  by_cases h1 : (Tm.mk k n l).redex ≠ 0 ∧ rl = false
  ·rw [if_pos h1] at h
   simp only [Option.some.injEq] at h
   exact ⟨l, parL_refl l, Or.inr ⟨h1.1, h.symm⟩⟩
  ·rw [if_neg h1] at h
   cases hf : stepL rl mo k l 0 with
   | some l' =>
    rw [hf] at h
    simp only [Option.some.injEq] at h
    exact ⟨l', stepL_par k l 0 l' hf, Or.inl h.symm⟩
   | none =>
    rw [hf] at h
    by_cases h2 : (Tm.mk k n l).redex ≠ 0
    ·simp only [if_pos h2, Option.some.injEq] at h
     exact ⟨l, parL_refl l, Or.inr ⟨h2, h.symm⟩⟩
    ·simp only [if_neg h2] at h
     cases h
theorem stepL_par (k : Int) : ∀ (l : List Tm) (i : Nat) (m : List Tm), stepL rl mo k l i = some m → parL l m
 | [], i, m, h => by rw [stepL] at h; cases h
 | t :: l, i, m, h => by
  rw [stepL] at h
  rw [parL]
  cases hf : (if mo = true ∧ mainIx k ≠ (i : Int) then none else t.step rl mo) with
  | some t' =>
   rw [hf] at h
   simp only [Option.some.injEq] at h
   have hf' : t.step rl mo = some t' := by
    split at hf
    ·cases hf
    ·exact hf
   exact ⟨t', l, h.symm, Tm.step_par t t' hf', parL_refl l⟩
  | none =>
   rw [hf] at h
   obtain ⟨m', hm', rfl⟩ := Option.map_eq_some_iff.1 h
   exact ⟨t, m', rfl, Tm.par_refl t, stepL_par k l (i + 1) m' hm'⟩
end
mutual
theorem Tm.step_nrm : ∀ (t s : Tm), t.step rl false = none → t.par s → s = t
 | .mk k n l, s, h, hp => by
  rw [Tm.step] at h
  rw [Tm.par] at hp
  obtain ⟨m, hm, hp⟩ := hp
  by_cases h1 : (Tm.mk k n l).redex ≠ 0 ∧ rl = false
  ·rw [if_pos h1] at h; cases h
  ·rw [if_neg h1] at h
   cases hf : stepL rl false k l 0 with
   | some l' => rw [hf] at h; cases h
   | none =>
    rw [hf] at h
    by_cases h2 : (Tm.mk k n l).redex ≠ 0
    ·simp only [if_pos h2] at h; cases h
    ·rw [stepL_nrm k l 0 m hf hm] at hp
     rcases hp with rfl | ⟨hr, _⟩
     ·rfl
     ·exact absurd hr h2
theorem stepL_nrm (k : Int) : ∀ (l : List Tm) (i : Nat) (m : List Tm), stepL rl false k l i = none → parL l m → m = l
 | [], i, m, _, hm => by rw [parL] at hm; exact hm
 | t :: l, i, m, h, hm => by
  rw [stepL] at h
  rw [parL] at hm
  obtain ⟨t', m', rfl, h1, h2⟩ := hm
  rw [if_neg (by simp)] at h
  cases hf : t.step rl false with
  | some x => rw [hf] at h; cases h
  | none =>
   rw [hf] at h
   rw [Tm.step_nrm t t' hf h1, stepL_nrm k l (i + 1) m' (by simpa using h) h2]
end
theorem nrm_of {t : Tm} (h : t.step rl false = none) : Nrm t := fun s hs => Tm.step_nrm t s h hs
theorem runGo_reds : ∀ (n : Nat) (t : Tm), Reds t (runGo rl mo n t).1
 | 0, t => by rw [runGo]; split <;> exact .refl t
 | n + 1, t => by
  rw [runGo]
  split
  ·exact .refl t
  ·rename_i t' h
   split
   ·exact .step (Tm.step_par t t' h) (runGo_reds n t')
   ·exact .refl t
theorem runGo_done : ∀ (n : Nat) (t : Tm), (runGo rl mo n t).2.1 = 0 → (runGo rl mo n t).1.step rl mo = none
 | 0, t, h => by
  cases hs : t.step rl mo with
  | none => rw [runGo_none hs]; exact hs
  | some t' => rw [runGo_zero hs] at h; cases h
 | n + 1, t, h => by
  cases hs : t.step rl mo with
  | none => rw [runGo_none hs]; exact hs
  | some t' =>
   by_cases hv : t'.Valid
   ·rw [runGo_took hs hv] at h ⊢
    exact runGo_done n t' h
   ·rw [runGo_large hs hv] at h
    cases h
end
-- free variables
mutual
theorem Tm.shift_most {e : Int} : ∀ (t : Tm) (c b : Int), c ≤ b → 0 ≤ e → (t.shift e c).most (b + e) ≤ t.most b
 | .mk k n l, c, b, h, he => by
  rw [Tm.shift, Tm.most, Tm.most]
  have := shiftL_most l k 0 c b h he
  rw [Int.max_def, Int.max_def]
  (repeat' split) <;> omega
theorem shiftL_most {e : Int} : ∀ (l : List Tm) (k : Int) (i : Nat) (c b : Int), c ≤ b → 0 ≤ e → mostL k (shiftL e k l i c) i (b + e) ≤ mostL k l i b
 | [], k, i, c, b, _, _ => by rw [shiftL, mostL, mostL]; exact Int.le_refl _
 | t :: l, k, i, c, b, h, he => by
  have h1 := Tm.shift_most t (c + under k i) (b + under k i) (by omega) he
  have h2 := shiftL_most l k (i + 1) c b h he
  rw [shiftL, mostL, mostL, show b + e + under k i = b + under k i + e by omega]
  rw [Int.max_def, Int.max_def]
  (repeat' split) <;> omega
end
mutual
theorem Tm.subst_most (u : Tm) (b : Int) (hb : 0 ≤ b) : ∀ (t : Tm) (j : Int), 0 ≤ j → t.wf → (t.subst u j j).most (b + j) ≤ max (t.most (b + 1 + j)) (u.most b)
 | .mk k n l, j, hj, hw => by
  have hww := hw
  rw [Tm.wf] at hw
  have h1 := substL_most u b hb l k 0 j hj hw.2
  have h2 := Tm.shift_most (e := j) u 0 b hb hj
  have h3 := u.most_ge b
  rw [Tm.subst]
  split
  ·rw [Int.max_def]; split <;> omega
  ·rw [Tm.most, Tm.most]
   generalize mostL k (substL u k l 0 j j) 0 (b + j) = A at *
   generalize mostL k l 0 (b + 1 + j) = B at *
   simp only [Int.max_def] at h1 ⊢
   (repeat' split at h1) <;> (repeat' split) <;> omega
theorem substL_most (u : Tm) (b : Int) (hb : 0 ≤ b) : ∀ (l : List Tm) (k : Int) (i : Nat) (j : Int), 0 ≤ j → wfL l → mostL k (substL u k l i j j) i (b + j) ≤ max (mostL k l i (b + 1 + j)) (u.most b)
 | [], k, i, j, _, _ => by
  have h3 := u.most_ge b
  rw [substL, mostL, mostL, Int.max_def]; split <;> omega
 | t :: l, k, i, j, hj, hw => by
  have hu := under_succ k i
  rw [wfL] at hw
  have h1 := Tm.subst_most u b hb t (j + under k i) (by omega) hw.1
  have h2 := substL_most u b hb l k (i + 1) j hj hw.2
  rw [substL, mostL, mostL, Int.add_assoc b j, Int.add_assoc (b + 1) j]
  simp only [Int.max_def] at h1 h2 ⊢
  (repeat' split at h1) <;> (repeat' split at h2) <;> (repeat' split) <;> omega
end
theorem mostL_get (k : Int) (b : Int) : ∀ (l : List Tm) (i j : Nat) (h : j < l.length), l[j].most (b + under k (i + j)) ≤ mostL k l i b
 | t :: l, i, 0, h => by rw [mostL, Int.max_def]; simp only [List.getElem_cons_zero, Nat.add_zero]; split <;> omega
 | t :: l, i, j + 1, h => by
  have := mostL_get k b l (i + 1) j (by simpa using h)
  rw [show i + 1 + j = i + (j + 1) by omega] at this
  rw [mostL, Int.max_def]; simp only [List.getElem_cons_succ]; split <;> omega
theorem kid_most {t : Tm} {i : Nat} (hi : i < t.kids.length) (b : Int) : (kidT t i).most (b + under t.kind i) ≤ t.most b := by
 obtain ⟨k, n, l⟩ := t
 have := mostL_get k b l 0 i hi
 rw [Nat.zero_add] at this
 rw [kidT_eq hi, Tm.most]
 refine Int.le_trans this ?_
 rw [Int.max_def]; split <;> omega
theorem contr_most {t : Tm} (ht : t.wf) (hr : t.redex ≠ 0) {b : Int} (hb : 0 ≤ b) : t.contr.most b ≤ t.most b := by
 have ha := (t.wf_iff.1 ht).1
 have hk : ∀ i, i < t.kids.length → under t.kind i = 0 → (kidT t i).most b ≤ t.most b := fun i hi hu => by
  have := kid_most hi b
  rwa [hu, Int.add_zero] at this
 rcases redex_wf ha hr with ⟨h, e0, hl, hm⟩ | ⟨h, e0, hl, hm⟩ | ⟨h, e0, hl, hm⟩ | ⟨h, e0, hl, hm⟩ | ⟨h, e0, hl, hm⟩ | ⟨h, e0, hl, hm⟩
 ·have h0 := ht.kid (i := 0) (by omega)
  have hl0 := h0.len hm (a := 2) (by decide)
  have h1 := Tm.subst_most (kidT t 1) b hb (kidT (kidT t 0) 1) 0 (Int.le_refl _) (h0.kid (by omega))
  have h2 := kid_most (t := kidT t 0) (i := 1) (by omega) b
  have h3 := hk 0 (by omega) (under_fst _)
  have h4 := hk 1 (by omega) (by rw [e0]; decide)
  rw [hm, show under 4 1 = 1 by decide] at h2
  simp only [Int.add_zero] at h1
  rw [contr_1 h]
  rw [Int.max_def] at h1
  split at h1 <;> omega
 ·rw [contr_2 h]; exact hk 1 (by omega) (by rw [e0]; decide)
 ·have h3 := ht.kid (i := 3) (by omega)
  have hl3 := h3.len hm (a := 1) (by decide)
  have k30 := kid_most (t := kidT t 3) (i := 0) (by omega) b
  rw [under_fst, Int.add_zero] at k30
  have k3 := hk 3 (by omega) (by rw [e0]; decide)
  have k0 := hk 0 (by omega) (by rw [e0]; decide)
  have k1 := hk 1 (by omega) (by rw [e0]; decide)
  have k2 := hk 2 (by omega) (by rw [e0]; decide)
  have kt := t.most_ge b
  rw [contr_3 h]
  simp only [Tm.most, mostL, under_0 (k := 5) (by decide), under_0 (k := 9) (by decide), Int.add_zero, Int.max_def]
  (repeat' split) <;> omega
 ·rw [contr_4 h]; exact hk 2 (by omega) (by rw [e0]; decide)
 ·have h0 := ht.kid (i := 0) (by omega)
  have hl0 := h0.len hm (a := 3) (by decide)
  have h2 := kid_most (t := kidT t 0) (i := 1) (by omega) b
  rw [hm, show under 14 1 = 0 by decide, Int.add_zero] at h2
  rw [contr_5 h]
  exact Int.le_trans h2 (hk 0 (by omega) (under_fst _))
 ·have h0 := ht.kid (i := 0) (by omega)
  have hl0 := h0.len hm (a := 3) (by decide)
  have h2 := kid_most (t := kidT t 0) (i := 2) (by omega) b
  rw [hm, show under 14 2 = 0 by decide, Int.add_zero] at h2
  rw [contr_6 h]
  exact Int.le_trans h2 (hk 0 (by omega) (under_fst _))
mutual
theorem Tm.par_most : ∀ (t s : Tm) (b : Int), 0 ≤ b → t.wf → t.par s → s.most b ≤ t.most b
 | .mk k n l, s, b, hb, hw, hp => by
  rw [Tm.par] at hp
  obtain ⟨m, hm, hp⟩ := hp
  rw [Tm.wf] at hw
  have hL := parL_most l m k 0 b hb hw.2 hm
  have hN : (Tm.mk k n m).most b ≤ (Tm.mk k n l).most b := by
   rw [Tm.most, Tm.most]
   simp only [Int.max_def]
   (repeat' split) <;> omega
  rcases hp with rfl | ⟨hr, rfl⟩
  ·exact hN
  ·have hw2 : (Tm.mk k n m).wf := by rw [Tm.wf, parL_length hm]; exact ⟨hw.1, parL_wf l m hw.2 hm⟩
   exact Int.le_trans (contr_most hw2 (by rw [par_redex hw.1 hr hm]; exact hr) hb) hN
theorem parL_most : ∀ (l m : List Tm) (k : Int) (i : Nat) (b : Int), 0 ≤ b → wfL l → parL l m → mostL k m i b ≤ mostL k l i b
 | [], m, k, i, b, _, _, h => by rw [parL] at h; rw [h]; exact Int.le_refl _
 | t :: l, m, k, i, b, hb, hw, h => by
  rw [parL] at h
  obtain ⟨t', m', rfl, h1, h2⟩ := h
  rw [wfL] at hw
  have := under_succ k i
  have q1 := Tm.par_most t t' (b + under k i) (by omega) hw.1 h1
  have q2 := parL_most l m' k (i + 1) b hb hw.2 h2
  rw [mostL, mostL]
  simp only [Int.max_def]
  (repeat' split) <;> omega
end
theorem Reds.most {t s : Tm} (h : Reds t s) (hw : t.wf) : s.most 0 ≤ t.most 0 := by
 induction h with
 | refl => exact Int.le_refl _
 | step h _ ih => exact Int.le_trans (ih (Tm.par_wf _ _ hw h)) (Tm.par_most _ _ 0 (Int.le_refl _) hw h)
end Go.Proofs.YtpddjebdncaceaaGreat
