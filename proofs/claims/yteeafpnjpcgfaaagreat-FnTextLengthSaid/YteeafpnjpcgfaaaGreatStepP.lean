/-
  Steps and normalizations in plain words: what is valid; 'stepOut' (StepTerm, StepInner), 'runGo' (the normalizations), head steps.
-/
import Derived.Test.YteeafpnjpcgfaaaGreatFindP
import Derived.Test.YteeafpnjpcgfaaaGreatTrav
namespace Go.Proofs.YteeafpnjpcgfaaaGreat

theorem Tm.Valid.get {t : Tm} (h : t.Valid) {i : Nat} (hi : i < t.kids.length) : t.kids[i].Valid := by
  obtain ⟨h1, h2, h3⟩ := h
  refine ⟨(allsOk_iff _).1 (t.allOk_iff.1 h1).2 _ (List.getElem_mem hi), ?_, ?_⟩
  · have := mem_hgts hi
    have := t.hgt_eq
    omega
  · have := size_get_le t.kids i hi
    have := t.size_eq
    omega
theorem kidT_eq {t : Tm} {i : Nat} (hi : i < t.kids.length) : kidT t i = t.kids[i] := by
  unfold kidT
  rw [List.getD_eq_getElem?_getD, List.getElem?_eq_getElem hi]
  rfl
theorem Tm.Valid.kidT {t : Tm} (h : t.Valid) {i : Nat} (hi : i < t.kids.length) : (kidT t i).Valid := by
  rw [kidT_eq hi]; exact h.get hi
theorem kidK_kidT (t : Tm) (i : Nat) : kidK t.kids i = (kidT t i).kind := rfl

/-- Every index of the way leads to an operand. -/
def InPath : List (Tm × Nat) → Prop
  | [] => True
  | (t, i) :: p => i < t.kids.length ∧ InPath p
theorem around_valid : ∀ (p : List (Tm × Nat)) (x : Tm), InPath p → (around p x).Valid → x.Valid
  | [], _, _, h => h
  | (t, i) :: p, x, hp, h => by
    rw [around] at h
    have := h.get (i := i) (by simpa [Tm.kids] using hp.1)
    simp only [Tm.kids, List.getElem_set_self] at this
    exact around_valid p x hp.2 this

mutual
theorem Tm.find_ok {rl mo : Bool} : ∀ (t : Tm) (p : List (Tm × Nat)) (x : Tm), t.find rl mo = some (p, x) → t.Valid → InPath p ∧ x.redex ≠ 0 ∧ x.Valid ∧ p.length ≤ hgts t.kids ∧ ∀ y ∈ p, y.1.Valid
  | .mk k n l, p, x, h, hv => by
    rw [Tm.find] at h
    by_cases h1 : (Tm.mk k n l).redex ≠ 0 ∧ rl = false
    · rw [if_pos h1] at h
      obtain ⟨rfl, rfl⟩ : [] = p ∧ Tm.mk k n l = x := by simpa using h
      exact ⟨trivial, h1.1, hv, Nat.zero_le _, fun y hy => by cases hy⟩
    · rw [if_neg h1] at h
      cases hf : findL rl mo (.mk k n l) l 0 with
      | some y =>
        rw [hf] at h
        obtain rfl : y = (p, x) := by simpa using h
        exact findL_ok (.mk k n l) hv l [] rfl p x hf
      | none =>
        rw [hf] at h
        by_cases h2 : (Tm.mk k n l).redex ≠ 0
        · simp only [if_pos h2] at h
          obtain ⟨rfl, rfl⟩ : [] = p ∧ Tm.mk k n l = x := by simpa using h
          exact ⟨trivial, h2, hv, Nat.zero_le _, fun y hy => by cases hy⟩
        · simp only [if_neg h2] at h
          cases h
theorem findL_ok {rl mo : Bool} (t0 : Tm) (hv : t0.Valid) : ∀ (l pre : List Tm), t0.kids = pre ++ l → ∀ (p : List (Tm × Nat)) (x : Tm), findL rl mo t0 l pre.length = some (p, x) → InPath p ∧ x.redex ≠ 0 ∧ x.Valid ∧ p.length ≤ hgts t0.kids ∧ ∀ y ∈ p, y.1.Valid
  | [], pre, _, p, x, h => by rw [findL] at h; cases h
  | t :: l, pre, e, p, x, h => by
    rw [findL] at h
    have hlen : pre.length < t0.kids.length := by rw [e]; simp
    have hget : t0.kids[pre.length] = t := by simp [e]
    cases hf : (if mo = true ∧ mainIx t0.kind ≠ (pre.length : Int) then none else t.find rl mo) with
    | none =>
      rw [hf] at h
      exact findL_ok t0 hv l (pre ++ [t]) (by rw [e, List.append_assoc]; rfl) p x (by rw [List.length_append, List.length_singleton]; exact h)
    | some y =>
      obtain ⟨p', x'⟩ := y
      rw [hf] at h
      obtain ⟨rfl, rfl⟩ : (t0, pre.length) :: p' = p ∧ x' = x := by simpa using h
      have hf' : t.find rl mo = some (p', x') := by
        split at hf
        · cases hf
        · exact hf
      have hvt : t.Valid := hget ▸ hv.get hlen
      obtain ⟨a, b, c, d, e'⟩ := Tm.find_ok t p' x' hf' hvt
      refine ⟨⟨hlen, a⟩, b, c, ?_, fun y hy => ?_⟩
      · have h1 := mem_hgts hlen
        rw [hget, t.hgt_eq] at h1
        rw [List.length_cons]
        omega
      · rcases List.mem_cons.1 hy with rfl | hy
        · exact hv
        · exact e' y hy
end

/-- The shape of a redex. -/
theorem redex_shape {t : Tm} (hr : t.rootOk) (h : t.redex ≠ 0) :
    (t.redex = 1 ∧ t.kind = 5 ∧ t.kids.length = 2 ∧ (kidT t 0).kind = 4) ∨ (t.redex = 2 ∧ t.kind = 9 ∧ t.kids.length = 4 ∧ (kidT t 3).kind = 7) ∨ (t.redex = 3 ∧ t.kind = 9 ∧ t.kids.length = 4 ∧ (kidT t 3).kind = 8) ∨
    (t.redex = 4 ∧ t.kind = 12 ∧ t.kids.length = 3 ∧ (kidT t 1).kind = 11) ∨ (t.redex = 5 ∧ t.kind = 15 ∧ t.kids.length = 1 ∧ (kidT t 0).kind = 14) ∨ (t.redex = 6 ∧ t.kind = 16 ∧ t.kids.length = 1 ∧ (kidT t 0).kind = 14) := by
  have ha : arity t.kind = t.kids.length := hr.1
  have hred : t.redex = redexK t.kind (kidT t (mainIx t.kind).toNat).kind := rfl
  by_cases h5 : t.kind = 5
  · rw [h5] at ha hred
    rw [show (mainIx 5).toNat = 0 by decide] at hred
    have h2 : arity 5 = 2 := by decide
    have hm : (kidT t 0).kind = 4 := by
      refine Classical.byContradiction fun hc => h ?_
      rw [hred]; unfold redexK; (repeat' split) <;> omega
    rw [hm] at hred
    exact Or.inl ⟨hred.trans (by decide), h5, by omega, hm⟩
  by_cases h9 : t.kind = 9
  · rw [h9] at ha hred
    rw [show (mainIx 9).toNat = 3 by decide] at hred
    have h2 : arity 9 = 4 := by decide
    have hm : (kidT t 3).kind = 7 ∨ (kidT t 3).kind = 8 := by
      refine Classical.byContradiction fun hc => h ?_
      rw [hred]; unfold redexK; (repeat' split) <;> omega
    rcases hm with hm | hm
    · rw [hm] at hred
      exact Or.inr (Or.inl ⟨hred.trans (by decide), h9, by omega, hm⟩)
    · rw [hm] at hred
      exact Or.inr (Or.inr (Or.inl ⟨hred.trans (by decide), h9, by omega, hm⟩))
  by_cases h12 : t.kind = 12
  · rw [h12] at ha hred
    rw [show (mainIx 12).toNat = 1 by decide] at hred
    have h2 : arity 12 = 3 := by decide
    have hm : (kidT t 1).kind = 11 := by
      refine Classical.byContradiction fun hc => h ?_
      rw [hred]; unfold redexK; (repeat' split) <;> omega
    rw [hm] at hred
    exact Or.inr (Or.inr (Or.inr (Or.inl ⟨hred.trans (by decide), h12, by omega, hm⟩)))
  by_cases h15 : t.kind = 15
  · rw [h15] at ha hred
    rw [show (mainIx 15).toNat = 0 by decide] at hred
    have h2 : arity 15 = 1 := by decide
    have hm : (kidT t 0).kind = 14 := by
      refine Classical.byContradiction fun hc => h ?_
      rw [hred]; unfold redexK; (repeat' split) <;> omega
    rw [hm] at hred
    exact Or.inr (Or.inr (Or.inr (Or.inr (Or.inl ⟨hred.trans (by decide), h15, by omega, hm⟩))))
  by_cases h16 : t.kind = 16
  · rw [h16] at ha hred
    rw [show (mainIx 16).toNat = 0 by decide] at hred
    have h2 : arity 16 = 1 := by decide
    have hm : (kidT t 0).kind = 14 := by
      refine Classical.byContradiction fun hc => h ?_
      rw [hred]; unfold redexK; (repeat' split) <;> omega
    rw [hm] at hred
    exact Or.inr (Or.inr (Or.inr (Or.inr (Or.inr ⟨hred.trans (by decide), h16, by omega, hm⟩))))
  refine absurd ?_ h
  rw [hred]; unfold redexK; (repeat' split) <;> omega

/-- The operands of an operand of a known kind. -/
theorem kid_len {t : Tm} (h : t.rootOk) {k : Int} (hk : t.kind = k) {a : Int} (ha : arity k = a) : (t.kids.length : Int) = a := by
  have := h.1
  rw [hk, ha] at this
  exact this.symm
theorem Tm.Valid.root {t : Tm} (h : t.Valid) : t.rootOk := (t.allOk_iff.1 h.1).1

/-- The contractum of a valid redex is a part of it, or an application that the program asks whether it is valid. -/
theorem contr_part {t : Tm} (hk : ∀ i (hi : i < t.kids.length), t.kids[i].Valid) (hr : t.rootOk) (h : t.redex ≠ 0) (h1 : t.redex ≠ 1) (h3 : t.redex ≠ 3) : t.contr.Valid := by
  have hv : ∀ i, i < t.kids.length → (kidT t i).Valid := fun i hi => by rw [kidT_eq hi]; exact hk i hi
  unfold Tm.contr
  rcases redex_shape hr h with ⟨e, _⟩ | ⟨e, -, hl, -⟩ | ⟨e, _⟩ | ⟨e, -, hl, -⟩ | ⟨e, -, hl, hm⟩ | ⟨e, -, hl, hm⟩
  · exact absurd e h1
  · rw [e, if_neg (by decide), if_pos rfl]; exact hv 1 (by omega)
  · exact absurd e h3
  · rw [e, if_neg (by decide), if_neg (by decide), if_neg (by decide), if_pos rfl]; exact hv 2 (by omega)
  · rw [e, if_neg (by decide), if_neg (by decide), if_neg (by decide), if_neg (by decide), if_pos rfl]
    have := hv 0 (by omega)
    exact this.kidT (by have := kid_len this.root hm (a := 3) (by decide); omega)
  · rw [e, if_neg (by decide), if_neg (by decide), if_neg (by decide), if_neg (by decide), if_neg (by decide)]
    have := hv 0 (by omega)
    exact this.kidT (by have := kid_len this.root hm (a := 3) (by decide); omega)

/-- What StepTerm and StepInner answer. -/
noncomputable def stepOut (rl mo : Bool) (t : Tm) : Tm × Int :=
  @ite _ t.Valid (Classical.propDecidable _) (match t.step rl mo with | none => (t, 0) | some t' => @ite _ t'.Valid (Classical.propDecidable _) (t', 1) (zeroT, 2)) (zeroT, 3)

/-- The last term that is reached, the code, and the number of steps. -/
noncomputable def runGo (rl mo : Bool) : Nat → Tm → Tm × Int × Nat
  | 0, t => match t.step rl mo with | none => (t, 0, 0) | some _ => (t, 1, 0)
  | n + 1, t => match t.step rl mo with | none => (t, 0, 0) | some t' => @ite _ t'.Valid (Classical.propDecidable _) ((runGo rl mo n t').1, (runGo rl mo n t').2.1, (runGo rl mo n t').2.2 + 1) (t, 2, 0)
/-- What the normalizations answer. -/
def NormOk (t : Tm) (fuel : Int) : Prop := t.Valid ∧ 0 ≤ fuel ∧ fuel ≤ 200
noncomputable def normC (rl mo : Bool) (t : Tm) (fuel : Int) : Int := @ite _ (NormOk t fuel) (Classical.propDecidable _) (runGo rl mo fuel.toNat t).2.1 3
noncomputable def normT (rl mo : Bool) (t : Tm) (fuel : Int) : Tm := orZero (normC rl mo t fuel = 0) (runGo rl mo fuel.toNat t).1

theorem runGo_none {rl mo : Bool} {n : Nat} {t : Tm} (h : t.step rl mo = none) : runGo rl mo n t = (t, 0, 0) := by
  cases n <;> rw [runGo, h]
theorem runGo_zero {rl mo : Bool} {t t' : Tm} (h : t.step rl mo = some t') : runGo rl mo 0 t = (t, 1, 0) := by
  rw [runGo, h]
theorem runGo_large {rl mo : Bool} {n : Nat} {t t' : Tm} (h : t.step rl mo = some t') (hv : ¬ t'.Valid) : runGo rl mo (n + 1) t = (t, 2, 0) := by
  rw [runGo, h]
  exact if_neg hv
theorem runGo_took {rl mo : Bool} {n : Nat} {t t' : Tm} (h : t.step rl mo = some t') (hv : t'.Valid) : runGo rl mo (n + 1) t = ((runGo rl mo n t').1, (runGo rl mo n t').2.1, (runGo rl mo n t').2.2 + 1) := by
  rw [runGo, h]
  exact if_pos hv
theorem runGo_valid {rl mo : Bool} : ∀ (n : Nat) (t : Tm), t.Valid → (runGo rl mo n t).1.Valid
  | 0, t, h => by rw [runGo]; split <;> exact h
  | n + 1, t, h => by
    rw [runGo]
    split
    · exact h
    · split
      · exact runGo_valid n _ (by assumption)
      · exact h
theorem runGo_steps {rl mo : Bool} : ∀ (n : Nat) (t : Tm), (runGo rl mo n t).2.2 ≤ n
  | 0, t => by rw [runGo]; split <;> exact Nat.le_refl _
  | n + 1, t => by
    rw [runGo]
    split
    · exact Nat.zero_le _
    · split
      · exact Nat.succ_le_succ (runGo_steps n _)
      · exact Nat.zero_le _
theorem runGo_code {rl mo : Bool} : ∀ (n : Nat) (t : Tm), (runGo rl mo n t).2.1 = 0 ∨ (runGo rl mo n t).2.1 = 1 ∨ (runGo rl mo n t).2.1 = 2
  | 0, t => by rw [runGo]; split <;> simp
  | n + 1, t => by
    rw [runGo]
    split
    · simp
    · split
      · exact runGo_code n _
      · simp

/-- A head step: in the main operand alone. -/
theorem mainIx_lt {t : Tm} (h : t.rootOk) (hm : mainIx t.kind ≠ -1) : (mainIx t.kind).toNat < t.kids.length ∧ 0 ≤ mainIx t.kind := by
  have ha := h.1
  unfold mainIx at hm ⊢
  unfold arity at ha
  (repeat' split) <;> (repeat' split at ha) <;> omega
theorem stepL_head (k : Int) : ∀ (l : List Tm) (i : Nat), stepL false true k l i = if h : (i : Int) ≤ mainIx k ∧ (mainIx k).toNat - i < l.length then ((l[(mainIx k).toNat - i]'h.2).step false true).map fun x => l.set ((mainIx k).toNat - i) x else none
  | [], i => by rw [stepL, dif_neg (by simp)]
  | t :: l, i => by
    rw [stepL, stepL_head k l (i + 1)]
    by_cases hm : mainIx k = (i : Int)
    · have hz : (mainIx k).toNat - i = 0 := by omega
      rw [if_neg (by simp [hm]), dif_neg (show ¬ (((i + 1 : Nat) : Int) ≤ mainIx k ∧ (mainIx k).toNat - (i + 1) < l.length) by omega), dif_pos (show (i : Int) ≤ mainIx k ∧ (mainIx k).toNat - i < (t :: l).length by rw [List.length_cons]; omega)]
      simp only [hz, List.getElem_cons_zero, List.set_cons_zero]
      cases t.step false true <;> rfl
    · rw [if_pos ⟨rfl, hm⟩]
      by_cases hlt : (i : Int) < mainIx k ∧ (mainIx k).toNat - i < l.length + 1
      · obtain ⟨d, hd⟩ : ∃ d, (mainIx k).toNat - i = d + 1 := ⟨(mainIx k).toNat - i - 1, by omega⟩
        have hd' : (mainIx k).toNat - (i + 1) = d := by omega
        rw [dif_pos ⟨by omega, by omega⟩, dif_pos ⟨by omega, by simpa using hlt.2⟩]
        simp only [hd, hd', List.getElem_cons_succ, List.set_cons_succ, Option.map_map]
        rfl
      · rw [dif_neg (by omega), dif_neg (by simp only [List.length_cons]; omega)]
        rfl
theorem Tm.step_head {t : Tm} (hr : t.rootOk) : t.step false true = if t.redex ≠ 0 then some t.contr else if mainIx t.kind = -1 then none else ((kidT t (mainIx t.kind).toNat).step false true).map fun x => .mk t.kind t.num (t.kids.set (mainIx t.kind).toNat x) := by
  have hs : t.step false true = if t.redex ≠ 0 ∧ false = false then some t.contr else match stepL false true t.kind t.kids 0 with | some l' => some (.mk t.kind t.num l') | none => if t.redex ≠ 0 then some t.contr else none := by
    cases t; rw [Tm.step]; rfl
  rw [hs, stepL_head]
  by_cases h : t.redex ≠ 0
  · rw [if_pos ⟨h, rfl⟩, if_pos h]
  · rw [if_neg (fun e => h e.1), if_neg h, if_neg h]
    by_cases hm : mainIx t.kind = -1
    · rw [dif_neg (by omega), if_pos hm]
    · obtain ⟨h1, h2⟩ := mainIx_lt hr hm
      rw [dif_pos ⟨by omega, by omega⟩, if_neg hm, kidT_eq h1]
      simp only [Nat.sub_zero]
      cases (t.kids[(mainIx t.kind).toNat]).step false true <;> rfl

end Go.Proofs.YteeafpnjpcgfaaaGreat
