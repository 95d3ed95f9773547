/-
  VarsN.
-/
import Derived.Test.YtabbbnddfcbdiaaGreatB07
import Derived.Test.YtabbbnddfcbdiaaGreatC02
import Derived.Test.YtabbbnddfcbdiaaGreatC10
import Derived.Test.YtabbbnddfcbdiaaGreatC15
import Derived.Test.YtabbbnddfcbdiaaGreatC24
import Derived.Test.YtabbbnddfcbdiaaGreatC27
import Derived.Test.YtabbbnddfcbdiaaGreatC28
namespace Go.Proofs.YtabbbnddfcbdiaaGreat
open Go.RowKit
theorem CodePost.s {w w' : World} {c : Int} {T : Tm} {e : Ending} (h : CodePost w c T e w') : SCodePost w c T e w' := by
 obtain ⟨hb, v, he, s, F, hv, hs, -, -⟩ := h
 exact ⟨hb, v, he, s, hv, hs.sl fun _ _ => Nat.zero_le _⟩
theorem normI_p (T : Tm) (x : Int) (w : World) (v : Value) (h : TmIn w 0 T v) : Calls Tryz.prog 16 #[v, .int .i64 x] w (SCodePost w (normC false false T x) (normT false false T x)) := (normTI_any T x w v h).mono fun _ _ h => h.s
theorem innerI_p (T : Tm) (x : Int) (w : World) (v : Value) (h : TmIn w 0 T v) : Calls Tryz.prog 17 #[v, .int .i64 x] w (SCodePost w (normC true false T x) (normT true false T x)) := (normNI_any T x w v h).mono fun _ _ h => h.s
theorem headI_p (T : Tm) (x : Int) (w : World) (v : Value) (h : TmIn w 0 T v) : Calls Tryz.prog 35 #[v, .int .i64 x] w (SCodePost w (normC false true T x) (normT false true T x)) := (headI_any T x w v h).mono fun _ _ h => h.s
theorem stepI_p (T : Tm) (w : World) (v : Value) (h : TmIn w 0 T v) : Calls Tryz.prog 21 #[v] w (SCodePost w (stepOut false false T).2 (stepOut false false T).1) := (stepTI_any T w v h).mono fun _ _ h => h.s
theorem stepN_p (T : Tm) (w : World) (v : Value) (h : TmIn w 0 T v) : Calls Tryz.prog 27 #[v] w (SCodePost w (stepOut true false T).2 (stepOut true false T).1) := (stepNI_any T w v h).mono fun _ _ h => h.s
structure NrmYes (rl mo : Bool) (T : Tm) (x : Int) (X : Tm) : Prop where
 ok : NormOk T x
 run : (runGo rl mo x.toNat T).2.1 = 0
 eq : X = (runGo rl mo x.toNat T).1
 valid : X.Valid
 reds : Reds T X
 done : X.step rl mo = none
theorem normC_ok {rl mo : Bool} {T : Tm} {x : Int} (h : NormOk T x) : normC rl mo T x = (runGo rl mo x.toNat T).2.1 := if_pos h
theorem normC_no {rl mo : Bool} {T : Tm} {x : Int} (h : ¬ NormOk T x) : normC rl mo T x = 3 := if_neg h
theorem nrm_yes {rl mo : Bool} {T : Tm} {x : Int} (h : normC rl mo T x = 0) : NrmYes rl mo T x (normT rl mo T x) := by
 have hok : NormOk T x := Classical.byContradiction fun hn => by rw [normC_no hn] at h; cases h
 have hrun : (runGo rl mo x.toNat T).2.1 = 0 := by rw [← normC_ok hok]; exact h
 have heq : normT rl mo T x = (runGo rl mo x.toNat T).1 := if_pos h
 refine ⟨hok, hrun, heq, ?_, ?_, ?_⟩
 ·rw [heq]; exact runGo_valid _ _ hok.1
 ·rw [heq]; exact runGo_reds _ _
 ·rw [heq]; exact runGo_done _ _ hrun
theorem nrm_no {rl mo : Bool} {T : Tm} {x : Int} (h : normC rl mo T x ≠ 0) : normT rl mo T x = zeroT := if_neg h
theorem Tm.Valid.wf {T : Tm} (h : T.Valid) : T.wf := h.1.wf
theorem norm_fix {rl mo : Bool} {X : Tm} (hv : X.Valid) (hs : X.step rl mo = none) {x : Int} (h0 : 0 ≤ x) (h1 : x ≤ 200) : normC rl mo X x = 0 ∧ normT rl mo X x = X := by
 have hok : NormOk X x := ⟨hv, h0, h1⟩
 have hr : runGo rl mo x.toNat X = (X, 0, 0) := runGo_none hs
 have hc : normC rl mo X x = 0 := by rw [normC_ok hok, hr]
 exact ⟨hc, by rw [(nrm_yes hc).eq, hr]⟩
theorem norm_same {rl rl' : Bool} {T A B : Tm} {x y : Int} {T1 T2 : Tm} (hw : T.wf) (h1 : Reds T T1) (h2 : Reds T T2) (ha : NrmYes rl false T1 x A) (hb : NrmYes rl' false T2 y B) : A = B :=
 nrm_one hw (h1.trans ha.reds) (h2.trans hb.reds) (nrm_of ha.done) (nrm_of hb.done)
theorem redex_of_none {mo : Bool} {X : Tm} (h : X.step false mo = none) : X.redex = 0 := by
 refine Classical.byContradiction fun hr => ?_
 obtain ⟨k, n, l⟩ := X
 rw [Tm.step, if_pos ⟨hr, rfl⟩] at h
 cases h
theorem most_le {T X : Tm} (hT : T.Valid) (hX : X.Valid) (h : Reds T X) : maxFreeOf X ≤ maxFreeOf T := by
 unfold maxFreeOf
 rw [if_pos hT, if_pos hX]
 exact h.most hT.wf
theorem maxFreeI_p {T : Tm} {m : Int} (hm : maxFreeOf T = m) (w : World) (v : Value) (h : TmIn w 0 T v) : Calls Tryz.prog 25 #[v] w (IntPost w m) := by
 have h2 := maxFreeI_any T w v h
 rwa [hm] at h2
theorem Reds.subst {T X S : Tm} (h : Reds T X) : T.wf → S.wf → Reds (T.subst S 0 0) (X.subst S 0 0) := by
 induction h with
 | refl t => intro _ _; exact .refl _
 | step h _ ih =>
  intro hw hs
  exact .step (Tm.par_subst hs S.par_refl _ _ 0 0 (Int.le_refl _) (Int.le_refl _) hw h) (ih (Tm.par_wf _ _ hw h) hs)
theorem normal_eq {T : Tm} (hv : T.Valid) : normalOf T = (T.step false false).isNone := by
 have hN : normalOf T = (T.find false false).isNone := by rw [T.find_nf]; unfold normalOf; cases hn : T.nf <;> simp [tr, hv]
 rw [hN, Tm.find_step]
 cases T.find false false <;> rfl
theorem normal_yes {T : Tm} (hv : T.Valid) (h : T.step false false = none) : normalOf T = true := by rw [normal_eq hv, h]; rfl
theorem normal_no {rl : Bool} {T X : Tm} (hv : T.Valid) (h : T.step rl false = some X) : normalOf T = false := by
 rw [normal_eq hv]
 cases h2 : T.step false false with
 | some _ => rfl
 | none => rw [Tm.nrm_step T h2] at h; cases h
theorem same_n (rl mo : Bool) (T : Tm) (x : Int) (w : World) (v1 v2 : Value) (h1 : TmIn w 0 (normT rl mo T x) v1) (h2 : TmIn w 0 (normT rl mo T x) v2) : Calls Tryz.prog 20 #[v1, v2] w (BoolPost w true) := by
 by_cases hc : normC rl mo T x = 0
 ·exact same_v (nrm_yes hc).valid w v1 v2 h1 h2
 ·rw [nrm_no hc] at h1 h2
  exact same_z w v1 v2 h1 h2
theorem runGo_more {rl mo : Bool} : ∀ (n : Nat) (t : Tm), (runGo rl mo n t).2.1 = 0 → ∀ m, n ≤ m → runGo rl mo m t = runGo rl mo n t
 | 0, t, h, m, _ => by
  cases hs : t.step rl mo with
  | none => rw [runGo_none hs, runGo_none hs]
  | some t' => rw [runGo_zero hs] at h; cases h
 | n + 1, t, h, m, hm => by
  cases hs : t.step rl mo with
  | none => rw [runGo_none hs, runGo_none hs]
  | some t' =>
   by_cases hv : t'.Valid
   ·obtain ⟨k, rfl⟩ : ∃ k, m = k + 1 := ⟨m - 1, by omega⟩
    rw [runGo_took hs hv] at h ⊢
    rw [runGo_took hs hv, runGo_more n t' h k (by omega)]
   ·rw [runGo_large hs hv] at h; cases h
theorem runGo_exact {rl mo : Bool} : ∀ (n : Nat) (t : Tm), (runGo rl mo n t).2.1 = 0 → (runGo rl mo (runGo rl mo n t).2.2 t).2.1 = 0
 | 0, t, h => by
  cases hs : t.step rl mo with
  | none => rw [runGo_none hs]
  | some t' => rw [runGo_zero hs] at h; cases h
 | n + 1, t, h => by
  cases hs : t.step rl mo with
  | none => rw [runGo_none hs]
  | some t' =>
   by_cases hv : t'.Valid
   ·rw [runGo_took hs hv] at h
    have := runGo_exact n t' h
    rw [runGo_took (n := n) hs hv]
    show (runGo rl mo ((runGo rl mo n t').2.2 + 1) t).2.1 = 0
    rw [runGo_took hs hv]
    exact this
   ·rw [runGo_large hs hv] at h; cases h
theorem runGo_fuel {rl mo : Bool} : ∀ (n : Nat) (t : Tm), (runGo rl mo n t).2.1 = 1 → (runGo rl mo n t).2.2 = n
 | 0, t, h => by
  cases hs : t.step rl mo with
  | none => rw [runGo_none hs] at h; cases h
  | some t' => rw [runGo_zero hs]
 | n + 1, t, h => by
  cases hs : t.step rl mo with
  | none => rw [runGo_none hs] at h; cases h
  | some t' =>
   by_cases hv : t'.Valid
   ·rw [runGo_took hs hv] at h ⊢
    have := runGo_fuel n t' h
    show (runGo rl mo n t').2.2 + 1 = n + 1
    omega
   ·rw [runGo_large hs hv] at h; cases h
theorem norm_step {T T' : Tm} {x : Int} (hv : T'.Valid) (hs : T.step false false = some T') (hc : normC false false T x = 0) : normC false false T' x = 0 ∧ normT false false T' x = normT false false T x := by
 have hy := nrm_yes hc
 have hr := hy.run
 have hx0 := hy.ok.2.1
 obtain ⟨n, hn⟩ : ∃ n, x.toNat = n + 1 := by
  cases h : x.toNat with
  | zero => rw [h, runGo_zero hs] at hr; cases hr
  | succ n => exact ⟨n, rfl⟩
 rw [hn, runGo_took hs hv] at hr
 have hm := runGo_more n T' hr (n + 1) (by omega)
 have hok : NormOk T' x := ⟨hv, hy.ok.2⟩
 have hc2 : normC false false T' x = 0 := by rw [normC_ok hok, hn, hm]; exact hr
 refine ⟨hc2, ?_⟩
 rw [(nrm_yes hc2).eq, hy.eq, hn, hm, runGo_took hs hv]
noncomputable def stepS (t : Tm) : Tm := if (stepOut false false t).2 = 1 then (stepOut false false t).1 else t
noncomputable def itS : Nat → Tm → Tm
 | 0, t => t
 | n + 1, t => itS n (stepS t)
theorem itS_succ : ∀ (n : Nat) (t : Tm), itS (n + 1) t = stepS (itS n t)
 | 0, t => rfl
 | n + 1, t => by
  have := itS_succ n (stepS t)
  rw [itS, this]
  rfl
theorem itS_fix {t : Tm} (h : stepS t = t) : ∀ n, itS n t = t
 | 0 => rfl
 | n + 1 => by rw [itS, h]; exact itS_fix h n
theorem itS_run : ∀ (n : Nat) (t : Tm), t.Valid → (runGo false false n t).2.1 = 0 → itS n t = (runGo false false n t).1
 | 0, t, hv, h => by
  cases hs : t.step false false with
  | none => rw [runGo_none hs]; rfl
  | some t' => rw [runGo_zero hs] at h; cases h
 | n + 1, t, hv, h => by
  cases hs : t.step false false with
  | none =>
   have : stepS t = t := by unfold stepS; rw [stepOut_none hv hs, if_neg (show ¬ (0 : Int) = 1 by decide)]
   rw [runGo_none hs, itS_fix this]
  | some t' =>
   by_cases hv' : t'.Valid
   ·have : stepS t = t' := by unfold stepS; rw [stepOut_took hv hs hv', if_pos rfl]
    rw [runGo_took hs hv'] at h ⊢
    rw [itS, this]
    exact itS_run n t' hv' h
   ·rw [runGo_large hs hv'] at h; cases h
end Go.Proofs.YtabbbnddfcbdiaaGreat
