/-
  VarsN, VarsD.
-/
import Derived.Test.YtjdmfegdgpbkgaaGreatS08
import Derived.Test.YtjdmfegdgpbkgaaGreatS31
import Derived.Test.YtjdmfegdgpbkgaaGreatS36
import Derived.Test.YtjdmfegdgpbkgaaGreatS40
import Derived.Test.YtjdmfegdgpbkgaaGreatS51
import Derived.Test.YtjdmfegdgpbkgaaGreatS52
import Derived.Test.YtjdmfegdgpbkgaaGreatS53
namespace Go.Proofs.YtjdmfegdgpbkgaaGreat
open Go.RowKit
theorem CodePost.s {w w' : World} {c : Int} {T : Tm} {e : Ending} (h : CodePost w c T e w') : SCodePost w c T e w' := by
 obtain ⟨hb, v, he, s, F, hv, hs, -, -⟩ := h
 exact ⟨hb, v, he, s, hv, hs.sl fun _ _ => Nat.zero_le _⟩
theorem normI_p (T : Tm) (x : Int) (w : World) (v : Value) (h : TmIn w 0 T v) : Calls Tryz.prog 10 #[v, .int .i64 x] w (SCodePost w (normC false false T x) (normT false false T x)) := (normTI_any T x w v h).mono fun _ _ h => h.s
theorem stepN_p (T : Tm) (w : World) (v : Value) (h : TmIn w 0 T v) : Calls Tryz.prog 8 #[v] w (SCodePost w (stepOut true false T).2 (stepOut true false T).1) := (stepNI_any T w v h).mono fun _ _ h => h.s
structure NrmYes (rl mo : Bool) (T : Tm) (x : Int) (X : Tm) : Prop where
 ok : NormOk T x
 run : (runGo rl mo x.toNat T).2.1 = 0
 eq : X = (runGo rl mo x.toNat T).1
 valid : X.Valid
 reds : Reds T X
 done : X.step rl mo = none
theorem normC_ok {rl mo : Bool} {T : Tm} {x : Int} (h : NormOk T x) : normC rl mo T x = (runGo rl mo x.toNat T).2.1 := if_pos h
theorem normC_no {rl mo : Bool} {T : Tm} {x : Int} (h : ¬ NormOk T x) : normC rl mo T x = 3 := if_neg h
theorem nrm_yes {rl mo : Bool} {T : Tm} {x : Int} (h : normC rl mo T x = 0) : NrmYes rl mo T x (normT rl mo T x) := by
 have hok : NormOk T x := Classical.byContradiction fun hn => by rw [normC_no hn] at h; cases h
 have hrun : (runGo rl mo x.toNat T).2.1 = 0 := by rw [← normC_ok hok]; exact h
 have heq : normT rl mo T x = (runGo rl mo x.toNat T).1 := if_pos h
 refine ⟨hok, hrun, heq, ?_, ?_, ?_⟩
 ·rw [heq]; exact runGo_valid _ _ hok.1
 ·rw [heq]; exact runGo_reds _ _
 ·rw [heq]; exact runGo_done _ _ hrun
theorem Tm.Valid.wf {T : Tm} (h : T.Valid) : T.wf := h.1.wf
theorem norm_same {rl rl' : Bool} {T A B : Tm} {x y : Int} {T1 T2 : Tm} (hw : T.wf) (h1 : Reds T T1) (h2 : Reds T T2) (ha : NrmYes rl false T1 x A) (hb : NrmYes rl' false T2 y B) : A = B :=
 nrm_one hw (h1.trans ha.reds) (h2.trans hb.reds) (nrm_of ha.done) (nrm_of hb.done)
end Go.Proofs.YtjdmfegdgpbkgaaGreat
namespace Go.Proofs.YtjdmfegdgpbkgaaGreat
open Go.RowKit
mutual
theorem Tm.devo_par : ∀ (t s : Tm), t.devo = some s → t.par s
 | .mk k n l, s, h => by
  rw [Tm.devo_eq] at h
  obtain ⟨m, hm, h⟩ := Option.bind_eq_some_iff.1 h
  have hL := devL_par l m hm
  split at h
  ·simp only [Option.some.injEq] at h
   rw [Tm.par]
   refine ⟨m, hL, ?_⟩
   rw [← h]
   unfold devC
   by_cases h0 : (Tm.mk k n l).redex = 0
   ·rw [if_pos h0]; exact Or.inl rfl
   ·rw [if_neg h0]; exact Or.inr ⟨h0, rfl⟩
  ·cases h
theorem devL_par : ∀ (l m : List Tm), devL l = some m → parL l m
 | [], m, h => by
  rw [devL] at h
  simp only [Option.some.injEq] at h
  rw [parL]; exact h.symm
 | t :: l, m, h => by
  rw [devL] at h
  obtain ⟨t', ht, h⟩ := Option.bind_eq_some_iff.1 h
  obtain ⟨m', hm, rfl⟩ := Option.map_eq_some_iff.1 h
  rw [parL]
  exact ⟨t', m', rfl, Tm.devo_par t t' ht, devL_par l m' hm⟩
end
theorem dev_par {T : Tm} (h : DevOk T) : T.par T.dev := by
 obtain ⟨X, hX⟩ := Option.isSome_iff_exists.1 h.2
 rw [dev_of hX]
 exact Tm.devo_par T X hX
end Go.Proofs.YtjdmfegdgpbkgaaGreat
