/-
  VarsN.
-/
import Derived.Test.YtpddjebdncaceaaGreatQ10
import Derived.Test.YtpddjebdncaceaaGreatQ24
import Derived.Test.YtpddjebdncaceaaGreatQ34
import Derived.Test.YtpddjebdncaceaaGreatQ43
import Derived.Test.YtpddjebdncaceaaGreatQ44
import Derived.Test.YtpddjebdncaceaaGreatQ50
import Derived.Test.YtpddjebdncaceaaGreatQ53
namespace Go.Proofs.YtpddjebdncaceaaGreat
open Go.RowKit
theorem CodePost.s {w w' : World} {c : Int} {T : Tm} {e : Ending} (h : CodePost w c T e w') : SCodePost w c T e w' := by
 obtain ⟨hb, v, he, s, F, hv, hs, -, -⟩ := h
 exact ⟨hb, v, he, s, hv, hs.sl fun _ _ => Nat.zero_le _⟩
theorem normI_p (T : Tm) (x : Int) (w : World) (v : Value) (h : TmIn w 0 T v) : Calls Tryz.prog 23 #[v, .int .i64 x] w (SCodePost w (normC false false T x) (normT false false T x)) := (normTI_any T x w v h).mono fun _ _ h => h.s
structure NrmYes (rl mo : Bool) (T : Tm) (x : Int) (X : Tm) : Prop where
 ok : NormOk T x
 run : (runGo rl mo x.toNat T).2.1 = 0
 eq : X = (runGo rl mo x.toNat T).1
 valid : X.Valid
 reds : Reds T X
 done : X.step rl mo = none
theorem normC_ok {rl mo : Bool} {T : Tm} {x : Int} (h : NormOk T x) : normC rl mo T x = (runGo rl mo x.toNat T).2.1 := if_pos h
theorem normC_no {rl mo : Bool} {T : Tm} {x : Int} (h : ¬ NormOk T x) : normC rl mo T x = 3 := if_neg h
theorem nrm_yes {rl mo : Bool} {T : Tm} {x : Int} (h : normC rl mo T x = 0) : NrmYes rl mo T x (normT rl mo T x) := by
 have hok : NormOk T x := Classical.byContradiction fun hn => by rw [normC_no hn] at h; cases h
 have hrun : (runGo rl mo x.toNat T).2.1 = 0 := by rw [← normC_ok hok]; exact h
 have heq : normT rl mo T x = (runGo rl mo x.toNat T).1 := if_pos h
 refine ⟨hok, hrun, heq, ?_, ?_, ?_⟩
 ·rw [heq]; exact runGo_valid _ _ hok.1
 ·rw [heq]; exact runGo_reds _ _
 ·rw [heq]; exact runGo_done _ _ hrun
theorem Tm.Valid.wf {T : Tm} (h : T.Valid) : T.wf := h.1.wf
theorem norm_same {rl rl' : Bool} {T A B : Tm} {x y : Int} {T1 T2 : Tm} (hw : T.wf) (h1 : Reds T T1) (h2 : Reds T T2) (ha : NrmYes rl false T1 x A) (hb : NrmYes rl' false T2 y B) : A = B :=
 nrm_one hw (h1.trans ha.reds) (h2.trans hb.reds) (nrm_of ha.done) (nrm_of hb.done)
theorem most_le {T X : Tm} (hT : T.Valid) (hX : X.Valid) (h : Reds T X) : maxFreeOf X ≤ maxFreeOf T := by
 unfold maxFreeOf
 rw [if_pos hT, if_pos hX]
 exact h.most hT.wf
theorem maxFreeI_p {T : Tm} {m : Int} (hm : maxFreeOf T = m) (w : World) (v : Value) (h : TmIn w 0 T v) : Calls Tryz.prog 24 #[v] w (IntPost w m) := by
 have h2 := maxFreeI_any T w v h
 rwa [hm] at h2
end Go.Proofs.YtpddjebdncaceaaGreat
