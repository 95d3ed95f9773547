/-
  NsF.
-/
import Derived.Test.YtjdmfegdgpbkgaaGreatO02
import Derived.Test.YtjdmfegdgpbkgaaGreatO03
import Derived.Test.YtjdmfegdgpbkgaaGreatO12
import Derived.Test.YtjdmfegdgpbkgaaGreatO13
import Derived.Test.YtjdmfegdgpbkgaaGreatO25
import Derived.Test.YtjdmfegdgpbkgaaGreatO26
import Derived.Test.YtjdmfegdgpbkgaaGreatO34
import Derived.Test.YtjdmfegdgpbkgaaGreatO42
import Derived.Test.YtjdmfegdgpbkgaaGreatO50
import Derived.Deep.RegionHeld3
import Derived.IntWalk
import Derived.Laws.IdiomStrings
import Derived.Orders
import Derived.ProofKit
import Derived.RowKit
import Derived.Test.YtjdmfegdgpbkgaaGreatProg
import Derived.WalkSpells
namespace Go.Proofs.YtjdmfegdgpbkgaaGreat
open Go.RowKit
set_option linter.unusedVariables false
noncomputable def namedM (s names : ByteArray) : Option Tm := if nameOk names = true then parsedN s (bl names names.size) else none
noncomputable def outM (s : ByteArray) : Option (Tm × Nat) → Option Tm
 | none => none
 | some x => @ite _ (x.2 = s.size ∧ x.1.Valid) (Classical.propDecidable _) (some x.1) none
def NPost (s names : ByteArray) (w : World) (e : Ending) (w' : World) : Prop := Below w.heap.size w w' ∧ ∃ v, e = .returned (.tuple #[v, .bool (namedM s names).isSome]) ∧ TmIn w' w.heap.size ((namedM s names).getD zeroT) v
set_option maxRecDepth 100000 in
set_option maxHeartbeats 2000000 in
theorem namedT_any (s names : ByteArray) (hs : s.size ≤ 1152921504606846976) (hn : names.size ≤ maxLen) (w : World) : Calls Tryz.prog 26 #[.string s, .string names] w (NPost s names w) := by
 have HN : Hid (namedM s names = none → ∀ w', Below w.heap.size w w' → NPost s names w (.returned (.tuple #[.agg #[.int .i64 0, .int .i64 0, .slice none 0 0], .bool false])) w') := tuck fun h w' hb => by
  unfold NPost
  rw [h]
  exact ⟨hb, _, rfl, _, rfl, SlIn.nil _ _ _ _⟩
 have HY : Hid (∀ T, namedM s names = some T → ∀ w' a c, Below w.heap.size w w' → SlIn w' w.heap.size T.kids (.slice a T.kids.length c) → NPost s names w (.returned (.tuple #[.agg #[.int .i64 T.kind, .int .i64 T.num, .slice a T.kids.length c], .bool true])) w') := tuck fun T h w' a c hb h2 => by
  unfold NPost
  rw [h]
  exact ⟨hb, _, rfl, _, rfl, h2⟩
 generalize NPost s names w = post at *
 have HVN : Hid (∀ W, Calls Tryz.prog 46 #[.string names] W (fun e w' => e = .returned (.bool (nameOk names)) ∧ Below W.heap.size W w')) := tuck fun W => namesValidS_any names W hn
 have HB1 := tuck (below1 w (.cells #[.int .i64 0, .int .i64 0, .slice none 0 0] 25))
 have HV1 := tuck (VarAt.new w 0 0 (.slice none 0 0))
 cases hk : nameOk names with
 | false =>
  rw [hk] at HVN
  have HNO := tuck (HN.out (by unfold namedM; rw [hk]; rfl))
  clear HN HY hk hn
  go_enter Tryz.func26, Tryz.ntmps26
  go_wp2_with fail
  generalize w.alloc (.cells #[.int .i64 0, .int .i64 0, .slice none 0 0] 25) = W1 at *
  refine (HVN.out _).mono ?_
  rintro e w2 ⟨rfl, hb2⟩
  have HB2 := tuck (bAfter HB1.out hb2)
  have HV2 := tuck (HV1.out.below hb2)
  clear hb2
  obtain ⟨z1, r0, r1, r2, rf⟩ := HV2.out.facts
  go_wp2_with fail
  refine bodyPost_ret (v := .tuple #[.agg #[.int .i64 0, .int .i64 0, .slice none 0 0], .bool false]) (by simp [results, Tryz.results26, go_sem, *]) rfl (HNO.out _ ?_)
  first | exact bSet3 HB2.out (Nat.le_refl _) _ _ _ _ _ _ | exact HB2.out
 | true =>
  rw [hk] at HVN
  obtain ⟨o, ho⟩ : ∃ o, o = npt s 30 (bl names names.size) 0 := ⟨_, rfl⟩
  have HPD : Hid (namedM s names = outM s o) := tuck (by unfold namedM; rw [if_pos hk, ho]; unfold parsedN; cases npt s 30 (bl names names.size) 0 <;> rfl)
  have HPA : Hid (∀ W, Calls Tryz.prog 47 #[.string s, .int .i64 0, .string names, .int .i64 30] W (PPost s W o)) := tuck fun W => by
   rw [ho]
   exact parse6_ok s hs 30 (by decide) 20 (by decide) names 0 W (nameOk_size hk)
  clear hk ho hn
  go_enter Tryz.func26, Tryz.ntmps26
  go_wp2_with fail
  generalize w.alloc (.cells #[.int .i64 0, .int .i64 0, .slice none 0 0] 25) = W1 at *
  refine (HVN.out _).mono ?_
  rintro e w2 ⟨rfl, hb2⟩
  have HB2 := tuck (bAfter HB1.out hb2)
  have HV2 := tuck (HV1.out.below hb2)
  clear hb2
  go_wp2_with fail
  refine (HPA.out _).mono ?_
  rintro e w3 ⟨hb3, T, ta, tc, nx, rfl, hs3, hm⟩
  have hbx := below1 w3 (.cells #[.int .i64 T.kind, .int .i64 T.num, .slice ta T.kids.length tc] 25)
  have HV3 := tuck ((HV2.out.below hb3).below hbx)
  have HVT := tuck (VarAt.new w3 T.kind T.num (.slice ta T.kids.length tc))
  have HB3 := tuck (bAfter HB2.out (bAfter hb3 hbx))
  have HZ1 : Hid (w.heap.size + 1 ≤ w2.heap.size) := tuck HV2.out.facts.1
  have HS3 := tuck (hs3.below hbx)
  have HM := tuck hm
  obtain ⟨z1, r0, r1, r2, rf⟩ := HV3.out.facts
  obtain ⟨zt, t0, t1, t2, -⟩ := HVT.out.facts
  clear hb3 hs3 hbx hm HPA
  cases o with
  | none =>
   obtain rfl : nx = -1 := HM.out
   have HNO := tuck (HN.out HPD.out)
   have hk : ((-1 : Int) != (s.size : Int)) = true := by rw [bne_iff_ne]; omega
   clear HPD HN HY HM
   go_wp2_with fail
   refine bodyPost_ret (v := .tuple #[.agg #[.int .i64 0, .int .i64 0, .slice none 0 0], .bool false]) (by simp [results, Tryz.results26, go_sem, *]) rfl (HNO.out _ ?_)
   first | exact bSet3 HB3.out (Nat.le_refl _) _ _ _ _ _ _ | exact HB3.out
  | some x =>
   obtain ⟨X, n⟩ := x
   obtain ⟨rfl, rfl, hle⟩ := HM.out
   by_cases hns : n = s.size
   ·have hk : ((n : Int) != (s.size : Int)) = false := by rw [bne_eq_false_iff_eq]; omega
    have HVAL : Hid (∀ W : World, Below (w3.alloc (.cells #[.int .i64 T.kind, .int .i64 T.num, .slice ta T.kids.length tc] 25)).heap.size (w3.alloc (.cells #[.int .i64 T.kind, .int .i64 T.num, .slice ta T.kids.length tc] 25)) W → Calls Tryz.prog 18 #[.agg #[.int .i64 T.kind, .int .i64 T.num, .slice ta T.kids.length tc]] W (BoolPost W (tr T.Valid))) := tuck fun W h => validS_any T W _ ⟨_, rfl, (HS3.out.mono (Nat.zero_le _)).below h⟩
    by_cases hT : T.Valid
    ·have HYE := tuck (HY.out T (by rw [HPD.out]; exact if_pos ⟨hns, hT⟩))
     rw [tr_of hT] at HVAL
     clear HPD HN HY HM hT
     go_wp2_with fail
     refine (HVAL.out _ (Below.refl _ _)).mono ?_
     rintro e w5 ⟨rfl, hb5⟩
     have HB5 := tuck (bAfter HB3.out hb5)
     have HS5 := tuck (HS3.out.below hb5)
     clear z1 r0 r1 r2 rf zt t0 t1 t2
     obtain ⟨z1, r0, r1, r2, rf⟩ := (HV3.out.below hb5).facts
     obtain ⟨zt, t0, t1, t2, -⟩ := (HVT.out.below hb5).facts
     clear hb5
     go_wp2_with fail
     refine bodyPost_ret (v := .tuple #[.agg #[.int .i64 T.kind, .int .i64 T.num, .slice ta T.kids.length tc], .bool true]) (by simp [results, Tryz.results26, go_sem, *]) rfl (HYE.out _ _ _ ?_ ?_)
     ·exact bSet3 HB5.out (Nat.le_refl _) _ _ _ _ _ _
     ·exact (SlIn.set3 (HS5.out.mono HZ1.out) (Nat.lt_succ_self _)).mono (Nat.le_succ _)
    ·have HNO := tuck (HN.out (by rw [HPD.out]; exact if_neg (fun h => hT h.2)))
     rw [tr_not hT] at HVAL
     clear HPD HN HY HM hT
     go_wp2_with fail
     refine (HVAL.out _ (Below.refl _ _)).mono ?_
     rintro e w5 ⟨rfl, hb5⟩
     have HB5 := tuck (bAfter HB3.out hb5)
     clear z1 r0 r1 r2 rf zt t0 t1 t2
     obtain ⟨z1, r0, r1, r2, rf⟩ := (HV3.out.below hb5).facts
     clear hb5
     go_wp2_with fail
     refine bodyPost_ret (v := .tuple #[.agg #[.int .i64 0, .int .i64 0, .slice none 0 0], .bool false]) (by simp [results, Tryz.results26, go_sem, *]) rfl (HNO.out _ ?_)
     first | exact bSet3 HB5.out (Nat.le_refl _) _ _ _ _ _ _ | exact HB5.out
   ·have hk : ((n : Int) != (s.size : Int)) = true := by rw [bne_iff_ne]; omega
    have HNO := tuck (HN.out (by rw [HPD.out]; exact if_neg (fun h => hns h.1)))
    clear HPD HN HY HM
    go_wp2_with fail
    refine bodyPost_ret (v := .tuple #[.agg #[.int .i64 0, .int .i64 0, .slice none 0 0], .bool false]) (by simp [results, Tryz.results26, go_sem, *]) rfl (HNO.out _ ?_)
    first | exact bSet3 HB3.out (Nat.le_refl _) _ _ _ _ _ _ | exact HB3.out
end Go.Proofs.YtjdmfegdgpbkgaaGreat
