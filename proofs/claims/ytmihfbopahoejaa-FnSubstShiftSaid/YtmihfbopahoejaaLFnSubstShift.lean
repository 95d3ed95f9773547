/-
  The law FnSubstShift: whatever the bytes, a substitution for a variable that a shift made room for yields the term.
-/
import Derived.Test.YtmihfbopahoejaaDrawsC
import Derived.Test.YtmihfbopahoejaaVarsS
import Derived.Test.YtmihfbopahoejaaFree
import Derived.IntWalk
namespace Go.Proofs.Ytmihfbopahoejaa.fnSubstShift
open Go.ChangeShapes Go.WideShapes Go.ChangeAt Go.RowKit Go.Deep
set_option linter.unusedVariables false

theorem readable_FnSubstShift : ∀ t ∈ (#[22] : Array TypeId).toList, Try.prog.readableRec t = true ∧ t < Try.prog.types.size := by
  intro t ht
  simp at ht
  subst ht
  exact ⟨by kernel_rfl, of_decide_eq_true (by kernel_rfl)⟩
theorem laid : laidOutB Try.prog = true := by kernel_rfl

set_option maxRecDepth 100000 in
set_option maxHeartbeats 1600000 in
theorem walk (U : Nat → Int) (a : Option Addr) (b o len cap : Nat) (w : World) (hlc : len ≤ cap) (hcm : cap ≤ maxLen) (hby : Bytes U a b o len w) : Calls Try.prog 5 #[.slice a len cap] w fun e w' => e = .returned (.bool true) ∧ Below w.heap.size w w' := by
  unfold maxLen at hcm
  by_cases hl : 1048576 < len
  · have hl' : (1048576 : Int) < (len : Int) := by omega
    clear hby
    go_enter Try.func5, Try.ntmps5
    go_wp2
    go_ret
    exact ⟨rfl, Below.refl _ _⟩
  have hl' : ¬ (1048576 : Int) < (len : Int) := by omega
  have HD := tuck (dSubstTerm_any w (by omega) hlc hby)

  clear hby
  go_enter Try.func5, Try.ntmps5
  go_wp2_with fail
  refine HD.out.mono ?_
  rintro e w1 ⟨T, v, x, S, u, rfl, ⟨s, rfl, hin⟩, ⟨s2, rfl, hin2⟩, hsz, hsz2, hx0, hx1, hb⟩
  obtain ⟨aV, cV, rfl⟩ := hin.form
  obtain ⟨aVU, cVU, rfl⟩ := hin2.form
  have hs1 : (w1.alloc (.cells #[.int .i64 T.kind, .int .i64 T.num, .slice aV T.kids.length cV] 25)).heap.size = w1.heap.size + 1 := by simp
  have V := tuck ((TV.new (hin.mono (Nat.zero_le _))).below (below1 (w1.alloc (.cells #[.int .i64 T.kind, .int .i64 T.num, .slice aV T.kids.length cV] 25)) (.cells #[.int .i64 S.kind, .int .i64 S.num, .slice aVU S.kids.length cVU] 25)))
  have hvu := TV.new ((hin2.mono (Nat.zero_le _)).below (below1 w1 (.cells #[.int .i64 T.kind, .int .i64 T.num, .slice aV T.kids.length cV] 25)))
  rw [hs1] at hvu
  have VU := tuck hvu
  have HB := tuck (bAfter hb (below2 w1 (.cells #[.int .i64 T.kind, .int .i64 T.num, .slice aV T.kids.length cV] 25) (.cells #[.int .i64 S.kind, .int .i64 S.num, .slice aVU S.kids.length cVU] 25)))

  clear hin hin2 hb HD hvu
  go_wp2_with fail
  generalize (w1.alloc (.cells #[.int .i64 T.kind, .int .i64 T.num, .slice aV T.kids.length cV] 25)).alloc (.cells #[.int .i64 S.kind, .int .i64 S.num, .slice aVU S.kids.length cVU] 25) = U0 at *
  generalize w1.heap.size + 1 = gVU at *
  generalize w1.heap.size = gV at *
  by_cases hP : SubstOk T x S
  rotate_left
  · obtain ⟨X, hX⟩ : ∃ X, X = zeroT := ⟨_, rfl⟩
    have HIM : Hid (∀ (w : World) (v v' : Value), TmIn w 0 T v → TmIn w 0 S v' → Calls Try.prog 22 #[v, .int .i64 x, v'] w (PairPost w X false)) := fun w v v' h h' => by
      have h2 := substI_p T S x w v v' h h'
      rwa [orZero_no hP, tr_not hP, ← hX] at h2
    have HSP : Hid (∀ (w : World) (v v' : Value), TmIn w 0 T v → TmIn w 0 S v' → Calls Try.prog 23 #[v, .int .i64 x, v'] w (PairPost w X false)) := fun w v v' h h' => by
      have h2 := substS_p T S x w v v' h h'
      rwa [orZero_no hP, tr_not hP, ← hX] at h2
    have HTS : Hid (∀ (w : World) (v1 v2 : Value), TmIn w 0 X v1 → TmIn w 0 X v2 → Calls Try.prog 18 #[v1, v2] w (BoolPost w true)) := fun w v1 v2 h1 h2 => by rw [hX] at h1 h2; exact same_z w v1 v2 h1 h2
    clear hX hP
    refine (HIM.out _ _ _ V.out.tm VU.out.tm).mono ?_
    rintro e u51 ⟨hb, vv, rfl, ss, rfl, hin⟩
    obtain ⟨aVX, cVX, rfl⟩ := hin.form
    replace V := tuck (V.out.below hb)
    replace VU := tuck (VU.out.below hb)
    replace HB := tuck (bAfter HB.out hb)
    have HNVX := tuck hin
    clear hb hin
    obtain ⟨zV, c0V, c1V, c2V, cfV⟩ := V.out.facts
    obtain ⟨zVU, c0VU, c1VU, c2VU, cfVU⟩ := VU.out.facts
    go_wp2_with fail
    clear zV c0V c1V c2V cfV zVU c0VU c1VU c2VU cfVU
    have VX := tuck (TV.new HNVX.out)
    have hb := below1 u51 (.cells #[.int .i64 X.kind, .int .i64 X.num, .slice aVX X.kids.length cVX] 25)
    replace V := tuck (V.out.below hb)
    replace VU := tuck (VU.out.below hb)
    replace HB := tuck (bAfter HB.out hb)
    clear hb HNVX
    generalize u51.alloc (.cells #[.int .i64 X.kind, .int .i64 X.num, .slice aVX X.kids.length cVX] 25) = U51 at *
    generalize u51.heap.size = gVX at *
    refine (HSP.out _ _ _ V.out.tm VU.out.tm).mono ?_
    rintro e u52 ⟨hb, vv, rfl, ss, rfl, hin⟩
    obtain ⟨aVW, cVW, rfl⟩ := hin.form
    replace V := tuck (V.out.below hb)
    replace VU := tuck (VU.out.below hb)
    replace VX := tuck (VX.out.below hb)
    replace HB := tuck (bAfter HB.out hb)
    have HNVW := tuck hin
    clear hb hin
    obtain ⟨zV, c0V, c1V, c2V, cfV⟩ := V.out.facts
    obtain ⟨zVU, c0VU, c1VU, c2VU, cfVU⟩ := VU.out.facts
    obtain ⟨zVX, c0VX, c1VX, c2VX, cfVX⟩ := VX.out.facts
    go_wp2_with fail
    clear zV c0V c1V c2V cfV zVU c0VU c1VU c2VU cfVU zVX c0VX c1VX c2VX cfVX
    have VW := tuck (TV.new HNVW.out)
    have hb := below1 u52 (.cells #[.int .i64 X.kind, .int .i64 X.num, .slice aVW X.kids.length cVW] 25)
    replace V := tuck (V.out.below hb)
    replace VU := tuck (VU.out.below hb)
    replace VX := tuck (VX.out.below hb)
    replace HB := tuck (bAfter HB.out hb)
    clear hb HNVW
    generalize u52.alloc (.cells #[.int .i64 X.kind, .int .i64 X.num, .slice aVW X.kids.length cVW] 25) = U52 at *
    generalize u52.heap.size = gVW at *
    refine (HTS.out _ _ _ VX.out.tm VW.out.tm).mono ?_
    rintro e u53 ⟨rfl, hb⟩
    replace V := tuck (V.out.below hb)
    replace VU := tuck (VU.out.below hb)
    replace VX := tuck (VX.out.below hb)
    replace VW := tuck (VW.out.below hb)
    replace HB := tuck (bAfter HB.out hb)
    clear hb
    obtain ⟨zV, c0V, c1V, c2V, cfV⟩ := V.out.facts
    obtain ⟨zVU, c0VU, c1VU, c2VU, cfVU⟩ := VU.out.facts
    obtain ⟨zVX, c0VX, c1VX, c2VX, cfVX⟩ := VX.out.facts
    obtain ⟨zVW, c0VW, c1VW, c2VW, cfVW⟩ := VW.out.facts
    go_wp2_with fail
    refine (HTS.out _ _ _ VX.out.tm VW.out.tm).mono ?_
    rintro e u54 ⟨rfl, hb⟩
    clear zV c0V c1V c2V cfV zVU c0VU c1VU c2VU cfVU zVX c0VX c1VX c2VX cfVX zVW c0VW c1VW c2VW cfVW
    replace V := tuck (V.out.below hb)
    replace VU := tuck (VU.out.below hb)
    replace VX := tuck (VX.out.below hb)
    replace VW := tuck (VW.out.below hb)
    replace HB := tuck (bAfter HB.out hb)
    clear hb
    obtain ⟨zV, c0V, c1V, c2V, cfV⟩ := V.out.facts
    obtain ⟨zVU, c0VU, c1VU, c2VU, cfVU⟩ := VU.out.facts
    obtain ⟨zVX, c0VX, c1VX, c2VX, cfVX⟩ := VX.out.facts
    obtain ⟨zVW, c0VW, c1VW, c2VW, cfVW⟩ := VW.out.facts
    go_wp2_with fail
    go_ret
    exact ⟨rfl, HB.out⟩
  obtain ⟨X, hX⟩ : ∃ X, X = T.subst S x 0 := ⟨_, rfl⟩
  have HIM : Hid (∀ (w : World) (v v' : Value), TmIn w 0 T v → TmIn w 0 S v' → Calls Try.prog 22 #[v, .int .i64 x, v'] w (PairPost w X true)) := fun w v v' h h' => by
    have h2 := substI_p T S x w v v' h h'
    rwa [orZero_yes hP, tr_of hP, ← hX] at h2
  have HSP : Hid (∀ (w : World) (v v' : Value), TmIn w 0 T v → TmIn w 0 S v' → Calls Try.prog 23 #[v, .int .i64 x, v'] w (PairPost w X true)) := fun w v v' h h' => by
    have h2 := substS_p T S x w v v' h h'
    rwa [orZero_yes hP, tr_of hP, ← hX] at h2
  have HTS : Hid (∀ (w : World) (v1 v2 : Value), TmIn w 0 X v1 → TmIn w 0 X v2 → Calls Try.prog 18 #[v1, v2] w (BoolPost w true)) := same_v (hX ▸ hP.2.2.2.2)
  have HXV : Hid X.Valid := tuck (hX ▸ hP.2.2.2.2)
  have HTV : Hid T.Valid := tuck hP.1
  have HSV : Hid S.Valid := tuck hP.2.1
  have HP : Hid (SubstOk T x S) := tuck hP
  have HX : Hid (X = T.subst S x 0) := tuck hX
  clear hX hP
  have hx20 : 0 ≤ x ∧ x ≤ 20 := ⟨HP.out.2.2.1, HP.out.2.2.2.1⟩
  refine (HIM.out _ _ _ V.out.tm VU.out.tm).mono ?_
  rintro e u1 ⟨hb, vv, rfl, ss, rfl, hin⟩
  obtain ⟨aVX, cVX, rfl⟩ := hin.form
  replace V := tuck (V.out.below hb)
  replace VU := tuck (VU.out.below hb)
  replace HB := tuck (bAfter HB.out hb)
  have HNVX := tuck hin
  clear hb hin
  obtain ⟨zV, c0V, c1V, c2V, cfV⟩ := V.out.facts
  obtain ⟨zVU, c0VU, c1VU, c2VU, cfVU⟩ := VU.out.facts
  go_wp2_with fail
  clear zV c0V c1V c2V cfV zVU c0VU c1VU c2VU cfVU
  have VX := tuck (TV.new HNVX.out)
  have hb := below1 u1 (.cells #[.int .i64 X.kind, .int .i64 X.num, .slice aVX X.kids.length cVX] 25)
  replace V := tuck (V.out.below hb)
  replace VU := tuck (VU.out.below hb)
  replace HB := tuck (bAfter HB.out hb)
  clear hb HNVX
  generalize u1.alloc (.cells #[.int .i64 X.kind, .int .i64 X.num, .slice aVX X.kids.length cVX] 25) = U1 at *
  generalize u1.heap.size = gVX at *
  refine (HSP.out _ _ _ V.out.tm VU.out.tm).mono ?_
  rintro e u2 ⟨hb, vv, rfl, ss, rfl, hin⟩
  obtain ⟨aVW, cVW, rfl⟩ := hin.form
  replace V := tuck (V.out.below hb)
  replace VU := tuck (VU.out.below hb)
  replace VX := tuck (VX.out.below hb)
  replace HB := tuck (bAfter HB.out hb)
  have HNVW := tuck hin
  clear hb hin
  obtain ⟨zV, c0V, c1V, c2V, cfV⟩ := V.out.facts
  obtain ⟨zVU, c0VU, c1VU, c2VU, cfVU⟩ := VU.out.facts
  obtain ⟨zVX, c0VX, c1VX, c2VX, cfVX⟩ := VX.out.facts
  go_wp2_with fail
  clear zV c0V c1V c2V cfV zVU c0VU c1VU c2VU cfVU zVX c0VX c1VX c2VX cfVX
  have VW := tuck (TV.new HNVW.out)
  have hb := below1 u2 (.cells #[.int .i64 X.kind, .int .i64 X.num, .slice aVW X.kids.length cVW] 25)
  replace V := tuck (V.out.below hb)
  replace VU := tuck (VU.out.below hb)
  replace VX := tuck (VX.out.below hb)
  replace HB := tuck (bAfter HB.out hb)
  clear hb HNVW
  generalize u2.alloc (.cells #[.int .i64 X.kind, .int .i64 X.num, .slice aVW X.kids.length cVW] 25) = U2 at *
  generalize u2.heap.size = gVW at *
  refine (HTS.out _ _ _ VX.out.tm VW.out.tm).mono ?_
  rintro e u3 ⟨rfl, hb⟩
  replace V := tuck (V.out.below hb)
  replace VU := tuck (VU.out.below hb)
  replace VX := tuck (VX.out.below hb)
  replace VW := tuck (VW.out.below hb)
  replace HB := tuck (bAfter HB.out hb)
  clear hb
  by_cases hQ : ShiftOk T 1 x
  rotate_left
  · have HSH : Hid (∀ (w : World) (v : Value), TmIn w 0 T v → Calls Try.prog 16 #[v, .int .i64 1, .int .i64 x] w (PairPost w zeroT false)) := fun w v h => by
      have h2 := shiftI_p T 1 x w v h
      rwa [orZero_no hQ, tr_not hQ] at h2
    have HSB := tuck (fun w v v' h h' => substI_p zeroT S x w v v' h h')
    generalize orZero (SubstOk zeroT x S) (zeroT.subst S x 0) = Y at HSB
    generalize tr (SubstOk zeroT x S) = q at HSB
    clear hQ
    generalize zeroT = Z at *
    obtain ⟨zV, c0V, c1V, c2V, cfV⟩ := V.out.facts
    obtain ⟨zVU, c0VU, c1VU, c2VU, cfVU⟩ := VU.out.facts
    obtain ⟨zVX, c0VX, c1VX, c2VX, cfVX⟩ := VX.out.facts
    obtain ⟨zVW, c0VW, c1VW, c2VW, cfVW⟩ := VW.out.facts
    go_wp2_with fail
    refine (HSH.out _ _ V.out.tm).mono ?_
    rintro e u24 ⟨hb, vv, rfl, ss, rfl, hin⟩
    obtain ⟨aVS, cVS, rfl⟩ := hin.form
    clear zV c0V c1V c2V cfV zVU c0VU c1VU c2VU cfVU zVX c0VX c1VX c2VX cfVX zVW c0VW c1VW c2VW cfVW
    replace V := tuck (V.out.below hb)
    replace VU := tuck (VU.out.below hb)
    replace VX := tuck (VX.out.below hb)
    replace VW := tuck (VW.out.below hb)
    replace HB := tuck (bAfter HB.out hb)
    have HNVS := tuck hin
    clear hb hin
    obtain ⟨zV, c0V, c1V, c2V, cfV⟩ := V.out.facts
    obtain ⟨zVU, c0VU, c1VU, c2VU, cfVU⟩ := VU.out.facts
    obtain ⟨zVX, c0VX, c1VX, c2VX, cfVX⟩ := VX.out.facts
    obtain ⟨zVW, c0VW, c1VW, c2VW, cfVW⟩ := VW.out.facts
    go_wp2_with fail
    clear zV c0V c1V c2V cfV zVU c0VU c1VU c2VU cfVU zVX c0VX c1VX c2VX cfVX zVW c0VW c1VW c2VW cfVW
    have VS := tuck (TV.new HNVS.out)
    have hb := below1 u24 (.cells #[.int .i64 Z.kind, .int .i64 Z.num, .slice aVS Z.kids.length cVS] 25)
    replace V := tuck (V.out.below hb)
    replace VU := tuck (VU.out.below hb)
    replace VX := tuck (VX.out.below hb)
    replace VW := tuck (VW.out.below hb)
    replace HB := tuck (bAfter HB.out hb)
    clear hb HNVS
    generalize u24.alloc (.cells #[.int .i64 Z.kind, .int .i64 Z.num, .slice aVS Z.kids.length cVS] 25) = U24 at *
    generalize u24.heap.size = gVS at *
    refine (HSB.out _ _ _ VS.out.tm VU.out.tm).mono ?_
    rintro e u25 ⟨hb, vv, rfl, ss, rfl, hin⟩
    obtain ⟨aVY, cVY, rfl⟩ := hin.form
    replace V := tuck (V.out.below hb)
    replace VU := tuck (VU.out.below hb)
    replace VX := tuck (VX.out.below hb)
    replace VW := tuck (VW.out.below hb)
    replace VS := tuck (VS.out.below hb)
    replace HB := tuck (bAfter HB.out hb)
    have HNVY := tuck hin
    clear hb hin
    obtain ⟨zV, c0V, c1V, c2V, cfV⟩ := V.out.facts
    obtain ⟨zVU, c0VU, c1VU, c2VU, cfVU⟩ := VU.out.facts
    obtain ⟨zVX, c0VX, c1VX, c2VX, cfVX⟩ := VX.out.facts
    obtain ⟨zVW, c0VW, c1VW, c2VW, cfVW⟩ := VW.out.facts
    obtain ⟨zVS, c0VS, c1VS, c2VS, cfVS⟩ := VS.out.facts
    go_wp2_with fail
    clear zV c0V c1V c2V cfV zVU c0VU c1VU c2VU cfVU zVX c0VX c1VX c2VX cfVX zVW c0VW c1VW c2VW cfVW zVS c0VS c1VS c2VS cfVS
    have VY := tuck (TV.new HNVY.out)
    have hb := below1 u25 (.cells #[.int .i64 Y.kind, .int .i64 Y.num, .slice aVY Y.kids.length cVY] 25)
    replace V := tuck (V.out.below hb)
    replace VU := tuck (VU.out.below hb)
    replace VX := tuck (VX.out.below hb)
    replace VW := tuck (VW.out.below hb)
    replace VS := tuck (VS.out.below hb)
    replace HB := tuck (bAfter HB.out hb)
    clear hb HNVY
    generalize u25.alloc (.cells #[.int .i64 Y.kind, .int .i64 Y.num, .slice aVY Y.kids.length cVY] 25) = U25 at *
    generalize u25.heap.size = gVY at *
    go_ret
    exact ⟨rfl, HB.out⟩
  obtain ⟨S1, hS1⟩ : ∃ S1, S1 = T.shift 1 x := ⟨_, rfl⟩
  have hS1V : S1.Valid := hS1 ▸ hQ.2.2.2.2.2.2
  have HSH : Hid (∀ (w : World) (v : Value), TmIn w 0 T v → Calls Try.prog 16 #[v, .int .i64 1, .int .i64 x] w (PairPost w S1 true)) := fun w v h => by
    have h2 := shiftI_p T 1 x w v h
    rwa [orZero_yes hQ, tr_of hQ, ← hS1] at h2
  have hsub : S1.subst S x 0 = T := by rw [hS1]; exact Tm.subst_shift S T x 0
  have hok : SubstOk S1 x S := ⟨hS1V, HSV.out, hx20.1, hx20.2, hsub ▸ HTV.out⟩
  have HSB : Hid (∀ (w : World) (v v' : Value), TmIn w 0 S1 v → TmIn w 0 S v' → Calls Try.prog 22 #[v, .int .i64 x, v'] w (PairPost w T true)) := fun w v v' h h' => by
    have h2 := substI_p S1 S x w v v' h h'
    rwa [orZero_yes hok, tr_of hok, hsub] at h2
  have HFA : Hid (∀ (w : World) (v : Value), TmIn w 0 S1 v → Calls Try.prog 24 #[v, .int .i64 x] w (BoolPost w false)) := fun w v h => by
    have h2 := freeAtI_any S1 x w v h
    have h4 : (countOf S1 x != 0) = false := by
      unfold countOf
      rw [if_pos ⟨hS1V, hx20⟩, hS1, Tm.times_room]
      rfl
    rwa [h4] at h2
  have HTT : Hid (∀ (w : World) (v1 v2 : Value), TmIn w 0 T v1 → TmIn w 0 T v2 → Calls Try.prog 18 #[v1, v2] w (BoolPost w true)) := same_v HTV.out
  clear hQ hS1 hS1V hsub hok
  obtain ⟨zV, c0V, c1V, c2V, cfV⟩ := V.out.facts
  obtain ⟨zVU, c0VU, c1VU, c2VU, cfVU⟩ := VU.out.facts
  obtain ⟨zVX, c0VX, c1VX, c2VX, cfVX⟩ := VX.out.facts
  obtain ⟨zVW, c0VW, c1VW, c2VW, cfVW⟩ := VW.out.facts
  go_wp2_with fail
  refine (HSH.out _ _ V.out.tm).mono ?_
  rintro e u4 ⟨hb, vv, rfl, ss, rfl, hin⟩
  obtain ⟨aVS, cVS, rfl⟩ := hin.form
  clear zV c0V c1V c2V cfV zVU c0VU c1VU c2VU cfVU zVX c0VX c1VX c2VX cfVX zVW c0VW c1VW c2VW cfVW
  replace V := tuck (V.out.below hb)
  replace VU := tuck (VU.out.below hb)
  replace VX := tuck (VX.out.below hb)
  replace VW := tuck (VW.out.below hb)
  replace HB := tuck (bAfter HB.out hb)
  have HNVS := tuck hin
  clear hb hin
  obtain ⟨zV, c0V, c1V, c2V, cfV⟩ := V.out.facts
  obtain ⟨zVU, c0VU, c1VU, c2VU, cfVU⟩ := VU.out.facts
  obtain ⟨zVX, c0VX, c1VX, c2VX, cfVX⟩ := VX.out.facts
  obtain ⟨zVW, c0VW, c1VW, c2VW, cfVW⟩ := VW.out.facts
  go_wp2_with fail
  clear zV c0V c1V c2V cfV zVU c0VU c1VU c2VU cfVU zVX c0VX c1VX c2VX cfVX zVW c0VW c1VW c2VW cfVW
  have VS := tuck (TV.new HNVS.out)
  have hb := below1 u4 (.cells #[.int .i64 S1.kind, .int .i64 S1.num, .slice aVS S1.kids.length cVS] 25)
  replace V := tuck (V.out.below hb)
  replace VU := tuck (VU.out.below hb)
  replace VX := tuck (VX.out.below hb)
  replace VW := tuck (VW.out.below hb)
  replace HB := tuck (bAfter HB.out hb)
  clear hb HNVS
  generalize u4.alloc (.cells #[.int .i64 S1.kind, .int .i64 S1.num, .slice aVS S1.kids.length cVS] 25) = U4 at *
  generalize u4.heap.size = gVS at *
  refine (HSB.out _ _ _ VS.out.tm VU.out.tm).mono ?_
  rintro e u5 ⟨hb, vv, rfl, ss, rfl, hin⟩
  obtain ⟨aVY, cVY, rfl⟩ := hin.form
  replace V := tuck (V.out.below hb)
  replace VU := tuck (VU.out.below hb)
  replace VX := tuck (VX.out.below hb)
  replace VW := tuck (VW.out.below hb)
  replace VS := tuck (VS.out.below hb)
  replace HB := tuck (bAfter HB.out hb)
  have HNVY := tuck hin
  clear hb hin
  obtain ⟨zV, c0V, c1V, c2V, cfV⟩ := V.out.facts
  obtain ⟨zVU, c0VU, c1VU, c2VU, cfVU⟩ := VU.out.facts
  obtain ⟨zVX, c0VX, c1VX, c2VX, cfVX⟩ := VX.out.facts
  obtain ⟨zVW, c0VW, c1VW, c2VW, cfVW⟩ := VW.out.facts
  obtain ⟨zVS, c0VS, c1VS, c2VS, cfVS⟩ := VS.out.facts
  go_wp2_with fail
  clear zV c0V c1V c2V cfV zVU c0VU c1VU c2VU cfVU zVX c0VX c1VX c2VX cfVX zVW c0VW c1VW c2VW cfVW zVS c0VS c1VS c2VS cfVS
  have VY := tuck (TV.new HNVY.out)
  have hb := below1 u5 (.cells #[.int .i64 T.kind, .int .i64 T.num, .slice aVY T.kids.length cVY] 25)
  replace V := tuck (V.out.below hb)
  replace VU := tuck (VU.out.below hb)
  replace VX := tuck (VX.out.below hb)
  replace VW := tuck (VW.out.below hb)
  replace VS := tuck (VS.out.below hb)
  replace HB := tuck (bAfter HB.out hb)
  clear hb HNVY
  generalize u5.alloc (.cells #[.int .i64 T.kind, .int .i64 T.num, .slice aVY T.kids.length cVY] 25) = U5 at *
  generalize u5.heap.size = gVY at *
  refine (HTT.out _ _ _ VY.out.tm V.out.tm).mono ?_
  rintro e u6 ⟨rfl, hb⟩
  replace V := tuck (V.out.below hb)
  replace VU := tuck (VU.out.below hb)
  replace VX := tuck (VX.out.below hb)
  replace VW := tuck (VW.out.below hb)
  replace VS := tuck (VS.out.below hb)
  replace VY := tuck (VY.out.below hb)
  replace HB := tuck (bAfter HB.out hb)
  clear hb
  obtain ⟨zV, c0V, c1V, c2V, cfV⟩ := V.out.facts
  obtain ⟨zVU, c0VU, c1VU, c2VU, cfVU⟩ := VU.out.facts
  obtain ⟨zVX, c0VX, c1VX, c2VX, cfVX⟩ := VX.out.facts
  obtain ⟨zVW, c0VW, c1VW, c2VW, cfVW⟩ := VW.out.facts
  obtain ⟨zVS, c0VS, c1VS, c2VS, cfVS⟩ := VS.out.facts
  obtain ⟨zVY, c0VY, c1VY, c2VY, cfVY⟩ := VY.out.facts
  go_wp2_with fail
  refine (HFA.out _ _ VS.out.tm).mono ?_
  rintro e u7 ⟨rfl, hb⟩
  clear zV c0V c1V c2V cfV zVU c0VU c1VU c2VU cfVU zVX c0VX c1VX c2VX cfVX zVW c0VW c1VW c2VW cfVW zVS c0VS c1VS c2VS cfVS zVY c0VY c1VY c2VY cfVY
  replace V := tuck (V.out.below hb)
  replace VU := tuck (VU.out.below hb)
  replace VX := tuck (VX.out.below hb)
  replace VW := tuck (VW.out.below hb)
  replace VS := tuck (VS.out.below hb)
  replace VY := tuck (VY.out.below hb)
  replace HB := tuck (bAfter HB.out hb)
  clear hb
  obtain ⟨zV, c0V, c1V, c2V, cfV⟩ := V.out.facts
  obtain ⟨zVU, c0VU, c1VU, c2VU, cfVU⟩ := VU.out.facts
  obtain ⟨zVX, c0VX, c1VX, c2VX, cfVX⟩ := VX.out.facts
  obtain ⟨zVW, c0VW, c1VW, c2VW, cfVW⟩ := VW.out.facts
  obtain ⟨zVS, c0VS, c1VS, c2VS, cfVS⟩ := VS.out.facts
  obtain ⟨zVY, c0VY, c1VY, c2VY, cfVY⟩ := VY.out.facts
  go_wp2_with fail
  go_ret
  exact ⟨rfl, HB.out⟩

set_option maxRecDepth 100000 in
theorem lifted (os : Os) (started : os.Started) (H : Type) (enc : TypeId × Value → H) :
    ReturnsInHanded {} Try.checked os 5 .any (Rows.fnSubstShiftSpec.pre6 enc Try.prog Try.f5 Rows.fnSubstShiftRow.domain false) (Rows.fnSubstShiftSpec.post enc Try.prog Try.f5 false true false false) := by
  refine returnsInHanded_of_change (C := Try.checked) own started (by kernel_rfl) Try.func5
    (ChangeSpec.witness6 (enc := enc) (C := Try.checked) false ⟨#[], #[.slice none 0 0], []⟩ 8 (by kernel_rfl) (by kernel_rfl) (by kernel_rfl) (by kernel_rfl)) ?_
  intro W base args ds gs before hval0 hW hcnd _
  have hval : ∀ (j : Nat) t v, Try.f5.params[j]? = some t → args[j]? = some v → Value.okWide Try.prog W .any base t v := hval0
  have hW' := hW
  obtain ⟨p, q, hA0, hV, rfl, hfz, hnd⟩ := hW
  have hA : DataW.TrodAll enc Try.prog W 0 (fun _ => true) true Try.f5.params.toList args.toList ds p := hA0
  rw [Try.params5] at hA hval
  obtain ⟨v0, vs0, d0, ds0, p0, q0, hargs, rfl, rfl, h0, r0⟩ := trodAll_cons hA
  obtain ⟨rfl, rfl, rfl⟩ := trodAll_nil r0
  obtain rfl : args = #[v0] := by cases args; simp_all
  obtain ⟨U0, ad0, bb0, oo0, len0, cap0, rfl, hlc0, hcm0, hbl0, hby0⟩ := open_bytes (hval 0 22 v0 rfl rfl) h0
  refine (walk U0 ad0 bb0 oo0 len0 cap0 W hlc0 hcm0 hby0).mono fun e W' ⟨he, hb⟩ => ?_
  subst he
  exact ⟨_, rfl, law_post rfl rfl (fun gs h => by subst h; rfl) (by rw [Try.params5]; exact readable_FnSubstShift) laid hW' hb⟩

theorem over : Rows.fnSubstShiftRow.holds Try.pinned (OpenSpec.ofChange Rows.fnSubstShiftSpec) :=
  OpenClaim.holds_of_wide 5 Try.f5 rfl rfl rfl rfl rfl rfl rfl ⟨rfl, rfl, rfl, rfl, rfl⟩ rfl rfl rfl rfl rfl (by kernel_rfl) Try.func5 (by kernel_rfl)
    (of_decide_eq_true (by kernel_rfl)) (by unfold Func.isWrapper; first | (rw [if_pos (by decide +kernel)]; kernel_rfl) | (rw [if_neg (by decide +kernel)]; exact ⟨rfl, rfl⟩))
    (fun os started H enc _ => lifted os started H enc)

theorem proved : Rows.FnSubstShiftSaid :=
  over
end Go.Proofs.Ytmihfbopahoejaa.fnSubstShift
