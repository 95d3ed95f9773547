/-
  The law FnSubstCommute: whatever the bytes, two substitutions can be exchanged.
-/
import Derived.Test.YtmihfbopahoejaaDrawsC
import Derived.Test.YtmihfbopahoejaaVarsS
import Derived.Test.YtmihfbopahoejaaFree
import Derived.IntWalk
namespace Go.Proofs.Ytmihfbopahoejaa.fnSubstCommute
open Go.ChangeShapes Go.WideShapes Go.ChangeAt Go.RowKit Go.Deep
set_option linter.unusedVariables false

theorem readable_FnSubstCommute : ∀ t ∈ (#[22, 22] : Array TypeId).toList, Try.prog.readableRec t = true ∧ t < Try.prog.types.size := by
  intro t ht
  simp at ht
  subst ht
  exact ⟨by kernel_rfl, of_decide_eq_true (by kernel_rfl)⟩
theorem laid : laidOutB Try.prog = true := by kernel_rfl

set_option maxRecDepth 100000 in
set_option maxHeartbeats 1600000 in
theorem walk (U : Nat → Int) (a : Option Addr) (b o len cap : Nat) (w : World) (hlc : len ≤ cap) (hcm : cap ≤ maxLen) (hby : Bytes U a b o len w) (U2 : Nat → Int) (a2 : Option Addr) (b2 o2 len2 cap2 : Nat) (hlc2 : len2 ≤ cap2) (hcm2 : cap2 ≤ maxLen) (hby2 : Bytes U2 a2 b2 o2 len2 w) : Calls Try.prog 7 #[.slice a len cap, .slice a2 len2 cap2] w fun e w' => e = .returned (.bool true) ∧ Below w.heap.size w w' := by
  unfold maxLen at hcm hcm2
  by_cases hl : 1048576 < len
  · have hl' : (1048576 : Int) < (len : Int) := by omega
    clear hby hby2
    go_enter Try.func7, Try.ntmps7
    go_wp2
    go_ret
    exact ⟨rfl, Below.refl _ _⟩
  have hl' : ¬ (1048576 : Int) < (len : Int) := by omega
  by_cases hl3 : 1048576 < len2
  · have hl3' : (1048576 : Int) < (len2 : Int) := by omega
    clear hby hby2
    go_enter Try.func7, Try.ntmps7
    go_wp2
    go_ret
    exact ⟨rfl, Below.refl _ _⟩
  have hl3' : ¬ (1048576 : Int) < (len2 : Int) := by omega
  have HD := tuck (dSubstTerm_any w (by omega) hlc hby)
  have HBY2 := tuck hby2
  clear hby hby2
  go_enter Try.func7, Try.ntmps7
  go_wp2_with fail
  refine HD.out.mono ?_
  rintro e w1 ⟨T, v, x, S, u, rfl, ⟨s, rfl, hin⟩, ⟨s2, rfl, hin2⟩, hsz, hsz2, hx0, hx1, hb⟩
  obtain ⟨aV, cV, rfl⟩ := hin.form
  obtain ⟨aVU, cVU, rfl⟩ := hin2.form
  have hs1 : (w1.alloc (.cells #[.int .i64 T.kind, .int .i64 T.num, .slice aV T.kids.length cV] 25)).heap.size = w1.heap.size + 1 := by simp
  have V := tuck ((TV.new (hin.mono (Nat.zero_le _))).below (below1 (w1.alloc (.cells #[.int .i64 T.kind, .int .i64 T.num, .slice aV T.kids.length cV] 25)) (.cells #[.int .i64 S.kind, .int .i64 S.num, .slice aVU S.kids.length cVU] 25)))
  have hvu := TV.new ((hin2.mono (Nat.zero_le _)).below (below1 w1 (.cells #[.int .i64 T.kind, .int .i64 T.num, .slice aV T.kids.length cV] 25)))
  rw [hs1] at hvu
  have VU := tuck hvu
  have HB := tuck (bAfter hb (below2 w1 (.cells #[.int .i64 T.kind, .int .i64 T.num, .slice aV T.kids.length cV] 25) (.cells #[.int .i64 S.kind, .int .i64 S.num, .slice aVU S.kids.length cVU] 25)))
  replace HBY2 := tuck (HBY2.out.below HB.out)
  clear hin hin2 hb HD hvu
  go_wp2_with fail
  generalize (w1.alloc (.cells #[.int .i64 T.kind, .int .i64 T.num, .slice aV T.kids.length cV] 25)).alloc (.cells #[.int .i64 S.kind, .int .i64 S.num, .slice aVU S.kids.length cVU] 25) = U0 at *
  generalize w1.heap.size + 1 = gVU at *
  generalize w1.heap.size = gV at *
  refine (dSubstTerm_any _ (by omega) hlc2 HBY2.out).mono ?_
  rintro e w2 ⟨T2, v, j, R, u, rfl, ⟨s, rfl, hin⟩, ⟨s2, rfl, hin2⟩, -, -, hj0, hj1, hb⟩
  obtain ⟨aVT, cVT, rfl⟩ := hin.form
  obtain ⟨aVR, cVR, rfl⟩ := hin2.form
  have HIN2 := tuck hin2
  replace V := tuck (V.out.below hb)
  replace VU := tuck (VU.out.below hb)
  replace HB := tuck (bAfter HB.out hb)
  clear hin hin2 hb HBY2
  obtain ⟨zV, c0V, c1V, c2V, cfV⟩ := V.out.facts
  obtain ⟨zVU, c0VU, c1VU, c2VU, cfVU⟩ := VU.out.facts
  go_wp2_with fail
  clear zV c0V c1V c2V cfV zVU c0VU c1VU c2VU cfVU
  have hs1 : (w2.alloc (.cells #[.int .i64 T2.kind, .int .i64 T2.num, .slice aVT T2.kids.length cVT] 25)).heap.size = w2.heap.size + 1 := by simp
  have hvu := TV.new ((HIN2.out.mono (Nat.zero_le _)).below (below1 w2 (.cells #[.int .i64 T2.kind, .int .i64 T2.num, .slice aVT T2.kids.length cVT] 25)))
  rw [hs1] at hvu
  have VR := tuck hvu
  have hbx := below2 w2 (.cells #[.int .i64 T2.kind, .int .i64 T2.num, .slice aVT T2.kids.length cVT] 25) (.cells #[.int .i64 R.kind, .int .i64 R.num, .slice aVR R.kids.length cVR] 25)
  replace V := tuck (V.out.below hbx)
  replace VU := tuck (VU.out.below hbx)
  replace HB := tuck (bAfter HB.out hbx)
  clear HIN2 hvu hbx
  generalize (w2.alloc (.cells #[.int .i64 T2.kind, .int .i64 T2.num, .slice aVT T2.kids.length cVT] 25)).alloc (.cells #[.int .i64 R.kind, .int .i64 R.num, .slice aVR R.kids.length cVR] 25) = U9 at *
  generalize w2.heap.size + 1 = gVR at *
  by_cases hP : SubstOk T 0 S
  rotate_left
  · obtain ⟨X, hX⟩ : ∃ X, X = zeroT := ⟨_, rfl⟩
    have HIM : Hid (∀ (w : World) (v v' : Value), TmIn w 0 T v → TmIn w 0 S v' → Calls Try.prog 22 #[v, .int .i64 0, v'] w (PairPost w X false)) := fun w v v' h h' => by
      have h2 := substI_p T S 0 w v v' h h'
      rwa [orZero_no hP, tr_not hP, ← hX] at h2
    have HSP : Hid (∀ (w : World) (v v' : Value), TmIn w 0 T v → TmIn w 0 S v' → Calls Try.prog 23 #[v, .int .i64 0, v'] w (PairPost w X false)) := fun w v v' h h' => by
      have h2 := substS_p T S 0 w v v' h h'
      rwa [orZero_no hP, tr_not hP, ← hX] at h2
    have HTS : Hid (∀ (w : World) (v1 v2 : Value), TmIn w 0 X v1 → TmIn w 0 X v2 → Calls Try.prog 18 #[v1, v2] w (BoolPost w true)) := fun w v1 v2 h1 h2 => by rw [hX] at h1 h2; exact same_z w v1 v2 h1 h2
    clear hX hP
    refine (HIM.out _ _ _ V.out.tm VU.out.tm).mono ?_
    rintro e u51 ⟨hb, vv, rfl, ss, rfl, hin⟩
    obtain ⟨aVX, cVX, rfl⟩ := hin.form
    replace V := tuck (V.out.below hb)
    replace VU := tuck (VU.out.below hb)
    replace VR := tuck (VR.out.below hb)
    replace HB := tuck (bAfter HB.out hb)
    have HNVX := tuck hin
    clear hb hin
    obtain ⟨zV, c0V, c1V, c2V, cfV⟩ := V.out.facts
    obtain ⟨zVU, c0VU, c1VU, c2VU, cfVU⟩ := VU.out.facts
    obtain ⟨zVR, c0VR, c1VR, c2VR, cfVR⟩ := VR.out.facts
    go_wp2_with fail
    clear zV c0V c1V c2V cfV zVU c0VU c1VU c2VU cfVU zVR c0VR c1VR c2VR cfVR
    have VX := tuck (TV.new HNVX.out)
    have hb := below1 u51 (.cells #[.int .i64 X.kind, .int .i64 X.num, .slice aVX X.kids.length cVX] 25)
    replace V := tuck (V.out.below hb)
    replace VU := tuck (VU.out.below hb)
    replace VR := tuck (VR.out.below hb)
    replace HB := tuck (bAfter HB.out hb)
    clear hb HNVX
    generalize u51.alloc (.cells #[.int .i64 X.kind, .int .i64 X.num, .slice aVX X.kids.length cVX] 25) = U51 at *
    generalize u51.heap.size = gVX at *
    refine (HSP.out _ _ _ V.out.tm VU.out.tm).mono ?_
    rintro e u52 ⟨hb, vv, rfl, ss, rfl, hin⟩
    obtain ⟨aVW, cVW, rfl⟩ := hin.form
    replace V := tuck (V.out.below hb)
    replace VU := tuck (VU.out.below hb)
    replace VR := tuck (VR.out.below hb)
    replace VX := tuck (VX.out.below hb)
    replace HB := tuck (bAfter HB.out hb)
    have HNVW := tuck hin
    clear hb hin
    obtain ⟨zV, c0V, c1V, c2V, cfV⟩ := V.out.facts
    obtain ⟨zVU, c0VU, c1VU, c2VU, cfVU⟩ := VU.out.facts
    obtain ⟨zVR, c0VR, c1VR, c2VR, cfVR⟩ := VR.out.facts
    obtain ⟨zVX, c0VX, c1VX, c2VX, cfVX⟩ := VX.out.facts
    go_wp2_with fail
    clear zV c0V c1V c2V cfV zVU c0VU c1VU c2VU cfVU zVR c0VR c1VR c2VR cfVR zVX c0VX c1VX c2VX cfVX
    have VW := tuck (TV.new HNVW.out)
    have hb := below1 u52 (.cells #[.int .i64 X.kind, .int .i64 X.num, .slice aVW X.kids.length cVW] 25)
    replace V := tuck (V.out.below hb)
    replace VU := tuck (VU.out.below hb)
    replace VR := tuck (VR.out.below hb)
    replace VX := tuck (VX.out.below hb)
    replace HB := tuck (bAfter HB.out hb)
    clear hb HNVW
    generalize u52.alloc (.cells #[.int .i64 X.kind, .int .i64 X.num, .slice aVW X.kids.length cVW] 25) = U52 at *
    generalize u52.heap.size = gVW at *
    refine (HTS.out _ _ _ VX.out.tm VW.out.tm).mono ?_
    rintro e u53 ⟨rfl, hb⟩
    replace V := tuck (V.out.below hb)
    replace VU := tuck (VU.out.below hb)
    replace VR := tuck (VR.out.below hb)
    replace VX := tuck (VX.out.below hb)
    replace VW := tuck (VW.out.below hb)
    replace HB := tuck (bAfter HB.out hb)
    clear hb
    obtain ⟨zV, c0V, c1V, c2V, cfV⟩ := V.out.facts
    obtain ⟨zVU, c0VU, c1VU, c2VU, cfVU⟩ := VU.out.facts
    obtain ⟨zVR, c0VR, c1VR, c2VR, cfVR⟩ := VR.out.facts
    obtain ⟨zVX, c0VX, c1VX, c2VX, cfVX⟩ := VX.out.facts
    obtain ⟨zVW, c0VW, c1VW, c2VW, cfVW⟩ := VW.out.facts
    go_wp2_with fail
    refine (HTS.out _ _ _ VX.out.tm VW.out.tm).mono ?_
    rintro e u54 ⟨rfl, hb⟩
    clear zV c0V c1V c2V cfV zVU c0VU c1VU c2VU cfVU zVR c0VR c1VR c2VR cfVR zVX c0VX c1VX c2VX cfVX zVW c0VW c1VW c2VW cfVW
    replace V := tuck (V.out.below hb)
    replace VU := tuck (VU.out.below hb)
    replace VR := tuck (VR.out.below hb)
    replace VX := tuck (VX.out.below hb)
    replace VW := tuck (VW.out.below hb)
    replace HB := tuck (bAfter HB.out hb)
    clear hb
    obtain ⟨zV, c0V, c1V, c2V, cfV⟩ := V.out.facts
    obtain ⟨zVU, c0VU, c1VU, c2VU, cfVU⟩ := VU.out.facts
    obtain ⟨zVR, c0VR, c1VR, c2VR, cfVR⟩ := VR.out.facts
    obtain ⟨zVX, c0VX, c1VX, c2VX, cfVX⟩ := VX.out.facts
    obtain ⟨zVW, c0VW, c1VW, c2VW, cfVW⟩ := VW.out.facts
    go_wp2_with fail
    go_ret
    exact ⟨rfl, HB.out⟩
  obtain ⟨X, hX⟩ : ∃ X, X = T.subst S 0 0 := ⟨_, rfl⟩
  have HIM : Hid (∀ (w : World) (v v' : Value), TmIn w 0 T v → TmIn w 0 S v' → Calls Try.prog 22 #[v, .int .i64 0, v'] w (PairPost w X true)) := fun w v v' h h' => by
    have h2 := substI_p T S 0 w v v' h h'
    rwa [orZero_yes hP, tr_of hP, ← hX] at h2
  have HSP : Hid (∀ (w : World) (v v' : Value), TmIn w 0 T v → TmIn w 0 S v' → Calls Try.prog 23 #[v, .int .i64 0, v'] w (PairPost w X true)) := fun w v v' h h' => by
    have h2 := substS_p T S 0 w v v' h h'
    rwa [orZero_yes hP, tr_of hP, ← hX] at h2
  have HTS : Hid (∀ (w : World) (v1 v2 : Value), TmIn w 0 X v1 → TmIn w 0 X v2 → Calls Try.prog 18 #[v1, v2] w (BoolPost w true)) := same_v (hX ▸ hP.2.2.2.2)
  have HXV : Hid X.Valid := tuck (hX ▸ hP.2.2.2.2)
  have HTV : Hid T.Valid := tuck hP.1
  have HSV : Hid S.Valid := tuck hP.2.1
  have HP : Hid (SubstOk T 0 S) := tuck hP
  have HX : Hid (X = T.subst S 0 0) := tuck hX
  clear hX hP
  refine (HIM.out _ _ _ V.out.tm VU.out.tm).mono ?_
  rintro e u1 ⟨hb, vv, rfl, ss, rfl, hin⟩
  obtain ⟨aVX, cVX, rfl⟩ := hin.form
  replace V := tuck (V.out.below hb)
  replace VU := tuck (VU.out.below hb)
  replace VR := tuck (VR.out.below hb)
  replace HB := tuck (bAfter HB.out hb)
  have HNVX := tuck hin
  clear hb hin
  obtain ⟨zV, c0V, c1V, c2V, cfV⟩ := V.out.facts
  obtain ⟨zVU, c0VU, c1VU, c2VU, cfVU⟩ := VU.out.facts
  obtain ⟨zVR, c0VR, c1VR, c2VR, cfVR⟩ := VR.out.facts
  go_wp2_with fail
  clear zV c0V c1V c2V cfV zVU c0VU c1VU c2VU cfVU zVR c0VR c1VR c2VR cfVR
  have VX := tuck (TV.new HNVX.out)
  have hb := below1 u1 (.cells #[.int .i64 X.kind, .int .i64 X.num, .slice aVX X.kids.length cVX] 25)
  replace V := tuck (V.out.below hb)
  replace VU := tuck (VU.out.below hb)
  replace VR := tuck (VR.out.below hb)
  replace HB := tuck (bAfter HB.out hb)
  clear hb HNVX
  generalize u1.alloc (.cells #[.int .i64 X.kind, .int .i64 X.num, .slice aVX X.kids.length cVX] 25) = U1 at *
  generalize u1.heap.size = gVX at *
  refine (HSP.out _ _ _ V.out.tm VU.out.tm).mono ?_
  rintro e u2 ⟨hb, vv, rfl, ss, rfl, hin⟩
  obtain ⟨aVW, cVW, rfl⟩ := hin.form
  replace V := tuck (V.out.below hb)
  replace VU := tuck (VU.out.below hb)
  replace VR := tuck (VR.out.below hb)
  replace VX := tuck (VX.out.below hb)
  replace HB := tuck (bAfter HB.out hb)
  have HNVW := tuck hin
  clear hb hin
  obtain ⟨zV, c0V, c1V, c2V, cfV⟩ := V.out.facts
  obtain ⟨zVU, c0VU, c1VU, c2VU, cfVU⟩ := VU.out.facts
  obtain ⟨zVR, c0VR, c1VR, c2VR, cfVR⟩ := VR.out.facts
  obtain ⟨zVX, c0VX, c1VX, c2VX, cfVX⟩ := VX.out.facts
  go_wp2_with fail
  clear zV c0V c1V c2V cfV zVU c0VU c1VU c2VU cfVU zVR c0VR c1VR c2VR cfVR zVX c0VX c1VX c2VX cfVX
  have VW := tuck (TV.new HNVW.out)
  have hb := below1 u2 (.cells #[.int .i64 X.kind, .int .i64 X.num, .slice aVW X.kids.length cVW] 25)
  replace V := tuck (V.out.below hb)
  replace VU := tuck (VU.out.below hb)
  replace VR := tuck (VR.out.below hb)
  replace VX := tuck (VX.out.below hb)
  replace HB := tuck (bAfter HB.out hb)
  clear hb HNVW
  generalize u2.alloc (.cells #[.int .i64 X.kind, .int .i64 X.num, .slice aVW X.kids.length cVW] 25) = U2 at *
  generalize u2.heap.size = gVW at *
  refine (HTS.out _ _ _ VX.out.tm VW.out.tm).mono ?_
  rintro e u3 ⟨rfl, hb⟩
  replace V := tuck (V.out.below hb)
  replace VU := tuck (VU.out.below hb)
  replace VR := tuck (VR.out.below hb)
  replace VX := tuck (VX.out.below hb)
  replace VW := tuck (VW.out.below hb)
  replace HB := tuck (bAfter HB.out hb)
  clear hb
  by_cases hjn : j < 0
  · have hjd : decide (j < 0) = true := by simpa using hjn
    clear HTV HSV HP HX HXV
    obtain ⟨zV, c0V, c1V, c2V, cfV⟩ := V.out.facts
    obtain ⟨zVU, c0VU, c1VU, c2VU, cfVU⟩ := VU.out.facts
    obtain ⟨zVR, c0VR, c1VR, c2VR, cfVR⟩ := VR.out.facts
    obtain ⟨zVX, c0VX, c1VX, c2VX, cfVX⟩ := VX.out.facts
    obtain ⟨zVW, c0VW, c1VW, c2VW, cfVW⟩ := VW.out.facts
    go_wp2_with fail
    refine (HTS.out _ _ _ VX.out.tm VW.out.tm).mono ?_
    rintro e u24 ⟨rfl, hb⟩
    clear zV c0V c1V c2V cfV zVU c0VU c1VU c2VU cfVU zVR c0VR c1VR c2VR cfVR zVX c0VX c1VX c2VX cfVX zVW c0VW c1VW c2VW cfVW
    replace V := tuck (V.out.below hb)
    replace VU := tuck (VU.out.below hb)
    replace VR := tuck (VR.out.below hb)
    replace VX := tuck (VX.out.below hb)
    replace VW := tuck (VW.out.below hb)
    replace HB := tuck (bAfter HB.out hb)
    clear hb
    obtain ⟨zV, c0V, c1V, c2V, cfV⟩ := V.out.facts
    obtain ⟨zVU, c0VU, c1VU, c2VU, cfVU⟩ := VU.out.facts
    obtain ⟨zVR, c0VR, c1VR, c2VR, cfVR⟩ := VR.out.facts
    obtain ⟨zVX, c0VX, c1VX, c2VX, cfVX⟩ := VX.out.facts
    obtain ⟨zVW, c0VW, c1VW, c2VW, cfVW⟩ := VW.out.facts
    go_wp2_with fail
    go_ret
    exact ⟨rfl, HB.out⟩
  have hjd : decide (j < 0) = false := by simpa using hjn
  by_cases hjg : 20 ≤ j
  · have hjd2 : decide (20 ≤ j) = true := by simpa using hjg
    clear HTV HSV HP HX HXV
    obtain ⟨zV, c0V, c1V, c2V, cfV⟩ := V.out.facts
    obtain ⟨zVU, c0VU, c1VU, c2VU, cfVU⟩ := VU.out.facts
    obtain ⟨zVR, c0VR, c1VR, c2VR, cfVR⟩ := VR.out.facts
    obtain ⟨zVX, c0VX, c1VX, c2VX, cfVX⟩ := VX.out.facts
    obtain ⟨zVW, c0VW, c1VW, c2VW, cfVW⟩ := VW.out.facts
    go_wp2_with fail
    refine (HTS.out _ _ _ VX.out.tm VW.out.tm).mono ?_
    rintro e u24 ⟨rfl, hb⟩
    clear zV c0V c1V c2V cfV zVU c0VU c1VU c2VU cfVU zVR c0VR c1VR c2VR cfVR zVX c0VX c1VX c2VX cfVX zVW c0VW c1VW c2VW cfVW
    replace V := tuck (V.out.below hb)
    replace VU := tuck (VU.out.below hb)
    replace VR := tuck (VR.out.below hb)
    replace VX := tuck (VX.out.below hb)
    replace VW := tuck (VW.out.below hb)
    replace HB := tuck (bAfter HB.out hb)
    clear hb
    obtain ⟨zV, c0V, c1V, c2V, cfV⟩ := V.out.facts
    obtain ⟨zVU, c0VU, c1VU, c2VU, cfVU⟩ := VU.out.facts
    obtain ⟨zVR, c0VR, c1VR, c2VR, cfVR⟩ := VR.out.facts
    obtain ⟨zVX, c0VX, c1VX, c2VX, cfVX⟩ := VX.out.facts
    obtain ⟨zVW, c0VW, c1VW, c2VW, cfVW⟩ := VW.out.facts
    go_wp2_with fail
    go_ret
    exact ⟨rfl, HB.out⟩
  have hjd2 : decide (20 ≤ j) = false := by simpa using hjg
  have H1 := tuck (fun w v v' h h' => substI_p X R j w v v' h h')
  have H2 := tuck (fun w v h => shiftI_p R 1 0 w v h)
  generalize hL : orZero (SubstOk X j R) (X.subst R j 0) = L at H1
  generalize hp : tr (SubstOk X j R) = p at H1
  generalize hW1 : orZero (ShiftOk R 1 0) (R.shift 1 0) = W1 at H2
  generalize ha : tr (ShiftOk R 1 0) = a1 at H2
  have H3 := tuck (fun w v v' h h' => substI_p T W1 (j + 1) w v v' h h')
  generalize hY : orZero (SubstOk T (j + 1) W1) (T.subst W1 (j + 1) 0) = Y at H3
  generalize hbb : tr (SubstOk T (j + 1) W1) = b1 at H3
  have H4 := tuck (fun w v v' h h' => substI_p S R j w v v' h h')
  generalize hZ : orZero (SubstOk S j R) (S.subst R j 0) = Z at H4
  generalize hcc : tr (SubstOk S j R) = c1 at H4
  have H5 := tuck (fun w v v' h h' => substI_p Y Z 0 w v v' h h')
  generalize hRt : orZero (SubstOk Y 0 Z) (Y.subst Z 0 0) = Rt at H5
  generalize hdd : tr (SubstOk Y 0 Z) = d1 at H5
  have HF : Hid (p = true → a1 = true → b1 = true → c1 = true → d1 = true ∧ Rt = L ∧ L.Valid) := tuck (by
    rintro rfl rfl rfl rfl
    have q1 := tr_iff.1 hp
    have q2 := tr_iff.1 ha
    rw [orZero_yes q1] at hL
    rw [orZero_yes q2] at hW1
    have q3 := tr_iff.1 hbb
    have q4 := tr_iff.1 hcc
    rw [orZero_yes q3] at hY
    rw [orZero_yes q4] at hZ
    have e := Tm.subst_subst S R j (by omega) T 0 HTV.out.1 (Int.le_refl 0)
    rw [Int.add_zero, Int.add_zero, ← HX.out, hW1, hY, hZ, hL] at e
    have q5 : SubstOk Y 0 Z := ⟨hY ▸ q3.2.2.2.2, hZ ▸ q4.2.2.2.2, Int.le_refl 0, by omega, e ▸ hL ▸ q1.2.2.2.2⟩
    refine ⟨by rw [← hdd, tr_of q5], ?_, hL ▸ q1.2.2.2.2⟩
    rw [← hRt, orZero_yes q5, ← e])
  clear hL hp hW1 ha hY hbb hZ hcc hRt hdd HTV HSV HP HX HXV HTS HIM HSP
  obtain ⟨zV, c0V, c1V, c2V, cfV⟩ := V.out.facts
  obtain ⟨zVU, c0VU, c1VU, c2VU, cfVU⟩ := VU.out.facts
  obtain ⟨zVR, c0VR, c1VR, c2VR, cfVR⟩ := VR.out.facts
  obtain ⟨zVX, c0VX, c1VX, c2VX, cfVX⟩ := VX.out.facts
  go_wp2_with fail
  refine (H1.out _ _ _ VX.out.tm VR.out.tm).mono ?_
  rintro e u4 ⟨hb, vv, rfl, ss, rfl, hin⟩
  obtain ⟨aVL, cVL, rfl⟩ := hin.form
  clear zV c0V c1V c2V cfV zVU c0VU c1VU c2VU cfVU zVR c0VR c1VR c2VR cfVR zVX c0VX c1VX c2VX cfVX
  replace V := tuck (V.out.below hb)
  replace VU := tuck (VU.out.below hb)
  replace VR := tuck (VR.out.below hb)
  replace VX := tuck (VX.out.below hb)
  replace HB := tuck (bAfter HB.out hb)
  have HNVL := tuck hin
  clear hb hin
  obtain ⟨zV, c0V, c1V, c2V, cfV⟩ := V.out.facts
  obtain ⟨zVU, c0VU, c1VU, c2VU, cfVU⟩ := VU.out.facts
  obtain ⟨zVR, c0VR, c1VR, c2VR, cfVR⟩ := VR.out.facts
  obtain ⟨zVX, c0VX, c1VX, c2VX, cfVX⟩ := VX.out.facts
  go_wp2_with fail
  clear zV c0V c1V c2V cfV zVU c0VU c1VU c2VU cfVU zVR c0VR c1VR c2VR cfVR zVX c0VX c1VX c2VX cfVX
  have VL := tuck (TV.new HNVL.out)
  have hb := below1 u4 (.cells #[.int .i64 L.kind, .int .i64 L.num, .slice aVL L.kids.length cVL] 25)
  replace V := tuck (V.out.below hb)
  replace VU := tuck (VU.out.below hb)
  replace VR := tuck (VR.out.below hb)
  replace VX := tuck (VX.out.below hb)
  replace HB := tuck (bAfter HB.out hb)
  clear hb HNVL
  generalize u4.alloc (.cells #[.int .i64 L.kind, .int .i64 L.num, .slice aVL L.kids.length cVL] 25) = U4 at *
  generalize u4.heap.size = gVL at *
  refine (H2.out _ _ VR.out.tm).mono ?_
  rintro e u5 ⟨hb, vv, rfl, ss, rfl, hin⟩
  obtain ⟨aVW1, cVW1, rfl⟩ := hin.form
  replace V := tuck (V.out.below hb)
  replace VU := tuck (VU.out.below hb)
  replace VR := tuck (VR.out.below hb)
  replace VX := tuck (VX.out.below hb)
  replace VL := tuck (VL.out.below hb)
  replace HB := tuck (bAfter HB.out hb)
  have HNVW1 := tuck hin
  clear hb hin
  obtain ⟨zV, c0V, c1V, c2V, cfV⟩ := V.out.facts
  obtain ⟨zVU, c0VU, c1VU, c2VU, cfVU⟩ := VU.out.facts
  obtain ⟨zVR, c0VR, c1VR, c2VR, cfVR⟩ := VR.out.facts
  obtain ⟨zVX, c0VX, c1VX, c2VX, cfVX⟩ := VX.out.facts
  obtain ⟨zVL, c0VL, c1VL, c2VL, cfVL⟩ := VL.out.facts
  go_wp2_with fail
  clear zV c0V c1V c2V cfV zVU c0VU c1VU c2VU cfVU zVR c0VR c1VR c2VR cfVR zVX c0VX c1VX c2VX cfVX zVL c0VL c1VL c2VL cfVL
  have VW1 := tuck (TV.new HNVW1.out)
  have hb := below1 u5 (.cells #[.int .i64 W1.kind, .int .i64 W1.num, .slice aVW1 W1.kids.length cVW1] 25)
  replace V := tuck (V.out.below hb)
  replace VU := tuck (VU.out.below hb)
  replace VR := tuck (VR.out.below hb)
  replace VX := tuck (VX.out.below hb)
  replace VL := tuck (VL.out.below hb)
  replace HB := tuck (bAfter HB.out hb)
  clear hb HNVW1
  generalize u5.alloc (.cells #[.int .i64 W1.kind, .int .i64 W1.num, .slice aVW1 W1.kids.length cVW1] 25) = U5 at *
  generalize u5.heap.size = gVW1 at *
  refine (H3.out _ _ _ V.out.tm VW1.out.tm).mono ?_
  rintro e u6 ⟨hb, vv, rfl, ss, rfl, hin⟩
  obtain ⟨aVY, cVY, rfl⟩ := hin.form
  replace V := tuck (V.out.below hb)
  replace VU := tuck (VU.out.below hb)
  replace VR := tuck (VR.out.below hb)
  replace VX := tuck (VX.out.below hb)
  replace VL := tuck (VL.out.below hb)
  replace VW1 := tuck (VW1.out.below hb)
  replace HB := tuck (bAfter HB.out hb)
  have HNVY := tuck hin
  clear hb hin
  obtain ⟨zV, c0V, c1V, c2V, cfV⟩ := V.out.facts
  obtain ⟨zVU, c0VU, c1VU, c2VU, cfVU⟩ := VU.out.facts
  obtain ⟨zVR, c0VR, c1VR, c2VR, cfVR⟩ := VR.out.facts
  obtain ⟨zVX, c0VX, c1VX, c2VX, cfVX⟩ := VX.out.facts
  obtain ⟨zVL, c0VL, c1VL, c2VL, cfVL⟩ := VL.out.facts
  obtain ⟨zVW1, c0VW1, c1VW1, c2VW1, cfVW1⟩ := VW1.out.facts
  go_wp2_with fail
  clear zV c0V c1V c2V cfV zVU c0VU c1VU c2VU cfVU zVR c0VR c1VR c2VR cfVR zVX c0VX c1VX c2VX cfVX zVL c0VL c1VL c2VL cfVL zVW1 c0VW1 c1VW1 c2VW1 cfVW1
  have VY := tuck (TV.new HNVY.out)
  have hb := below1 u6 (.cells #[.int .i64 Y.kind, .int .i64 Y.num, .slice aVY Y.kids.length cVY] 25)
  replace V := tuck (V.out.below hb)
  replace VU := tuck (VU.out.below hb)
  replace VR := tuck (VR.out.below hb)
  replace VX := tuck (VX.out.below hb)
  replace VL := tuck (VL.out.below hb)
  replace VW1 := tuck (VW1.out.below hb)
  replace HB := tuck (bAfter HB.out hb)
  clear hb HNVY
  generalize u6.alloc (.cells #[.int .i64 Y.kind, .int .i64 Y.num, .slice aVY Y.kids.length cVY] 25) = U6 at *
  generalize u6.heap.size = gVY at *
  refine (H4.out _ _ _ VU.out.tm VR.out.tm).mono ?_
  rintro e u7 ⟨hb, vv, rfl, ss, rfl, hin⟩
  obtain ⟨aVZ, cVZ, rfl⟩ := hin.form
  replace V := tuck (V.out.below hb)
  replace VU := tuck (VU.out.below hb)
  replace VR := tuck (VR.out.below hb)
  replace VX := tuck (VX.out.below hb)
  replace VL := tuck (VL.out.below hb)
  replace VW1 := tuck (VW1.out.below hb)
  replace VY := tuck (VY.out.below hb)
  replace HB := tuck (bAfter HB.out hb)
  have HNVZ := tuck hin
  clear hb hin
  obtain ⟨zV, c0V, c1V, c2V, cfV⟩ := V.out.facts
  obtain ⟨zVU, c0VU, c1VU, c2VU, cfVU⟩ := VU.out.facts
  obtain ⟨zVR, c0VR, c1VR, c2VR, cfVR⟩ := VR.out.facts
  obtain ⟨zVX, c0VX, c1VX, c2VX, cfVX⟩ := VX.out.facts
  obtain ⟨zVL, c0VL, c1VL, c2VL, cfVL⟩ := VL.out.facts
  obtain ⟨zVW1, c0VW1, c1VW1, c2VW1, cfVW1⟩ := VW1.out.facts
  obtain ⟨zVY, c0VY, c1VY, c2VY, cfVY⟩ := VY.out.facts
  go_wp2_with fail
  clear zV c0V c1V c2V cfV zVU c0VU c1VU c2VU cfVU zVR c0VR c1VR c2VR cfVR zVX c0VX c1VX c2VX cfVX zVL c0VL c1VL c2VL cfVL zVW1 c0VW1 c1VW1 c2VW1 cfVW1 zVY c0VY c1VY c2VY cfVY
  have VZ := tuck (TV.new HNVZ.out)
  have hb := below1 u7 (.cells #[.int .i64 Z.kind, .int .i64 Z.num, .slice aVZ Z.kids.length cVZ] 25)
  replace V := tuck (V.out.below hb)
  replace VU := tuck (VU.out.below hb)
  replace VR := tuck (VR.out.below hb)
  replace VX := tuck (VX.out.below hb)
  replace VL := tuck (VL.out.below hb)
  replace VW1 := tuck (VW1.out.below hb)
  replace VY := tuck (VY.out.below hb)
  replace HB := tuck (bAfter HB.out hb)
  clear hb HNVZ
  generalize u7.alloc (.cells #[.int .i64 Z.kind, .int .i64 Z.num, .slice aVZ Z.kids.length cVZ] 25) = U7 at *
  generalize u7.heap.size = gVZ at *
  refine (H5.out _ _ _ VY.out.tm VZ.out.tm).mono ?_
  rintro e u8 ⟨hb, vv, rfl, ss, rfl, hin⟩
  obtain ⟨aVT9, cVT9, rfl⟩ := hin.form
  replace VL := tuck (VL.out.below hb)
  replace HB := tuck (bAfter HB.out hb)
  have HNR := tuck hin
  clear hb hin V VU VX VR VW1 VY VZ VW H1 H2 H3 H4 H5
  cases p
  · skip
    obtain ⟨zVL, c0VL, c1VL, c2VL, cfVL⟩ := VL.out.facts
    go_wp2_with fail
    go_ret
    exact ⟨rfl, bAfter HB.out (below1 _ _)⟩
  cases a1
  · skip
    obtain ⟨zVL, c0VL, c1VL, c2VL, cfVL⟩ := VL.out.facts
    go_wp2_with fail
    go_ret
    exact ⟨rfl, bAfter HB.out (below1 _ _)⟩
  cases b1
  · skip
    obtain ⟨zVL, c0VL, c1VL, c2VL, cfVL⟩ := VL.out.facts
    go_wp2_with fail
    go_ret
    exact ⟨rfl, bAfter HB.out (below1 _ _)⟩
  cases c1
  · skip
    obtain ⟨zVL, c0VL, c1VL, c2VL, cfVL⟩ := VL.out.facts
    go_wp2_with fail
    go_ret
    exact ⟨rfl, bAfter HB.out (below1 _ _)⟩
  obtain ⟨rfl, hRL, hLV⟩ := HF.out rfl rfl rfl rfl
  subst hRL
  have HTT : Hid (∀ (w : World) (v1 v2 : Value), TmIn w 0 Rt v1 → TmIn w 0 Rt v2 → Calls Try.prog 18 #[v1, v2] w (BoolPost w true)) := same_v hLV
  clear hLV HF
  obtain ⟨zVL, c0VL, c1VL, c2VL, cfVL⟩ := VL.out.facts
  go_wp2_with fail
  clear zVL c0VL c1VL c2VL cfVL
  refine (HTT.out _ _ _ ⟨_, rfl, VL.out.sl.below (below1 _ _)⟩ ⟨_, rfl, HNR.out.below (below1 _ _)⟩).mono ?_
  rintro e u99 ⟨rfl, hb⟩
  replace HB := tuck (bAfter (bAfter HB.out (below1 _ _)) hb)
  clear hb
  go_wp2_with fail
  go_ret
  exact ⟨rfl, HB.out⟩

set_option maxRecDepth 100000 in
theorem lifted (os : Os) (started : os.Started) (H : Type) (enc : TypeId × Value → H) :
    ReturnsInHanded {} Try.checked os 7 .any (Rows.fnSubstCommuteSpec.pre6 enc Try.prog Try.f7 Rows.fnSubstCommuteRow.domain false) (Rows.fnSubstCommuteSpec.post enc Try.prog Try.f7 false true false false) := by
  refine returnsInHanded_of_change (C := Try.checked) own started (by kernel_rfl) Try.func7
    (ChangeSpec.witness6 (enc := enc) (C := Try.checked) false ⟨#[], #[.slice none 0 0, .slice none 0 0], []⟩ 8 (by kernel_rfl) (by kernel_rfl) (by kernel_rfl) (by kernel_rfl)) ?_
  intro W base args ds gs before hval0 hW hcnd _
  have hval : ∀ (j : Nat) t v, Try.f7.params[j]? = some t → args[j]? = some v → Value.okWide Try.prog W .any base t v := hval0
  have hW' := hW
  obtain ⟨p, q, hA0, hV, rfl, hfz, hnd⟩ := hW
  have hA : DataW.TrodAll enc Try.prog W 0 (fun _ => true) true Try.f7.params.toList args.toList ds p := hA0
  rw [Try.params7] at hA hval
  obtain ⟨v0, vs0, d0, ds0, p0, q0, hargs, rfl, rfl, h0, r0⟩ := trodAll_cons hA
  obtain ⟨v1, vs1, d1, ds1, p1, q1, rfl, rfl, rfl, h1, r1⟩ := trodAll_cons r0
  obtain ⟨rfl, rfl, rfl⟩ := trodAll_nil r1
  obtain rfl : args = #[v0, v1] := by cases args; simp_all
  obtain ⟨U0, ad0, bb0, oo0, len0, cap0, rfl, hlc0, hcm0, hbl0, hby0⟩ := open_bytes (hval 0 22 v0 rfl rfl) h0
  obtain ⟨U1, ad1, bb1, oo1, len1, cap1, rfl, hlc1, hcm1, hbl1, hby1⟩ := open_bytes (hval 1 22 v1 rfl rfl) h1
  refine (walk U0 ad0 bb0 oo0 len0 cap0 W hlc0 hcm0 hby0 U1 ad1 bb1 oo1 len1 cap1 hlc1 hcm1 hby1).mono fun e W' ⟨he, hb⟩ => ?_
  subst he
  exact ⟨_, rfl, law_post rfl rfl (fun gs h => by subst h; rfl) (by rw [Try.params7]; exact readable_FnSubstCommute) laid hW' hb⟩

theorem over : Rows.fnSubstCommuteRow.holds Try.pinned (OpenSpec.ofChange Rows.fnSubstCommuteSpec) :=
  OpenClaim.holds_of_wide 7 Try.f7 rfl rfl rfl rfl rfl rfl rfl ⟨rfl, rfl, rfl, rfl, rfl⟩ rfl rfl rfl rfl rfl (by kernel_rfl) Try.func7 (by kernel_rfl)
    (of_decide_eq_true (by kernel_rfl)) (by unfold Func.isWrapper; first | (rw [if_pos (by decide +kernel)]; kernel_rfl) | (rw [if_neg (by decide +kernel)]; exact ⟨rfl, rfl⟩))
    (fun os started H enc _ => lifted os started H enc)

theorem proved : Rows.FnSubstCommuteSaid :=
  over
end Go.Proofs.Ytmihfbopahoejaa.fnSubstCommute
