/-
  The law FnShiftBack: whatever the bytes, shifts are additive.
-/
import Derived.Test.YtmihfbopahoejaaDrawsB
import Derived.Test.YtmihfbopahoejaaVars
import Derived.Test.YtmihfbopahoejaaFree
import Derived.IntWalk
namespace Go.Proofs.Ytmihfbopahoejaa.fnShiftBack
open Go.ChangeShapes Go.WideShapes Go.ChangeAt Go.RowKit Go.Deep
set_option linter.unusedVariables false

theorem readable_FnShiftBack : ∀ t ∈ (#[22, 22] : Array TypeId).toList, Try.prog.readableRec t = true ∧ t < Try.prog.types.size := by
  intro t ht
  simp at ht
  subst ht
  exact ⟨by kernel_rfl, of_decide_eq_true (by kernel_rfl)⟩
theorem laid : laidOutB Try.prog = true := by kernel_rfl

set_option maxRecDepth 100000 in
set_option maxHeartbeats 1600000 in
theorem walk (U : Nat → Int) (a : Option Addr) (b o len cap : Nat) (w : World) (hlc : len ≤ cap) (hcm : cap ≤ maxLen) (hby : Bytes U a b o len w) (U2 : Nat → Int) (a2 : Option Addr) (b2 o2 len2 cap2 : Nat) (hlc2 : len2 ≤ cap2) (hcm2 : cap2 ≤ maxLen) (hby2 : Bytes U2 a2 b2 o2 len2 w) : Calls Try.prog 3 #[.slice a len cap, .slice a2 len2 cap2] w fun e w' => e = .returned (.bool true) ∧ Below w.heap.size w w' := by
  unfold maxLen at hcm hcm2
  by_cases hl : 1048576 < len
  · have hl' : (1048576 : Int) < (len : Int) := by omega
    clear hby hby2
    go_enter Try.func3, Try.ntmps3
    go_wp2
    go_ret
    exact ⟨rfl, Below.refl _ _⟩
  have hl' : ¬ (1048576 : Int) < (len : Int) := by omega
  by_cases hl3 : 1048576 < len2
  · have hl3' : (1048576 : Int) < (len2 : Int) := by omega
    clear hby hby2
    go_enter Try.func3, Try.ntmps3
    go_wp2
    go_ret
    exact ⟨rfl, Below.refl _ _⟩
  have hl3' : ¬ (1048576 : Int) < (len2 : Int) := by omega
  have HD := tuck (dShiftTerm_any w (by omega) hlc hby)
  clear hby hby2
  go_enter Try.func3, Try.ntmps3
  go_wp2_with fail
  refine HD.out.mono ?_
  rintro e w1 ⟨T, v, x, y0, rfl, ⟨s, rfl, hin⟩, hsz, -, hx1, hx0, hy0, hy1, hb⟩
  obtain ⟨aV, cV, rfl⟩ := hin.form
  have V := tuck (TV.new (hin.mono (Nat.zero_le _)))
  have HB := tuck (bAfter hb (below1 w1 (.cells #[.int .i64 T.kind, .int .i64 T.num, .slice aV T.kids.length cV] 25)))
  clear hin hb HD
  go_wp2_with fail
  generalize w1.alloc (.cells #[.int .i64 T.kind, .int .i64 T.num, .slice aV T.kids.length cV] 25) = U0 at *
  generalize w1.heap.size = gV at *
  by_cases hP : ShiftOk T x y0
  rotate_left
  · obtain ⟨X, hX⟩ : ∃ X, X = zeroT := ⟨_, rfl⟩
    have HIM : Hid (∀ (w : World) (v : Value), TmIn w 0 T v → Calls Try.prog 16 #[v, .int .i64 x, .int .i64 y0] w (PairPost w X false)) := fun w v h => by
      have h2 := shiftI_p T x y0 w v h
      rwa [orZero_no hP, tr_not hP, ← hX] at h2
    have HSP : Hid (∀ (w : World) (v : Value), TmIn w 0 T v → Calls Try.prog 17 #[v, .int .i64 x, .int .i64 y0] w (PairPost w X false)) := fun w v h => by
      have h2 := shiftS_p T x y0 w v h
      rwa [orZero_no hP, tr_not hP, ← hX] at h2
    have HTS : Hid (∀ (w : World) (v1 v2 : Value), TmIn w 0 X v1 → TmIn w 0 X v2 → Calls Try.prog 18 #[v1, v2] w (BoolPost w true)) := fun w v1 v2 h1 h2 => by rw [hX] at h1 h2; exact same_z w v1 v2 h1 h2
    clear hX hP
    refine (HIM.out _ _ V.out.tm).mono ?_
    rintro e u51 ⟨hb, vv, rfl, ss, rfl, hin⟩
    obtain ⟨aVX, cVX, rfl⟩ := hin.form
    replace V := tuck (V.out.below hb)
    replace HB := tuck (bAfter HB.out hb)
    have HNVX := tuck hin
    clear hb hin
    obtain ⟨zV, c0V, c1V, c2V, cfV⟩ := V.out.facts
    go_wp2_with fail
    clear zV c0V c1V c2V cfV
    have VX := tuck (TV.new HNVX.out)
    have hb := below1 u51 (.cells #[.int .i64 X.kind, .int .i64 X.num, .slice aVX X.kids.length cVX] 25)
    replace V := tuck (V.out.below hb)
    replace HB := tuck (bAfter HB.out hb)
    clear hb HNVX
    generalize u51.alloc (.cells #[.int .i64 X.kind, .int .i64 X.num, .slice aVX X.kids.length cVX] 25) = U51 at *
    generalize u51.heap.size = gVX at *
    refine (HSP.out _ _ V.out.tm).mono ?_
    rintro e u52 ⟨hb, vv, rfl, ss, rfl, hin⟩
    obtain ⟨aVW, cVW, rfl⟩ := hin.form
    replace V := tuck (V.out.below hb)
    replace VX := tuck (VX.out.below hb)
    replace HB := tuck (bAfter HB.out hb)
    have HNVW := tuck hin
    clear hb hin
    obtain ⟨zV, c0V, c1V, c2V, cfV⟩ := V.out.facts
    obtain ⟨zVX, c0VX, c1VX, c2VX, cfVX⟩ := VX.out.facts
    go_wp2_with fail
    clear zV c0V c1V c2V cfV zVX c0VX c1VX c2VX cfVX
    have VW := tuck (TV.new HNVW.out)
    have hb := below1 u52 (.cells #[.int .i64 X.kind, .int .i64 X.num, .slice aVW X.kids.length cVW] 25)
    replace V := tuck (V.out.below hb)
    replace VX := tuck (VX.out.below hb)
    replace HB := tuck (bAfter HB.out hb)
    clear hb HNVW
    generalize u52.alloc (.cells #[.int .i64 X.kind, .int .i64 X.num, .slice aVW X.kids.length cVW] 25) = U52 at *
    generalize u52.heap.size = gVW at *
    refine (HTS.out _ _ _ VX.out.tm VW.out.tm).mono ?_
    rintro e u53 ⟨rfl, hb⟩
    replace V := tuck (V.out.below hb)
    replace VX := tuck (VX.out.below hb)
    replace VW := tuck (VW.out.below hb)
    replace HB := tuck (bAfter HB.out hb)
    clear hb
    obtain ⟨zV, c0V, c1V, c2V, cfV⟩ := V.out.facts
    obtain ⟨zVX, c0VX, c1VX, c2VX, cfVX⟩ := VX.out.facts
    obtain ⟨zVW, c0VW, c1VW, c2VW, cfVW⟩ := VW.out.facts
    go_wp2_with fail
    refine (HTS.out _ _ _ VX.out.tm VW.out.tm).mono ?_
    rintro e u54 ⟨rfl, hb⟩
    clear zV c0V c1V c2V cfV zVX c0VX c1VX c2VX cfVX zVW c0VW c1VW c2VW cfVW
    replace V := tuck (V.out.below hb)
    replace VX := tuck (VX.out.below hb)
    replace VW := tuck (VW.out.below hb)
    replace HB := tuck (bAfter HB.out hb)
    clear hb
    obtain ⟨zV, c0V, c1V, c2V, cfV⟩ := V.out.facts
    obtain ⟨zVX, c0VX, c1VX, c2VX, cfVX⟩ := VX.out.facts
    obtain ⟨zVW, c0VW, c1VW, c2VW, cfVW⟩ := VW.out.facts
    go_wp2_with fail
    go_ret
    exact ⟨rfl, HB.out⟩
  obtain ⟨X, hX⟩ : ∃ X, X = T.shift x y0 := ⟨_, rfl⟩
  have HIM : Hid (∀ (w : World) (v : Value), TmIn w 0 T v → Calls Try.prog 16 #[v, .int .i64 x, .int .i64 y0] w (PairPost w X true)) := fun w v h => by
    have h2 := shiftI_p T x y0 w v h
    rwa [orZero_yes hP, tr_of hP, ← hX] at h2
  have HSP : Hid (∀ (w : World) (v : Value), TmIn w 0 T v → Calls Try.prog 17 #[v, .int .i64 x, .int .i64 y0] w (PairPost w X true)) := fun w v h => by
    have h2 := shiftS_p T x y0 w v h
    rwa [orZero_yes hP, tr_of hP, ← hX] at h2
  have hXV : X.Valid := hX ▸ hP.2.2.2.2.2.2
  have hTV : T.Valid := hP.1
  have HTS : Hid (∀ (w : World) (v1 v2 : Value), TmIn w 0 X v1 → TmIn w 0 X v2 → Calls Try.prog 18 #[v1, v2] w (BoolPost w true)) := same_v hXV
  have hx20 : -20 ≤ x ∧ x ≤ 20 := ⟨hP.2.1, hP.2.2.1⟩
  have HXV : Hid X.Valid := tuck hXV
  have HTV : Hid T.Valid := tuck hTV
  have HP : Hid (ShiftOk T x y0) := tuck hP
  have HX : Hid (X = T.shift x y0) := tuck hX
  clear hX hP hXV hTV
  refine (HIM.out _ _ V.out.tm).mono ?_
  rintro e u1 ⟨hb, vv, rfl, ss, rfl, hin⟩
  obtain ⟨aVX, cVX, rfl⟩ := hin.form
  replace V := tuck (V.out.below hb)
  replace HB := tuck (bAfter HB.out hb)
  have HNVX := tuck hin
  clear hb hin
  obtain ⟨zV, c0V, c1V, c2V, cfV⟩ := V.out.facts
  go_wp2_with fail
  clear zV c0V c1V c2V cfV
  have VX := tuck (TV.new HNVX.out)
  have hb := below1 u1 (.cells #[.int .i64 X.kind, .int .i64 X.num, .slice aVX X.kids.length cVX] 25)
  replace V := tuck (V.out.below hb)
  replace HB := tuck (bAfter HB.out hb)
  clear hb HNVX
  generalize u1.alloc (.cells #[.int .i64 X.kind, .int .i64 X.num, .slice aVX X.kids.length cVX] 25) = U1 at *
  generalize u1.heap.size = gVX at *
  refine (HSP.out _ _ V.out.tm).mono ?_
  rintro e u2 ⟨hb, vv, rfl, ss, rfl, hin⟩
  obtain ⟨aVW, cVW, rfl⟩ := hin.form
  replace V := tuck (V.out.below hb)
  replace VX := tuck (VX.out.below hb)
  replace HB := tuck (bAfter HB.out hb)
  have HNVW := tuck hin
  clear hb hin
  obtain ⟨zV, c0V, c1V, c2V, cfV⟩ := V.out.facts
  obtain ⟨zVX, c0VX, c1VX, c2VX, cfVX⟩ := VX.out.facts
  go_wp2_with fail
  clear zV c0V c1V c2V cfV zVX c0VX c1VX c2VX cfVX
  have VW := tuck (TV.new HNVW.out)
  have hb := below1 u2 (.cells #[.int .i64 X.kind, .int .i64 X.num, .slice aVW X.kids.length cVW] 25)
  replace V := tuck (V.out.below hb)
  replace VX := tuck (VX.out.below hb)
  replace HB := tuck (bAfter HB.out hb)
  clear hb HNVW
  generalize u2.alloc (.cells #[.int .i64 X.kind, .int .i64 X.num, .slice aVW X.kids.length cVW] 25) = U2 at *
  generalize u2.heap.size = gVW at *
  refine (HTS.out _ _ _ VX.out.tm VW.out.tm).mono ?_
  rintro e u3 ⟨rfl, hb⟩
  replace V := tuck (V.out.below hb)
  replace VX := tuck (VX.out.below hb)
  replace VW := tuck (VW.out.below hb)
  replace HB := tuck (bAfter HB.out hb)
  clear hb
  obtain ⟨n, hn, hn2⟩ : ∃ n : Nat, (len2 : Int) % 3 = n ∧ n ≤ 2 := ⟨((len2 : Int) % 3).toNat, by omega, by omega⟩
  have H1 := tuck (fun w v h => shiftI_p X (-x) y0 w v h)
  generalize hY : orZero (ShiftOk X (-x) y0) (X.shift (-x) y0) = Y at H1
  generalize hp : tr (ShiftOk X (-x) y0) = p at H1
  have H2 := tuck (fun w v h => shiftI_p X n y0 w v h)
  generalize hZ : orZero (ShiftOk X n y0) (X.shift n y0) = Z at H2
  generalize hq : tr (ShiftOk X n y0) = q at H2
  have H3 := tuck (fun w v h => shiftI_p T (x + n) y0 w v h)
  generalize hU : orZero (ShiftOk T (x + n) y0) (T.shift (x + n) y0) = R at H3
  generalize hr : tr (ShiftOk T (x + n) y0) = r at H3
  have hback : X.shift (-x) y0 = T := by
    rw [HX.out, Tm.shift_shift x (-x) T y0 HP.out.2.2.2.2.2.1, show x + -x = 0 by omega, Tm.shift_zero]
  have hkb : X.keeps (-x) y0 := HX.out ▸ Tm.keeps_back x T y0 HP.out.2.2.2.2.2.1
  have hok : ShiftOk X (-x) y0 := ⟨HXV.out, by omega, by omega, HP.out.2.2.2.1, HP.out.2.2.2.2.1, hkb, hback ▸ HTV.out⟩
  have hYT : Y = T := by rw [← hY, orZero_yes hok, hback]
  have hpt : p = true := by rw [← hp, tr_of hok]
  have HF : Hid (q = true → r = true → Z = R ∧ R.Valid) := tuck (by
    rintro rfl rfl
    have q1 := tr_iff.1 hq
    have q2 := tr_iff.1 hr
    rw [orZero_yes q1] at hZ
    rw [orZero_yes q2] at hU
    refine ⟨?_, hU ▸ q2.2.2.2.2.2.2⟩
    rw [← hZ, ← hU, HX.out, Tm.shift_shift x n T y0 HP.out.2.2.2.2.2.1])
  clear hY hp hZ hq hU hr hback hkb hok
  subst hYT hpt
  have HTT : Hid (∀ (w : World) (v1 v2 : Value), TmIn w 0 Y v1 → TmIn w 0 Y v2 → Calls Try.prog 18 #[v1, v2] w (BoolPost w true)) := same_v HTV.out
  clear HP HX HXV HTS HIM HSP HTV
  clear VW
  obtain ⟨zV, c0V, c1V, c2V, cfV⟩ := V.out.facts
  obtain ⟨zVX, c0VX, c1VX, c2VX, cfVX⟩ := VX.out.facts
  go_wp2_with fail
  refine (H1.out _ _ VX.out.tm).mono ?_
  rintro e u4 ⟨hb, vv, rfl, ss, rfl, hin⟩
  obtain ⟨aVY, cVY, rfl⟩ := hin.form
  clear zV c0V c1V c2V cfV zVX c0VX c1VX c2VX cfVX
  replace V := tuck (V.out.below hb)
  replace VX := tuck (VX.out.below hb)
  replace HB := tuck (bAfter HB.out hb)
  have HNVY := tuck hin
  clear hb hin
  obtain ⟨zV, c0V, c1V, c2V, cfV⟩ := V.out.facts
  obtain ⟨zVX, c0VX, c1VX, c2VX, cfVX⟩ := VX.out.facts
  go_wp2_with fail
  clear zV c0V c1V c2V cfV zVX c0VX c1VX c2VX cfVX
  have VY := tuck (TV.new HNVY.out)
  have hb := below1 u4 (.cells #[.int .i64 Y.kind, .int .i64 Y.num, .slice aVY Y.kids.length cVY] 25)
  replace V := tuck (V.out.below hb)
  replace VX := tuck (VX.out.below hb)
  replace HB := tuck (bAfter HB.out hb)
  clear hb HNVY
  generalize u4.alloc (.cells #[.int .i64 Y.kind, .int .i64 Y.num, .slice aVY Y.kids.length cVY] 25) = U4 at *
  generalize u4.heap.size = gVY at *
  rw [hn]
  refine (H2.out _ _ VX.out.tm).mono ?_
  rintro e u5 ⟨hb, vv, rfl, ss, rfl, hin⟩
  obtain ⟨aVZ, cVZ, rfl⟩ := hin.form
  replace V := tuck (V.out.below hb)
  replace VX := tuck (VX.out.below hb)
  replace VY := tuck (VY.out.below hb)
  replace HB := tuck (bAfter HB.out hb)
  have HNVZ := tuck hin
  clear hb hin
  obtain ⟨zV, c0V, c1V, c2V, cfV⟩ := V.out.facts
  obtain ⟨zVX, c0VX, c1VX, c2VX, cfVX⟩ := VX.out.facts
  obtain ⟨zVY, c0VY, c1VY, c2VY, cfVY⟩ := VY.out.facts
  go_wp2_with fail
  clear zV c0V c1V c2V cfV zVX c0VX c1VX c2VX cfVX zVY c0VY c1VY c2VY cfVY
  have VZ := tuck (TV.new HNVZ.out)
  have hb := below1 u5 (.cells #[.int .i64 Z.kind, .int .i64 Z.num, .slice aVZ Z.kids.length cVZ] 25)
  replace V := tuck (V.out.below hb)
  replace VX := tuck (VX.out.below hb)
  replace VY := tuck (VY.out.below hb)
  replace HB := tuck (bAfter HB.out hb)
  clear hb HNVZ
  generalize u5.alloc (.cells #[.int .i64 Z.kind, .int .i64 Z.num, .slice aVZ Z.kids.length cVZ] 25) = U5 at *
  generalize u5.heap.size = gVZ at *
  refine (H3.out _ _ V.out.tm).mono ?_
  rintro e u6 ⟨hb, vv, rfl, ss, rfl, hin⟩
  obtain ⟨aVR, cVR, rfl⟩ := hin.form
  replace V := tuck (V.out.below hb)
  replace VY := tuck (VY.out.below hb)
  replace VZ := tuck (VZ.out.below hb)
  replace HB := tuck (bAfter HB.out hb)
  have HNR := tuck hin
  clear hb hin VX H1 H2 H3
  cases q
  · by_cases hx0n : x < 0
    · have hx0d : decide (x < 0) = true := by simp; omega
      obtain ⟨zV, c0V, c1V, c2V, cfV⟩ := V.out.facts
      obtain ⟨zVY, c0VY, c1VY, c2VY, cfVY⟩ := VY.out.facts
      obtain ⟨zVZ, c0VZ, c1VZ, c2VZ, cfVZ⟩ := VZ.out.facts
      go_wp2_with fail
      clear zV c0V c1V c2V cfV zVY c0VY c1VY c2VY cfVY zVZ c0VZ c1VZ c2VZ cfVZ
      refine (HTT.out _ _ _ ⟨_, rfl, VY.out.sl.below (below1 _ _)⟩ ⟨_, rfl, V.out.sl.below (below1 _ _)⟩).mono ?_
      rintro e v1 ⟨rfl, hb⟩
      replace V := tuck (V.out.below (bAfter (below1 _ _) hb))
      replace VY := tuck (VY.out.below (bAfter (below1 _ _) hb))
      replace VZ := tuck (VZ.out.below (bAfter (below1 _ _) hb))
      have HN2 := tuck (HNR.out.below (bAfter (below1 _ _) hb))
      have VR := tuck ((TV.new HNR.out).below hb)
      replace HB := tuck (bAfter HB.out (bAfter (below1 _ _) hb))
      clear hb
      obtain ⟨zV, c0V, c1V, c2V, cfV⟩ := V.out.facts
      obtain ⟨zVY, c0VY, c1VY, c2VY, cfVY⟩ := VY.out.facts
      obtain ⟨zVZ, c0VZ, c1VZ, c2VZ, cfVZ⟩ := VZ.out.facts
      obtain ⟨zVR, c0VR, c1VR, c2VR, cfVR⟩ := VR.out.facts
      go_wp2_with fail
      clear zV c0V c1V c2V cfV zVY c0VY c1VY c2VY cfVY zVZ c0VZ c1VZ c2VZ cfVZ zVR c0VR c1VR c2VR cfVR
      go_ret
      exact ⟨rfl, HB.out⟩
    · have hx0d : decide (x < 0) = false := by simp; omega
      obtain ⟨zV, c0V, c1V, c2V, cfV⟩ := V.out.facts
      obtain ⟨zVY, c0VY, c1VY, c2VY, cfVY⟩ := VY.out.facts
      obtain ⟨zVZ, c0VZ, c1VZ, c2VZ, cfVZ⟩ := VZ.out.facts
      go_wp2_with fail
      clear zV c0V c1V c2V cfV zVY c0VY c1VY c2VY cfVY zVZ c0VZ c1VZ c2VZ cfVZ
      refine (HTT.out _ _ _ ⟨_, rfl, VY.out.sl.below (below1 _ _)⟩ ⟨_, rfl, V.out.sl.below (below1 _ _)⟩).mono ?_
      rintro e v1 ⟨rfl, hb⟩
      replace V := tuck (V.out.below (bAfter (below1 _ _) hb))
      replace VY := tuck (VY.out.below (bAfter (below1 _ _) hb))
      replace VZ := tuck (VZ.out.below (bAfter (below1 _ _) hb))
      have HN2 := tuck (HNR.out.below (bAfter (below1 _ _) hb))
      have VR := tuck ((TV.new HNR.out).below hb)
      replace HB := tuck (bAfter HB.out (bAfter (below1 _ _) hb))
      clear hb
      obtain ⟨zV, c0V, c1V, c2V, cfV⟩ := V.out.facts
      obtain ⟨zVY, c0VY, c1VY, c2VY, cfVY⟩ := VY.out.facts
      obtain ⟨zVZ, c0VZ, c1VZ, c2VZ, cfVZ⟩ := VZ.out.facts
      obtain ⟨zVR, c0VR, c1VR, c2VR, cfVR⟩ := VR.out.facts
      go_wp2_with fail
      clear zV c0V c1V c2V cfV zVY c0VY c1VY c2VY cfVY zVZ c0VZ c1VZ c2VZ cfVZ zVR c0VR c1VR c2VR cfVR
      refine (HTT.out _ _ _ VY.out.tm V.out.tm).mono ?_
      rintro e v2 ⟨rfl, hb⟩
      replace V := tuck (V.out.below hb)
      replace VY := tuck (VY.out.below hb)
      replace VZ := tuck (VZ.out.below hb)
      replace VR := tuck (VR.out.below hb)
      replace HB := tuck (bAfter HB.out hb)
      clear hb
      obtain ⟨zV, c0V, c1V, c2V, cfV⟩ := V.out.facts
      obtain ⟨zVY, c0VY, c1VY, c2VY, cfVY⟩ := VY.out.facts
      obtain ⟨zVZ, c0VZ, c1VZ, c2VZ, cfVZ⟩ := VZ.out.facts
      obtain ⟨zVR, c0VR, c1VR, c2VR, cfVR⟩ := VR.out.facts
      go_wp2_with fail
      go_ret
      exact ⟨rfl, HB.out⟩
  cases r
  · by_cases hx0n : x < 0
    · have hx0d : decide (x < 0) = true := by simp; omega
      obtain ⟨zV, c0V, c1V, c2V, cfV⟩ := V.out.facts
      obtain ⟨zVY, c0VY, c1VY, c2VY, cfVY⟩ := VY.out.facts
      obtain ⟨zVZ, c0VZ, c1VZ, c2VZ, cfVZ⟩ := VZ.out.facts
      go_wp2_with fail
      clear zV c0V c1V c2V cfV zVY c0VY c1VY c2VY cfVY zVZ c0VZ c1VZ c2VZ cfVZ
      refine (HTT.out _ _ _ ⟨_, rfl, VY.out.sl.below (below1 _ _)⟩ ⟨_, rfl, V.out.sl.below (below1 _ _)⟩).mono ?_
      rintro e v1 ⟨rfl, hb⟩
      replace V := tuck (V.out.below (bAfter (below1 _ _) hb))
      replace VY := tuck (VY.out.below (bAfter (below1 _ _) hb))
      replace VZ := tuck (VZ.out.below (bAfter (below1 _ _) hb))
      have HN2 := tuck (HNR.out.below (bAfter (below1 _ _) hb))
      have VR := tuck ((TV.new HNR.out).below hb)
      replace HB := tuck (bAfter HB.out (bAfter (below1 _ _) hb))
      clear hb
      obtain ⟨zV, c0V, c1V, c2V, cfV⟩ := V.out.facts
      obtain ⟨zVY, c0VY, c1VY, c2VY, cfVY⟩ := VY.out.facts
      obtain ⟨zVZ, c0VZ, c1VZ, c2VZ, cfVZ⟩ := VZ.out.facts
      obtain ⟨zVR, c0VR, c1VR, c2VR, cfVR⟩ := VR.out.facts
      go_wp2_with fail
      clear zV c0V c1V c2V cfV zVY c0VY c1VY c2VY cfVY zVZ c0VZ c1VZ c2VZ cfVZ zVR c0VR c1VR c2VR cfVR
      go_ret
      exact ⟨rfl, HB.out⟩
    · have hx0d : decide (x < 0) = false := by simp; omega
      obtain ⟨zV, c0V, c1V, c2V, cfV⟩ := V.out.facts
      obtain ⟨zVY, c0VY, c1VY, c2VY, cfVY⟩ := VY.out.facts
      obtain ⟨zVZ, c0VZ, c1VZ, c2VZ, cfVZ⟩ := VZ.out.facts
      go_wp2_with fail
      clear zV c0V c1V c2V cfV zVY c0VY c1VY c2VY cfVY zVZ c0VZ c1VZ c2VZ cfVZ
      refine (HTT.out _ _ _ ⟨_, rfl, VY.out.sl.below (below1 _ _)⟩ ⟨_, rfl, V.out.sl.below (below1 _ _)⟩).mono ?_
      rintro e v1 ⟨rfl, hb⟩
      replace V := tuck (V.out.below (bAfter (below1 _ _) hb))
      replace VY := tuck (VY.out.below (bAfter (below1 _ _) hb))
      replace VZ := tuck (VZ.out.below (bAfter (below1 _ _) hb))
      have HN2 := tuck (HNR.out.below (bAfter (below1 _ _) hb))
      have VR := tuck ((TV.new HNR.out).below hb)
      replace HB := tuck (bAfter HB.out (bAfter (below1 _ _) hb))
      clear hb
      obtain ⟨zV, c0V, c1V, c2V, cfV⟩ := V.out.facts
      obtain ⟨zVY, c0VY, c1VY, c2VY, cfVY⟩ := VY.out.facts
      obtain ⟨zVZ, c0VZ, c1VZ, c2VZ, cfVZ⟩ := VZ.out.facts
      obtain ⟨zVR, c0VR, c1VR, c2VR, cfVR⟩ := VR.out.facts
      go_wp2_with fail
      clear zV c0V c1V c2V cfV zVY c0VY c1VY c2VY cfVY zVZ c0VZ c1VZ c2VZ cfVZ zVR c0VR c1VR c2VR cfVR
      refine (HTT.out _ _ _ VY.out.tm V.out.tm).mono ?_
      rintro e v2 ⟨rfl, hb⟩
      replace V := tuck (V.out.below hb)
      replace VY := tuck (VY.out.below hb)
      replace VZ := tuck (VZ.out.below hb)
      replace VR := tuck (VR.out.below hb)
      replace HB := tuck (bAfter HB.out hb)
      clear hb
      obtain ⟨zV, c0V, c1V, c2V, cfV⟩ := V.out.facts
      obtain ⟨zVY, c0VY, c1VY, c2VY, cfVY⟩ := VY.out.facts
      obtain ⟨zVZ, c0VZ, c1VZ, c2VZ, cfVZ⟩ := VZ.out.facts
      obtain ⟨zVR, c0VR, c1VR, c2VR, cfVR⟩ := VR.out.facts
      go_wp2_with fail
      go_ret
      exact ⟨rfl, HB.out⟩
  obtain ⟨hZR, hRV⟩ := HF.out rfl rfl
  subst hZR
  have HRR : Hid (∀ (w : World) (v1 v2 : Value), TmIn w 0 Z v1 → TmIn w 0 Z v2 → Calls Try.prog 18 #[v1, v2] w (BoolPost w true)) := same_v hRV
  clear hRV HF
  by_cases hx0n : x < 0
  · have hx0d : decide (x < 0) = true := by simp; omega
    obtain ⟨zV, c0V, c1V, c2V, cfV⟩ := V.out.facts
    obtain ⟨zVY, c0VY, c1VY, c2VY, cfVY⟩ := VY.out.facts
    obtain ⟨zVZ, c0VZ, c1VZ, c2VZ, cfVZ⟩ := VZ.out.facts
    go_wp2_with fail
    clear zV c0V c1V c2V cfV zVY c0VY c1VY c2VY cfVY zVZ c0VZ c1VZ c2VZ cfVZ
    refine (HTT.out _ _ _ ⟨_, rfl, VY.out.sl.below (below1 _ _)⟩ ⟨_, rfl, V.out.sl.below (below1 _ _)⟩).mono ?_
    rintro e v1 ⟨rfl, hb⟩
    replace V := tuck (V.out.below (bAfter (below1 _ _) hb))
    replace VY := tuck (VY.out.below (bAfter (below1 _ _) hb))
    replace VZ := tuck (VZ.out.below (bAfter (below1 _ _) hb))
    have HN2 := tuck (HNR.out.below (bAfter (below1 _ _) hb))
    have VR := tuck ((TV.new HNR.out).below hb)
    replace HB := tuck (bAfter HB.out (bAfter (below1 _ _) hb))
    clear hb
    obtain ⟨zV, c0V, c1V, c2V, cfV⟩ := V.out.facts
    obtain ⟨zVY, c0VY, c1VY, c2VY, cfVY⟩ := VY.out.facts
    obtain ⟨zVZ, c0VZ, c1VZ, c2VZ, cfVZ⟩ := VZ.out.facts
    obtain ⟨zVR, c0VR, c1VR, c2VR, cfVR⟩ := VR.out.facts
    go_wp2_with fail
    clear zV c0V c1V c2V cfV zVY c0VY c1VY c2VY cfVY zVZ c0VZ c1VZ c2VZ cfVZ zVR c0VR c1VR c2VR cfVR
    refine (HRR.out _ _ _ VZ.out.tm VR.out.tm).mono ?_
    rintro e v3 ⟨rfl, hb⟩
    replace V := tuck (V.out.below hb)
    replace VY := tuck (VY.out.below hb)
    replace VZ := tuck (VZ.out.below hb)
    replace VR := tuck (VR.out.below hb)
    replace HB := tuck (bAfter HB.out hb)
    clear hb
    obtain ⟨zV, c0V, c1V, c2V, cfV⟩ := V.out.facts
    obtain ⟨zVY, c0VY, c1VY, c2VY, cfVY⟩ := VY.out.facts
    obtain ⟨zVZ, c0VZ, c1VZ, c2VZ, cfVZ⟩ := VZ.out.facts
    obtain ⟨zVR, c0VR, c1VR, c2VR, cfVR⟩ := VR.out.facts
    go_wp2_with fail
    go_ret
    exact ⟨rfl, HB.out⟩
  · have hx0d : decide (x < 0) = false := by simp; omega
    obtain ⟨zV, c0V, c1V, c2V, cfV⟩ := V.out.facts
    obtain ⟨zVY, c0VY, c1VY, c2VY, cfVY⟩ := VY.out.facts
    obtain ⟨zVZ, c0VZ, c1VZ, c2VZ, cfVZ⟩ := VZ.out.facts
    go_wp2_with fail
    clear zV c0V c1V c2V cfV zVY c0VY c1VY c2VY cfVY zVZ c0VZ c1VZ c2VZ cfVZ
    refine (HTT.out _ _ _ ⟨_, rfl, VY.out.sl.below (below1 _ _)⟩ ⟨_, rfl, V.out.sl.below (below1 _ _)⟩).mono ?_
    rintro e v1 ⟨rfl, hb⟩
    replace V := tuck (V.out.below (bAfter (below1 _ _) hb))
    replace VY := tuck (VY.out.below (bAfter (below1 _ _) hb))
    replace VZ := tuck (VZ.out.below (bAfter (below1 _ _) hb))
    have HN2 := tuck (HNR.out.below (bAfter (below1 _ _) hb))
    have VR := tuck ((TV.new HNR.out).below hb)
    replace HB := tuck (bAfter HB.out (bAfter (below1 _ _) hb))
    clear hb
    obtain ⟨zV, c0V, c1V, c2V, cfV⟩ := V.out.facts
    obtain ⟨zVY, c0VY, c1VY, c2VY, cfVY⟩ := VY.out.facts
    obtain ⟨zVZ, c0VZ, c1VZ, c2VZ, cfVZ⟩ := VZ.out.facts
    obtain ⟨zVR, c0VR, c1VR, c2VR, cfVR⟩ := VR.out.facts
    go_wp2_with fail
    clear zV c0V c1V c2V cfV zVY c0VY c1VY c2VY cfVY zVZ c0VZ c1VZ c2VZ cfVZ zVR c0VR c1VR c2VR cfVR
    refine (HTT.out _ _ _ VY.out.tm V.out.tm).mono ?_
    rintro e v2 ⟨rfl, hb⟩
    replace V := tuck (V.out.below hb)
    replace VY := tuck (VY.out.below hb)
    replace VZ := tuck (VZ.out.below hb)
    replace VR := tuck (VR.out.below hb)
    replace HB := tuck (bAfter HB.out hb)
    clear hb
    obtain ⟨zV, c0V, c1V, c2V, cfV⟩ := V.out.facts
    obtain ⟨zVY, c0VY, c1VY, c2VY, cfVY⟩ := VY.out.facts
    obtain ⟨zVZ, c0VZ, c1VZ, c2VZ, cfVZ⟩ := VZ.out.facts
    obtain ⟨zVR, c0VR, c1VR, c2VR, cfVR⟩ := VR.out.facts
    go_wp2_with fail
    refine (HRR.out _ _ _ VZ.out.tm VR.out.tm).mono ?_
    rintro e v3 ⟨rfl, hb⟩
    clear zV c0V c1V c2V cfV zVY c0VY c1VY c2VY cfVY zVZ c0VZ c1VZ c2VZ cfVZ zVR c0VR c1VR c2VR cfVR
    replace V := tuck (V.out.below hb)
    replace VY := tuck (VY.out.below hb)
    replace VZ := tuck (VZ.out.below hb)
    replace VR := tuck (VR.out.below hb)
    replace HB := tuck (bAfter HB.out hb)
    clear hb
    obtain ⟨zV, c0V, c1V, c2V, cfV⟩ := V.out.facts
    obtain ⟨zVY, c0VY, c1VY, c2VY, cfVY⟩ := VY.out.facts
    obtain ⟨zVZ, c0VZ, c1VZ, c2VZ, cfVZ⟩ := VZ.out.facts
    obtain ⟨zVR, c0VR, c1VR, c2VR, cfVR⟩ := VR.out.facts
    go_wp2_with fail
    go_ret
    exact ⟨rfl, HB.out⟩

set_option maxRecDepth 100000 in
theorem lifted (os : Os) (started : os.Started) (H : Type) (enc : TypeId × Value → H) :
    ReturnsInHanded {} Try.checked os 3 .any (Rows.fnShiftBackSpec.pre6 enc Try.prog Try.f3 Rows.fnShiftBackRow.domain false) (Rows.fnShiftBackSpec.post enc Try.prog Try.f3 false true false false) := by
  refine returnsInHanded_of_change (C := Try.checked) own started (by kernel_rfl) Try.func3
    (ChangeSpec.witness6 (enc := enc) (C := Try.checked) false ⟨#[], #[.slice none 0 0, .slice none 0 0], []⟩ 8 (by kernel_rfl) (by kernel_rfl) (by kernel_rfl) (by kernel_rfl)) ?_
  intro W base args ds gs before hval0 hW hcnd _
  have hval : ∀ (j : Nat) t v, Try.f3.params[j]? = some t → args[j]? = some v → Value.okWide Try.prog W .any base t v := hval0
  have hW' := hW
  obtain ⟨p, q, hA0, hV, rfl, hfz, hnd⟩ := hW
  have hA : DataW.TrodAll enc Try.prog W 0 (fun _ => true) true Try.f3.params.toList args.toList ds p := hA0
  rw [Try.params3] at hA hval
  obtain ⟨v0, vs0, d0, ds0, p0, q0, hargs, rfl, rfl, h0, r0⟩ := trodAll_cons hA
  obtain ⟨v1, vs1, d1, ds1, p1, q1, rfl, rfl, rfl, h1, r1⟩ := trodAll_cons r0
  obtain ⟨rfl, rfl, rfl⟩ := trodAll_nil r1
  obtain rfl : args = #[v0, v1] := by cases args; simp_all
  obtain ⟨U0, ad0, bb0, oo0, len0, cap0, rfl, hlc0, hcm0, hbl0, hby0⟩ := open_bytes (hval 0 22 v0 rfl rfl) h0
  obtain ⟨U1, ad1, bb1, oo1, len1, cap1, rfl, hlc1, hcm1, hbl1, hby1⟩ := open_bytes (hval 1 22 v1 rfl rfl) h1
  refine (walk U0 ad0 bb0 oo0 len0 cap0 W hlc0 hcm0 hby0 U1 ad1 bb1 oo1 len1 cap1 hlc1 hcm1 hby1).mono fun e W' ⟨he, hb⟩ => ?_
  subst he
  exact ⟨_, rfl, law_post rfl rfl (fun gs h => by subst h; rfl) (by rw [Try.params3]; exact readable_FnShiftBack) laid hW' hb⟩

theorem over : Rows.fnShiftBackRow.holds Try.pinned (OpenSpec.ofChange Rows.fnShiftBackSpec) :=
  OpenClaim.holds_of_wide 3 Try.f3 rfl rfl rfl rfl rfl rfl rfl ⟨rfl, rfl, rfl, rfl, rfl⟩ rfl rfl rfl rfl rfl (by kernel_rfl) Try.func3 (by kernel_rfl)
    (of_decide_eq_true (by kernel_rfl)) (by unfold Func.isWrapper; first | (rw [if_pos (by decide +kernel)]; kernel_rfl) | (rw [if_neg (by decide +kernel)]; exact ⟨rfl, rfl⟩))
    (fun os started H enc _ => lifted os started H enc)

theorem proved : Rows.FnShiftBackSaid :=
  over
end Go.Proofs.Ytmihfbopahoejaa.fnShiftBack
