/-
  The law FnSubstFree: whatever the bytes, a substitution replaces exactly the variable.
-/
import Derived.Test.YtmihfbopahoejaaDrawsC
import Derived.Test.YtmihfbopahoejaaVarsS
import Derived.Test.YtmihfbopahoejaaFree
import Derived.Test.YtmihfbopahoejaaLawT
import Derived.Test.YtmihfbopahoejaaTwo
import Derived.IntWalk
namespace Go.Proofs.Ytmihfbopahoejaa.fnSubstFree
open Go.ChangeShapes Go.WideShapes Go.ChangeAt Go.RowKit Go.Deep
set_option linter.unusedVariables false

theorem readable_FnSubstFree : ∀ t ∈ (#[22] : Array TypeId).toList, Try.prog.readableRec t = true ∧ t < Try.prog.types.size := by
  intro t ht
  simp at ht
  subst ht
  exact ⟨by kernel_rfl, of_decide_eq_true (by kernel_rfl)⟩
theorem laid : laidOutB Try.prog = true := by kernel_rfl

set_option maxRecDepth 100000 in
set_option maxHeartbeats 1600000 in
theorem walk (U : Nat → Int) (a : Option Addr) (b o len cap : Nat) (w : World) (hlc : len ≤ cap) (hcm : cap ≤ maxLen) (hby : Bytes U a b o len w) : Calls Try.prog 6 #[.slice a len cap] w fun e w' => e = .returned (.bool true) ∧ Below w.heap.size w w' := by
  unfold maxLen at hcm
  by_cases hl : 1048576 < len
  · have hl' : (1048576 : Int) < (len : Int) := by omega
    clear hby
    go_enter Try.func6, Try.ntmps6
    go_wp2
    go_ret
    exact ⟨rfl, Below.refl _ _⟩
  have hl' : ¬ (1048576 : Int) < (len : Int) := by omega
  have HD := tuck (dSubstTerm_any w (by omega) hlc hby)

  clear hby
  go_enter Try.func6, Try.ntmps6
  go_wp2_with fail
  refine HD.out.mono ?_
  rintro e w1 ⟨T, v, x, S, u, rfl, ⟨s, rfl, hin⟩, ⟨s2, rfl, hin2⟩, hsz, hsz2, hx0, hx1, hb⟩
  obtain ⟨aV, cV, rfl⟩ := hin.form
  obtain ⟨aVU, cVU, rfl⟩ := hin2.form
  have hs1 : (w1.alloc (.cells #[.int .i64 T.kind, .int .i64 T.num, .slice aV T.kids.length cV] 25)).heap.size = w1.heap.size + 1 := by simp
  have V := tuck ((TV.new (hin.mono (Nat.zero_le _))).below (below1 (w1.alloc (.cells #[.int .i64 T.kind, .int .i64 T.num, .slice aV T.kids.length cV] 25)) (.cells #[.int .i64 S.kind, .int .i64 S.num, .slice aVU S.kids.length cVU] 25)))
  have hvu := TV.new ((hin2.mono (Nat.zero_le _)).below (below1 w1 (.cells #[.int .i64 T.kind, .int .i64 T.num, .slice aV T.kids.length cV] 25)))
  rw [hs1] at hvu
  have VU := tuck hvu
  have HB := tuck (bAfter hb (below2 w1 (.cells #[.int .i64 T.kind, .int .i64 T.num, .slice aV T.kids.length cV] 25) (.cells #[.int .i64 S.kind, .int .i64 S.num, .slice aVU S.kids.length cVU] 25)))

  clear hin hin2 hb HD hvu
  go_wp2_with fail
  generalize (w1.alloc (.cells #[.int .i64 T.kind, .int .i64 T.num, .slice aV T.kids.length cV] 25)).alloc (.cells #[.int .i64 S.kind, .int .i64 S.num, .slice aVU S.kids.length cVU] 25) = U0 at *
  generalize w1.heap.size + 1 = gVU at *
  generalize w1.heap.size = gV at *
  by_cases hP : SubstOk T x S
  rotate_left
  · obtain ⟨X, hX⟩ : ∃ X, X = zeroT := ⟨_, rfl⟩
    have HIM : Hid (∀ (w : World) (v v' : Value), TmIn w 0 T v → TmIn w 0 S v' → Calls Try.prog 22 #[v, .int .i64 x, v'] w (PairPost w X false)) := fun w v v' h h' => by
      have h2 := substI_p T S x w v v' h h'
      rwa [orZero_no hP, tr_not hP, ← hX] at h2
    have HSP : Hid (∀ (w : World) (v v' : Value), TmIn w 0 T v → TmIn w 0 S v' → Calls Try.prog 23 #[v, .int .i64 x, v'] w (PairPost w X false)) := fun w v v' h h' => by
      have h2 := substS_p T S x w v v' h h'
      rwa [orZero_no hP, tr_not hP, ← hX] at h2
    have HTS : Hid (∀ (w : World) (v1 v2 : Value), TmIn w 0 X v1 → TmIn w 0 X v2 → Calls Try.prog 18 #[v1, v2] w (BoolPost w true)) := fun w v1 v2 h1 h2 => by rw [hX] at h1 h2; exact same_z w v1 v2 h1 h2
    clear hX hP
    refine (HIM.out _ _ _ V.out.tm VU.out.tm).mono ?_
    rintro e u51 ⟨hb, vv, rfl, ss, rfl, hin⟩
    obtain ⟨aVX, cVX, rfl⟩ := hin.form
    replace V := tuck (V.out.below hb)
    replace VU := tuck (VU.out.below hb)
    replace HB := tuck (bAfter HB.out hb)
    have HNVX := tuck hin
    clear hb hin
    obtain ⟨zV, c0V, c1V, c2V, cfV⟩ := V.out.facts
    obtain ⟨zVU, c0VU, c1VU, c2VU, cfVU⟩ := VU.out.facts
    go_wp2_with fail
    clear zV c0V c1V c2V cfV zVU c0VU c1VU c2VU cfVU
    have VX := tuck (TV.new HNVX.out)
    have hb := below1 u51 (.cells #[.int .i64 X.kind, .int .i64 X.num, .slice aVX X.kids.length cVX] 25)
    replace V := tuck (V.out.below hb)
    replace VU := tuck (VU.out.below hb)
    replace HB := tuck (bAfter HB.out hb)
    clear hb HNVX
    generalize u51.alloc (.cells #[.int .i64 X.kind, .int .i64 X.num, .slice aVX X.kids.length cVX] 25) = U51 at *
    generalize u51.heap.size = gVX at *
    refine (HSP.out _ _ _ V.out.tm VU.out.tm).mono ?_
    rintro e u52 ⟨hb, vv, rfl, ss, rfl, hin⟩
    obtain ⟨aVW, cVW, rfl⟩ := hin.form
    replace V := tuck (V.out.below hb)
    replace VU := tuck (VU.out.below hb)
    replace VX := tuck (VX.out.below hb)
    replace HB := tuck (bAfter HB.out hb)
    have HNVW := tuck hin
    clear hb hin
    obtain ⟨zV, c0V, c1V, c2V, cfV⟩ := V.out.facts
    obtain ⟨zVU, c0VU, c1VU, c2VU, cfVU⟩ := VU.out.facts
    obtain ⟨zVX, c0VX, c1VX, c2VX, cfVX⟩ := VX.out.facts
    go_wp2_with fail
    clear zV c0V c1V c2V cfV zVU c0VU c1VU c2VU cfVU zVX c0VX c1VX c2VX cfVX
    have VW := tuck (TV.new HNVW.out)
    have hb := below1 u52 (.cells #[.int .i64 X.kind, .int .i64 X.num, .slice aVW X.kids.length cVW] 25)
    replace V := tuck (V.out.below hb)
    replace VU := tuck (VU.out.below hb)
    replace VX := tuck (VX.out.below hb)
    replace HB := tuck (bAfter HB.out hb)
    clear hb HNVW
    generalize u52.alloc (.cells #[.int .i64 X.kind, .int .i64 X.num, .slice aVW X.kids.length cVW] 25) = U52 at *
    generalize u52.heap.size = gVW at *
    refine (HTS.out _ _ _ VX.out.tm VW.out.tm).mono ?_
    rintro e u53 ⟨rfl, hb⟩
    replace V := tuck (V.out.below hb)
    replace VU := tuck (VU.out.below hb)
    replace VX := tuck (VX.out.below hb)
    replace VW := tuck (VW.out.below hb)
    replace HB := tuck (bAfter HB.out hb)
    clear hb
    obtain ⟨zV, c0V, c1V, c2V, cfV⟩ := V.out.facts
    obtain ⟨zVU, c0VU, c1VU, c2VU, cfVU⟩ := VU.out.facts
    obtain ⟨zVX, c0VX, c1VX, c2VX, cfVX⟩ := VX.out.facts
    obtain ⟨zVW, c0VW, c1VW, c2VW, cfVW⟩ := VW.out.facts
    go_wp2_with fail
    refine (HTS.out _ _ _ VX.out.tm VW.out.tm).mono ?_
    rintro e u54 ⟨rfl, hb⟩
    clear zV c0V c1V c2V cfV zVU c0VU c1VU c2VU cfVU zVX c0VX c1VX c2VX cfVX zVW c0VW c1VW c2VW cfVW
    replace V := tuck (V.out.below hb)
    replace VU := tuck (VU.out.below hb)
    replace VX := tuck (VX.out.below hb)
    replace VW := tuck (VW.out.below hb)
    replace HB := tuck (bAfter HB.out hb)
    clear hb
    obtain ⟨zV, c0V, c1V, c2V, cfV⟩ := V.out.facts
    obtain ⟨zVU, c0VU, c1VU, c2VU, cfVU⟩ := VU.out.facts
    obtain ⟨zVX, c0VX, c1VX, c2VX, cfVX⟩ := VX.out.facts
    obtain ⟨zVW, c0VW, c1VW, c2VW, cfVW⟩ := VW.out.facts
    go_wp2_with fail
    go_ret
    exact ⟨rfl, HB.out⟩
  obtain ⟨X, hX⟩ : ∃ X, X = T.subst S x 0 := ⟨_, rfl⟩
  have HIM : Hid (∀ (w : World) (v v' : Value), TmIn w 0 T v → TmIn w 0 S v' → Calls Try.prog 22 #[v, .int .i64 x, v'] w (PairPost w X true)) := fun w v v' h h' => by
    have h2 := substI_p T S x w v v' h h'
    rwa [orZero_yes hP, tr_of hP, ← hX] at h2
  have HSP : Hid (∀ (w : World) (v v' : Value), TmIn w 0 T v → TmIn w 0 S v' → Calls Try.prog 23 #[v, .int .i64 x, v'] w (PairPost w X true)) := fun w v v' h h' => by
    have h2 := substS_p T S x w v v' h h'
    rwa [orZero_yes hP, tr_of hP, ← hX] at h2
  have HTS : Hid (∀ (w : World) (v1 v2 : Value), TmIn w 0 X v1 → TmIn w 0 X v2 → Calls Try.prog 18 #[v1, v2] w (BoolPost w true)) := same_v (hX ▸ hP.2.2.2.2)
  have HXV : Hid X.Valid := tuck (hX ▸ hP.2.2.2.2)
  have HTV : Hid T.Valid := tuck hP.1
  have HSV : Hid S.Valid := tuck hP.2.1
  have HP : Hid (SubstOk T x S) := tuck hP
  have HX : Hid (X = T.subst S x 0) := tuck hX
  clear hX hP
  have hx20 : 0 ≤ x ∧ x ≤ 20 := ⟨HP.out.2.2.1, HP.out.2.2.2.1⟩
  refine (HIM.out _ _ _ V.out.tm VU.out.tm).mono ?_
  rintro e u1 ⟨hb, vv, rfl, ss, rfl, hin⟩
  obtain ⟨aVX, cVX, rfl⟩ := hin.form
  replace V := tuck (V.out.below hb)
  replace VU := tuck (VU.out.below hb)
  replace HB := tuck (bAfter HB.out hb)
  have HNVX := tuck hin
  clear hb hin
  obtain ⟨zV, c0V, c1V, c2V, cfV⟩ := V.out.facts
  obtain ⟨zVU, c0VU, c1VU, c2VU, cfVU⟩ := VU.out.facts
  go_wp2_with fail
  clear zV c0V c1V c2V cfV zVU c0VU c1VU c2VU cfVU
  have VX := tuck (TV.new HNVX.out)
  have hb := below1 u1 (.cells #[.int .i64 X.kind, .int .i64 X.num, .slice aVX X.kids.length cVX] 25)
  replace V := tuck (V.out.below hb)
  replace VU := tuck (VU.out.below hb)
  replace HB := tuck (bAfter HB.out hb)
  clear hb HNVX
  generalize u1.alloc (.cells #[.int .i64 X.kind, .int .i64 X.num, .slice aVX X.kids.length cVX] 25) = U1 at *
  generalize u1.heap.size = gVX at *
  refine (HSP.out _ _ _ V.out.tm VU.out.tm).mono ?_
  rintro e u2 ⟨hb, vv, rfl, ss, rfl, hin⟩
  obtain ⟨aVW, cVW, rfl⟩ := hin.form
  replace V := tuck (V.out.below hb)
  replace VU := tuck (VU.out.below hb)
  replace VX := tuck (VX.out.below hb)
  replace HB := tuck (bAfter HB.out hb)
  have HNVW := tuck hin
  clear hb hin
  obtain ⟨zV, c0V, c1V, c2V, cfV⟩ := V.out.facts
  obtain ⟨zVU, c0VU, c1VU, c2VU, cfVU⟩ := VU.out.facts
  obtain ⟨zVX, c0VX, c1VX, c2VX, cfVX⟩ := VX.out.facts
  go_wp2_with fail
  clear zV c0V c1V c2V cfV zVU c0VU c1VU c2VU cfVU zVX c0VX c1VX c2VX cfVX
  have VW := tuck (TV.new HNVW.out)
  have hb := below1 u2 (.cells #[.int .i64 X.kind, .int .i64 X.num, .slice aVW X.kids.length cVW] 25)
  replace V := tuck (V.out.below hb)
  replace VU := tuck (VU.out.below hb)
  replace VX := tuck (VX.out.below hb)
  replace HB := tuck (bAfter HB.out hb)
  clear hb HNVW
  generalize u2.alloc (.cells #[.int .i64 X.kind, .int .i64 X.num, .slice aVW X.kids.length cVW] 25) = U2 at *
  generalize u2.heap.size = gVW at *
  refine (HTS.out _ _ _ VX.out.tm VW.out.tm).mono ?_
  rintro e u3 ⟨rfl, hb⟩
  replace V := tuck (V.out.below hb)
  replace VU := tuck (VU.out.below hb)
  replace VX := tuck (VX.out.below hb)
  replace VW := tuck (VW.out.below hb)
  replace HB := tuck (bAfter HB.out hb)
  clear hb
  have hct : countOf T x = T.times x := by unfold countOf; rw [if_pos ⟨HTV.out, hx20⟩]
  obtain ⟨c, hc⟩ : ∃ c : Nat, T.times x = c := ⟨(T.times x).toNat, by have := (T.times_bd x).1; omega⟩
  have HFA : Hid (∀ (w : World) (v : Value), TmIn w 0 T v → Calls Try.prog 24 #[v, .int .i64 x] w (BoolPost w ((c : Int) != 0))) := fun w v h => by
    have h2 := freeAtI_any T x w v h
    rwa [hct, hc] at h2
  by_cases hc0 : c = 0
  · have e0 : ((c : Int) != 0) = false := by simpa using hc0
    rw [e0] at HFA
    have hback : X.shift 1 x = T := by rw [HX.out]; exact Tm.subst_none S T x 0 (by omega)
    have HSH := tuck (fun w v h => shiftI_p X 1 x w v h)
    have HTT : Hid (∀ (w : World) (v1 v2 : Value), TmIn w 0 T v1 → TmIn w 0 T v2 → Calls Try.prog 18 #[v1, v2] w (BoolPost w true)) := same_v HTV.out
    by_cases hQ : ShiftOk X 1 x
    · have HSY : Hid (∀ (w : World) (v : Value), TmIn w 0 X v → Calls Try.prog 16 #[v, .int .i64 1, .int .i64 x] w (PairPost w T true)) := fun w v h => by
        have h2 := HSH.out w v h
        rwa [orZero_yes hQ, tr_of hQ, hback] at h2
      clear HSH hQ hback hct hc e0
      obtain ⟨zV, c0V, c1V, c2V, cfV⟩ := V.out.facts
      obtain ⟨zVU, c0VU, c1VU, c2VU, cfVU⟩ := VU.out.facts
      obtain ⟨zVX, c0VX, c1VX, c2VX, cfVX⟩ := VX.out.facts
      obtain ⟨zVW, c0VW, c1VW, c2VW, cfVW⟩ := VW.out.facts
      go_wp2_with fail
      refine (HFA.out _ _ V.out.tm).mono ?_
      rintro e u24 ⟨rfl, hb⟩
      clear zV c0V c1V c2V cfV zVU c0VU c1VU c2VU cfVU zVX c0VX c1VX c2VX cfVX zVW c0VW c1VW c2VW cfVW
      replace V := tuck (V.out.below hb)
      replace VU := tuck (VU.out.below hb)
      replace VX := tuck (VX.out.below hb)
      replace VW := tuck (VW.out.below hb)
      replace HB := tuck (bAfter HB.out hb)
      clear hb
      obtain ⟨zV, c0V, c1V, c2V, cfV⟩ := V.out.facts
      obtain ⟨zVU, c0VU, c1VU, c2VU, cfVU⟩ := VU.out.facts
      obtain ⟨zVX, c0VX, c1VX, c2VX, cfVX⟩ := VX.out.facts
      obtain ⟨zVW, c0VW, c1VW, c2VW, cfVW⟩ := VW.out.facts
      go_wp2_with fail
      refine (HSY.out _ _ VX.out.tm).mono ?_
      rintro e u25 ⟨hb, vv, rfl, ss, rfl, hin⟩
      obtain ⟨aVS, cVS, rfl⟩ := hin.form
      clear zV c0V c1V c2V cfV zVU c0VU c1VU c2VU cfVU zVX c0VX c1VX c2VX cfVX zVW c0VW c1VW c2VW cfVW
      replace V := tuck (V.out.below hb)
      replace VU := tuck (VU.out.below hb)
      replace VX := tuck (VX.out.below hb)
      replace VW := tuck (VW.out.below hb)
      replace HB := tuck (bAfter HB.out hb)
      have HNVS := tuck hin
      clear hb hin
      obtain ⟨zV, c0V, c1V, c2V, cfV⟩ := V.out.facts
      obtain ⟨zVU, c0VU, c1VU, c2VU, cfVU⟩ := VU.out.facts
      obtain ⟨zVX, c0VX, c1VX, c2VX, cfVX⟩ := VX.out.facts
      obtain ⟨zVW, c0VW, c1VW, c2VW, cfVW⟩ := VW.out.facts
      go_wp2_with fail
      clear zV c0V c1V c2V cfV zVU c0VU c1VU c2VU cfVU zVX c0VX c1VX c2VX cfVX zVW c0VW c1VW c2VW cfVW
      have VS := tuck (TV.new HNVS.out)
      have hb := below1 u25 (.cells #[.int .i64 T.kind, .int .i64 T.num, .slice aVS T.kids.length cVS] 25)
      replace V := tuck (V.out.below hb)
      replace VU := tuck (VU.out.below hb)
      replace VX := tuck (VX.out.below hb)
      replace VW := tuck (VW.out.below hb)
      replace HB := tuck (bAfter HB.out hb)
      clear hb HNVS
      generalize u25.alloc (.cells #[.int .i64 T.kind, .int .i64 T.num, .slice aVS T.kids.length cVS] 25) = U25 at *
      generalize u25.heap.size = gVS at *
      refine (HTT.out _ _ _ VS.out.tm V.out.tm).mono ?_
      rintro e u26 ⟨rfl, hb⟩
      replace V := tuck (V.out.below hb)
      replace VU := tuck (VU.out.below hb)
      replace VX := tuck (VX.out.below hb)
      replace VW := tuck (VW.out.below hb)
      replace VS := tuck (VS.out.below hb)
      replace HB := tuck (bAfter HB.out hb)
      clear hb
      obtain ⟨zV, c0V, c1V, c2V, cfV⟩ := V.out.facts
      obtain ⟨zVU, c0VU, c1VU, c2VU, cfVU⟩ := VU.out.facts
      obtain ⟨zVX, c0VX, c1VX, c2VX, cfVX⟩ := VX.out.facts
      obtain ⟨zVW, c0VW, c1VW, c2VW, cfVW⟩ := VW.out.facts
      obtain ⟨zVS, c0VS, c1VS, c2VS, cfVS⟩ := VS.out.facts
      go_wp2_with fail
      go_ret
      exact ⟨rfl, HB.out⟩
    · have HSN : Hid (∀ (w : World) (v : Value), TmIn w 0 X v → Calls Try.prog 16 #[v, .int .i64 1, .int .i64 x] w (PairPost w zeroT false)) := fun w v h => by
        have h2 := HSH.out w v h
        rwa [orZero_no hQ, tr_not hQ] at h2
      clear HSH hQ hback hct hc e0
      generalize zeroT = Z at *
      obtain ⟨zV, c0V, c1V, c2V, cfV⟩ := V.out.facts
      obtain ⟨zVU, c0VU, c1VU, c2VU, cfVU⟩ := VU.out.facts
      obtain ⟨zVX, c0VX, c1VX, c2VX, cfVX⟩ := VX.out.facts
      obtain ⟨zVW, c0VW, c1VW, c2VW, cfVW⟩ := VW.out.facts
      go_wp2_with fail
      refine (HFA.out _ _ V.out.tm).mono ?_
      rintro e u24 ⟨rfl, hb⟩
      clear zV c0V c1V c2V cfV zVU c0VU c1VU c2VU cfVU zVX c0VX c1VX c2VX cfVX zVW c0VW c1VW c2VW cfVW
      replace V := tuck (V.out.below hb)
      replace VU := tuck (VU.out.below hb)
      replace VX := tuck (VX.out.below hb)
      replace VW := tuck (VW.out.below hb)
      replace HB := tuck (bAfter HB.out hb)
      clear hb
      obtain ⟨zV, c0V, c1V, c2V, cfV⟩ := V.out.facts
      obtain ⟨zVU, c0VU, c1VU, c2VU, cfVU⟩ := VU.out.facts
      obtain ⟨zVX, c0VX, c1VX, c2VX, cfVX⟩ := VX.out.facts
      obtain ⟨zVW, c0VW, c1VW, c2VW, cfVW⟩ := VW.out.facts
      go_wp2_with fail
      refine (HSN.out _ _ VX.out.tm).mono ?_
      rintro e u25 ⟨hb, vv, rfl, ss, rfl, hin⟩
      obtain ⟨aVS, cVS, rfl⟩ := hin.form
      clear zV c0V c1V c2V cfV zVU c0VU c1VU c2VU cfVU zVX c0VX c1VX c2VX cfVX zVW c0VW c1VW c2VW cfVW
      replace V := tuck (V.out.below hb)
      replace VU := tuck (VU.out.below hb)
      replace VX := tuck (VX.out.below hb)
      replace VW := tuck (VW.out.below hb)
      replace HB := tuck (bAfter HB.out hb)
      have HNVS := tuck hin
      clear hb hin
      obtain ⟨zV, c0V, c1V, c2V, cfV⟩ := V.out.facts
      obtain ⟨zVU, c0VU, c1VU, c2VU, cfVU⟩ := VU.out.facts
      obtain ⟨zVX, c0VX, c1VX, c2VX, cfVX⟩ := VX.out.facts
      obtain ⟨zVW, c0VW, c1VW, c2VW, cfVW⟩ := VW.out.facts
      go_wp2_with fail
      clear zV c0V c1V c2V cfV zVU c0VU c1VU c2VU cfVU zVX c0VX c1VX c2VX cfVX zVW c0VW c1VW c2VW cfVW
      have VS := tuck (TV.new HNVS.out)
      have hb := below1 u25 (.cells #[.int .i64 Z.kind, .int .i64 Z.num, .slice aVS Z.kids.length cVS] 25)
      replace V := tuck (V.out.below hb)
      replace VU := tuck (VU.out.below hb)
      replace VX := tuck (VX.out.below hb)
      replace VW := tuck (VW.out.below hb)
      replace HB := tuck (bAfter HB.out hb)
      clear hb HNVS
      generalize u25.alloc (.cells #[.int .i64 Z.kind, .int .i64 Z.num, .slice aVS Z.kids.length cVS] 25) = U25 at *
      generalize u25.heap.size = gVS at *
      go_ret
      exact ⟨rfl, HB.out⟩
  have e0 : ((c : Int) != 0) = true := by simpa using hc0
  rw [e0] at HFA
  obtain ⟨sx, hsx⟩ : ∃ sx : Nat, X.size = sx := ⟨_, rfl⟩
  obtain ⟨st, hst⟩ : ∃ st : Nat, T.size = st := ⟨_, rfl⟩
  obtain ⟨su, hsu⟩ : ∃ su : Nat, S.size = su := ⟨_, rfl⟩
  have HNX : Hid (∀ (w : World) (v : Value), TmIn w 0 X v → Calls Try.prog 20 #[v] w (IntPost w sx)) := fun w v h => by
    have h2 := nodesI_any X w v h
    rwa [show nodesOf X = sx by unfold nodesOf; rw [if_pos HXV.out, hsx]] at h2
  have HNT : Hid (∀ (w : World) (v : Value), TmIn w 0 T v → Calls Try.prog 20 #[v] w (IntPost w st)) := fun w v h => by
    have h2 := nodesI_any T w v h
    rwa [show nodesOf T = st by unfold nodesOf; rw [if_pos HTV.out, hst]] at h2
  have HNU : Hid (∀ (w : World) (v : Value), TmIn w 0 S v → Calls Try.prog 20 #[v] w (IntPost w su)) := fun w v h => by
    have h2 := nodesI_any S w v h
    rwa [show nodesOf S = su by unfold nodesOf; rw [if_pos HSV.out, hsu]] at h2
  have HCV : Hid (∀ (w : World) (v : Value), TmIn w 0 T v → Calls Try.prog 19 #[v, .int .i64 x] w (IntPost w c)) := fun w v h => by
    have h2 := countI_any T x w v h
    rwa [hct, hc] at h2
  have hsum : (sx : Int) = st + c * (su - 1) := by
    have := Tm.subst_size S T x 0 HTV.out.1
    rwa [← HX.out, hsx, hst, hsu, hc] at this
  have hb1 : st ≤ 400 := by have := HTV.out.2.2; omega
  have hb2 : su ≤ 400 := by have := HSV.out.2.2; omega
  have hb2' : 1 ≤ su := by have := S.size_pos; omega
  have hb3 : c ≤ 400 := by have := (T.times_bd x).2; omega
  have hb4 : sx ≤ 400 := by have := HXV.out.2.2; omega
  have k1 : IntKind.i64.wrap ((su : Int) - 1) = (su : Int) - 1 := IntWalk.i64_in _ (by omega)
  have k2 : IntKind.i64.wrap ((c : Int) * ((su : Int) - 1)) = (c : Int) * ((su : Int) - 1) := IntWalk.i64_in _ (by omega)
  have k3 : IntKind.i64.wrap ((st : Int) + (c : Int) * ((su : Int) - 1)) = sx := by rw [IntWalk.i64_in _ (by omega)]; exact hsum.symm
  clear hct hc hsx hst hsu hsum hc0 e0 hb1 hb2 hb2' hb3 hb4
  obtain ⟨zV, c0V, c1V, c2V, cfV⟩ := V.out.facts
  obtain ⟨zVU, c0VU, c1VU, c2VU, cfVU⟩ := VU.out.facts
  obtain ⟨zVX, c0VX, c1VX, c2VX, cfVX⟩ := VX.out.facts
  obtain ⟨zVW, c0VW, c1VW, c2VW, cfVW⟩ := VW.out.facts
  go_wp2_with fail
  refine (HFA.out _ _ V.out.tm).mono ?_
  rintro e u4 ⟨rfl, hb⟩
  clear zV c0V c1V c2V cfV zVU c0VU c1VU c2VU cfVU zVX c0VX c1VX c2VX cfVX zVW c0VW c1VW c2VW cfVW
  replace V := tuck (V.out.below hb)
  replace VU := tuck (VU.out.below hb)
  replace VX := tuck (VX.out.below hb)
  replace VW := tuck (VW.out.below hb)
  replace HB := tuck (bAfter HB.out hb)
  clear hb
  obtain ⟨zV, c0V, c1V, c2V, cfV⟩ := V.out.facts
  obtain ⟨zVU, c0VU, c1VU, c2VU, cfVU⟩ := VU.out.facts
  obtain ⟨zVX, c0VX, c1VX, c2VX, cfVX⟩ := VX.out.facts
  obtain ⟨zVW, c0VW, c1VW, c2VW, cfVW⟩ := VW.out.facts
  go_wp2_with fail
  clear zV c0V c1V c2V cfV zVU c0VU c1VU c2VU cfVU zVX c0VX c1VX c2VX cfVX zVW c0VW c1VW c2VW cfVW
  have HT12 : ∀ w' : World, ((fun w' => Below u4.heap.size u4 w' ∧ (gVX < w'.heap.size ∧ w'.cell? ⟨gVX, 0, none⟩ = some (.int .i64 X.kind) ∧ w'.cell? ⟨gVX, 1, none⟩ = some (.int .i64 X.num) ∧ w'.cell? ⟨gVX, 2, none⟩ = some (.slice aVX X.kids.length cVX)) ∧ (gV < w'.heap.size ∧ w'.cell? ⟨gV, 0, none⟩ = some (.int .i64 T.kind) ∧ w'.cell? ⟨gV, 1, none⟩ = some (.int .i64 T.num) ∧ w'.cell? ⟨gV, 2, none⟩ = some (.slice aV T.kids.length cV)) ∧ (gVU < w'.heap.size ∧ w'.cell? ⟨gVU, 0, none⟩ = some (.int .i64 S.kind) ∧ w'.cell? ⟨gVU, 1, none⟩ = some (.int .i64 S.num) ∧ w'.cell? ⟨gVU, 2, none⟩ = some (.slice aVU S.kids.length cVU)))) w' → ((fun w' => Below u4.heap.size u4 w' ∧ (gVX < w'.heap.size ∧ w'.cell? ⟨gVX, 0, none⟩ = some (.int .i64 X.kind) ∧ w'.cell? ⟨gVX, 1, none⟩ = some (.int .i64 X.num) ∧ w'.cell? ⟨gVX, 2, none⟩ = some (.slice aVX X.kids.length cVX)) ∧ (gV < w'.heap.size ∧ w'.cell? ⟨gV, 0, none⟩ = some (.int .i64 T.kind) ∧ w'.cell? ⟨gV, 1, none⟩ = some (.int .i64 T.num) ∧ w'.cell? ⟨gV, 2, none⟩ = some (.slice aV T.kids.length cV)) ∧ (gVU < w'.heap.size ∧ w'.cell? ⟨gVU, 0, none⟩ = some (.int .i64 S.kind) ∧ w'.cell? ⟨gVU, 1, none⟩ = some (.int .i64 S.num) ∧ w'.cell? ⟨gVU, 2, none⟩ = some (.slice aVU S.kids.length cVU)))) w' := fun w' h => h
  refine AnyTwo.begin ((fun w' => Below u4.heap.size u4 w' ∧ (gVX < w'.heap.size ∧ w'.cell? ⟨gVX, 0, none⟩ = some (.int .i64 X.kind) ∧ w'.cell? ⟨gVX, 1, none⟩ = some (.int .i64 X.num) ∧ w'.cell? ⟨gVX, 2, none⟩ = some (.slice aVX X.kids.length cVX)) ∧ (gV < w'.heap.size ∧ w'.cell? ⟨gV, 0, none⟩ = some (.int .i64 T.kind) ∧ w'.cell? ⟨gV, 1, none⟩ = some (.int .i64 T.num) ∧ w'.cell? ⟨gV, 2, none⟩ = some (.slice aV T.kids.length cV)) ∧ (gVU < w'.heap.size ∧ w'.cell? ⟨gVU, 0, none⟩ = some (.int .i64 S.kind) ∧ w'.cell? ⟨gVU, 1, none⟩ = some (.int .i64 S.num) ∧ w'.cell? ⟨gVU, 2, none⟩ = some (.slice aVU S.kids.length cVU)))) ((fun w' => Below u4.heap.size u4 w' ∧ (gVX < w'.heap.size ∧ w'.cell? ⟨gVX, 0, none⟩ = some (.int .i64 X.kind) ∧ w'.cell? ⟨gVX, 1, none⟩ = some (.int .i64 X.num) ∧ w'.cell? ⟨gVX, 2, none⟩ = some (.slice aVX X.kids.length cVX)) ∧ (gV < w'.heap.size ∧ w'.cell? ⟨gV, 0, none⟩ = some (.int .i64 T.kind) ∧ w'.cell? ⟨gV, 1, none⟩ = some (.int .i64 T.num) ∧ w'.cell? ⟨gV, 2, none⟩ = some (.slice aV T.kids.length cV)) ∧ (gVU < w'.heap.size ∧ w'.cell? ⟨gVU, 0, none⟩ = some (.int .i64 S.kind) ∧ w'.cell? ⟨gVU, 1, none⟩ = some (.int .i64 S.num) ∧ w'.cell? ⟨gVU, 2, none⟩ = some (.slice aVU S.kids.length cVU)))) 13 (by kernel_rfl) ?_
  have hS1 : ((fun w' => Below u4.heap.size u4 w' ∧ (gVX < w'.heap.size ∧ w'.cell? ⟨gVX, 0, none⟩ = some (.int .i64 X.kind) ∧ w'.cell? ⟨gVX, 1, none⟩ = some (.int .i64 X.num) ∧ w'.cell? ⟨gVX, 2, none⟩ = some (.slice aVX X.kids.length cVX)) ∧ (gV < w'.heap.size ∧ w'.cell? ⟨gV, 0, none⟩ = some (.int .i64 T.kind) ∧ w'.cell? ⟨gV, 1, none⟩ = some (.int .i64 T.num) ∧ w'.cell? ⟨gV, 2, none⟩ = some (.slice aV T.kids.length cV)) ∧ (gVU < w'.heap.size ∧ w'.cell? ⟨gVU, 0, none⟩ = some (.int .i64 S.kind) ∧ w'.cell? ⟨gVU, 1, none⟩ = some (.int .i64 S.num) ∧ w'.cell? ⟨gVU, 2, none⟩ = some (.slice aVU S.kids.length cVU)))) _ := ⟨(Below.refl _ _).drew, VX.out.var.four, V.out.var.four, VU.out.var.four⟩
  refine AnyTwo.takeAny HT12 (i := 0) (oi := { dst := some 73, op := _, type := _, pos := _, after := _, guard := _ }) (v := ?vz1) rfl (by kernel_rfl) (by kernel_rfl) (by decide +kernel) (by rfl) (fun _ _ _ h => h) (Or.inl ⟨by rfl, ?yz1⟩) (ph_one (by kernel_rfl) hS1) ?rz1
  case yz1 => (intro w hSw; (try dsimp only at hSw); go_simp; try (with_reducible rfl))
  try simp only [Act.put, List.setIfInBounds_toArray, List.set_cons_zero, List.set_cons_succ]
  refine AnyTwo.takeAny HT12 (i := 2) (oi := { dst := some 75, op := _, type := _, pos := _, after := _, guard := _ }) (v := ?vz2) rfl (by kernel_rfl) (by kernel_rfl) (by decide +kernel) (by rfl) (fun _ _ _ h => h) (Or.inl ⟨by rfl, ?yz2⟩) (ph_one (by kernel_rfl) hS1) ?rz2
  case yz2 => (intro w hSw; (try dsimp only at hSw); go_simp; try (with_reducible rfl))
  try simp only [Act.put, List.setIfInBounds_toArray, List.set_cons_zero, List.set_cons_succ]
  refine AnyTwo.takeAny HT12 (i := 4) (oi := { dst := some 77, op := _, type := _, pos := _, after := _, guard := _ }) (v := ?vz3) rfl (by kernel_rfl) (by kernel_rfl) (by decide +kernel) (by rfl) (fun _ _ _ h => h) (Or.inl ⟨by rfl, ?yz3⟩) (ph_one (by kernel_rfl) hS1) ?rz3
  case yz3 => (intro w hSw; (try dsimp only at hSw); go_simp; try (with_reducible rfl))
  try simp only [Act.put, List.setIfInBounds_toArray, List.set_cons_zero, List.set_cons_succ]
  refine AnyTwo.takeAny HT12 (i := 5) (oi := { dst := some 78, op := _, type := _, pos := _, after := _, guard := _ }) (v := ?vz4) rfl (by kernel_rfl) (by kernel_rfl) (by decide +kernel) (by rfl) (fun _ _ _ h => h) (Or.inl ⟨by rfl, ?yz4⟩) (ph_one (by kernel_rfl) hS1) ?rz4
  case yz4 => (intro w hSw; (try dsimp only at hSw); go_simp; try (with_reducible rfl))
  try simp only [Act.put, List.setIfInBounds_toArray, List.set_cons_zero, List.set_cons_succ]
  refine AnyTwo.takeAny HT12 (i := 7) (oi := { dst := some 80, op := _, type := _, pos := _, after := _, guard := _ }) (v := ?vz5) rfl (by kernel_rfl) (by kernel_rfl) (by decide +kernel) (by rfl) (fun _ _ _ h => h) (Or.inl ⟨by rfl, ?yz5⟩) (ph_one (by kernel_rfl) hS1) ?rz5
  case yz5 => (intro w hSw; (try dsimp only at hSw); go_simp; try (with_reducible rfl))
  try simp only [Act.put, List.setIfInBounds_toArray, List.set_cons_zero, List.set_cons_succ]
  refine AnyTwo.step (i := 1) (o := { dst := some 74, op := _, type := _, pos := _, after := _, guard := _ }) (by kernel_rfl) rfl (fun K hK => ?_)
  go_simp
  refine (HNX.out _ _ ⟨_, rfl, VX.out.sl.below hS1.1⟩).mono ?_
  rintro e w7 ⟨rfl, hb7⟩
  have hS1' : ((fun w' => Below u4.heap.size u4 w' ∧ (gVX < w'.heap.size ∧ w'.cell? ⟨gVX, 0, none⟩ = some (.int .i64 X.kind) ∧ w'.cell? ⟨gVX, 1, none⟩ = some (.int .i64 X.num) ∧ w'.cell? ⟨gVX, 2, none⟩ = some (.slice aVX X.kids.length cVX)) ∧ (gV < w'.heap.size ∧ w'.cell? ⟨gV, 0, none⟩ = some (.int .i64 T.kind) ∧ w'.cell? ⟨gV, 1, none⟩ = some (.int .i64 T.num) ∧ w'.cell? ⟨gV, 2, none⟩ = some (.slice aV T.kids.length cV)) ∧ (gVU < w'.heap.size ∧ w'.cell? ⟨gVU, 0, none⟩ = some (.int .i64 S.kind) ∧ w'.cell? ⟨gVU, 1, none⟩ = some (.int .i64 S.num) ∧ w'.cell? ⟨gVU, 2, none⟩ = some (.slice aVU S.kids.length cVU)))) _ := ⟨bAfter hS1.1 hb7, BoxAt.below hS1.2.1 hb7, BoxAt.below hS1.2.2.1 hb7, BoxAt.below hS1.2.2.2 hb7⟩
  refine hK.out _ _ (ph_one (by kernel_rfl) hS1') ?_
  clear hK K hS1
  have hS1 := hS1'
  clear hS1'
  try simp only [Act.put, List.setIfInBounds_toArray, List.set_cons_zero, List.set_cons_succ]
  refine AnyTwo.step (i := 3) (o := { dst := some 76, op := _, type := _, pos := _, after := _, guard := _ }) (by kernel_rfl) rfl (fun K hK => ?_)
  go_simp
  refine (HNT.out _ _ ⟨_, rfl, V.out.sl.below hS1.1⟩).mono ?_
  rintro e w7 ⟨rfl, hb7⟩
  have hS1' : ((fun w' => Below u4.heap.size u4 w' ∧ (gVX < w'.heap.size ∧ w'.cell? ⟨gVX, 0, none⟩ = some (.int .i64 X.kind) ∧ w'.cell? ⟨gVX, 1, none⟩ = some (.int .i64 X.num) ∧ w'.cell? ⟨gVX, 2, none⟩ = some (.slice aVX X.kids.length cVX)) ∧ (gV < w'.heap.size ∧ w'.cell? ⟨gV, 0, none⟩ = some (.int .i64 T.kind) ∧ w'.cell? ⟨gV, 1, none⟩ = some (.int .i64 T.num) ∧ w'.cell? ⟨gV, 2, none⟩ = some (.slice aV T.kids.length cV)) ∧ (gVU < w'.heap.size ∧ w'.cell? ⟨gVU, 0, none⟩ = some (.int .i64 S.kind) ∧ w'.cell? ⟨gVU, 1, none⟩ = some (.int .i64 S.num) ∧ w'.cell? ⟨gVU, 2, none⟩ = some (.slice aVU S.kids.length cVU)))) _ := ⟨bAfter hS1.1 hb7, BoxAt.below hS1.2.1 hb7, BoxAt.below hS1.2.2.1 hb7, BoxAt.below hS1.2.2.2 hb7⟩
  refine hK.out _ _ (ph_one (by kernel_rfl) hS1') ?_
  clear hK K hS1
  have hS1 := hS1'
  clear hS1'
  try simp only [Act.put, List.setIfInBounds_toArray, List.set_cons_zero, List.set_cons_succ]
  refine AnyTwo.step (i := 6) (o := { dst := some 79, op := _, type := _, pos := _, after := _, guard := _ }) (by kernel_rfl) rfl (fun K hK => ?_)
  go_simp
  refine (HCV.out _ _ ⟨_, rfl, V.out.sl.below hS1.1⟩).mono ?_
  rintro e w7 ⟨rfl, hb7⟩
  have hS1' : ((fun w' => Below u4.heap.size u4 w' ∧ (gVX < w'.heap.size ∧ w'.cell? ⟨gVX, 0, none⟩ = some (.int .i64 X.kind) ∧ w'.cell? ⟨gVX, 1, none⟩ = some (.int .i64 X.num) ∧ w'.cell? ⟨gVX, 2, none⟩ = some (.slice aVX X.kids.length cVX)) ∧ (gV < w'.heap.size ∧ w'.cell? ⟨gV, 0, none⟩ = some (.int .i64 T.kind) ∧ w'.cell? ⟨gV, 1, none⟩ = some (.int .i64 T.num) ∧ w'.cell? ⟨gV, 2, none⟩ = some (.slice aV T.kids.length cV)) ∧ (gVU < w'.heap.size ∧ w'.cell? ⟨gVU, 0, none⟩ = some (.int .i64 S.kind) ∧ w'.cell? ⟨gVU, 1, none⟩ = some (.int .i64 S.num) ∧ w'.cell? ⟨gVU, 2, none⟩ = some (.slice aVU S.kids.length cVU)))) _ := ⟨bAfter hS1.1 hb7, BoxAt.below hS1.2.1 hb7, BoxAt.below hS1.2.2.1 hb7, BoxAt.below hS1.2.2.2 hb7⟩
  refine hK.out _ _ (ph_one (by kernel_rfl) hS1') ?_
  clear hK K hS1
  have hS1 := hS1'
  clear hS1'
  try simp only [Act.put, List.setIfInBounds_toArray, List.set_cons_zero, List.set_cons_succ]
  refine AnyTwo.step (i := 8) (o := { dst := some 81, op := _, type := _, pos := _, after := _, guard := _ }) (by kernel_rfl) rfl (fun K hK => ?_)
  go_simp
  refine (HNU.out _ _ ⟨_, rfl, VU.out.sl.below hS1.1⟩).mono ?_
  rintro e w7 ⟨rfl, hb7⟩
  have hS1' : ((fun w' => Below u4.heap.size u4 w' ∧ (gVX < w'.heap.size ∧ w'.cell? ⟨gVX, 0, none⟩ = some (.int .i64 X.kind) ∧ w'.cell? ⟨gVX, 1, none⟩ = some (.int .i64 X.num) ∧ w'.cell? ⟨gVX, 2, none⟩ = some (.slice aVX X.kids.length cVX)) ∧ (gV < w'.heap.size ∧ w'.cell? ⟨gV, 0, none⟩ = some (.int .i64 T.kind) ∧ w'.cell? ⟨gV, 1, none⟩ = some (.int .i64 T.num) ∧ w'.cell? ⟨gV, 2, none⟩ = some (.slice aV T.kids.length cV)) ∧ (gVU < w'.heap.size ∧ w'.cell? ⟨gVU, 0, none⟩ = some (.int .i64 S.kind) ∧ w'.cell? ⟨gVU, 1, none⟩ = some (.int .i64 S.num) ∧ w'.cell? ⟨gVU, 2, none⟩ = some (.slice aVU S.kids.length cVU)))) _ := ⟨bAfter hS1.1 hb7, BoxAt.below hS1.2.1 hb7, BoxAt.below hS1.2.2.1 hb7, BoxAt.below hS1.2.2.2 hb7⟩
  refine hK.out _ _ (ph_one (by kernel_rfl) hS1') ?_
  clear hK K hS1
  have hS1 := hS1'
  clear hS1'
  try simp only [Act.put, List.setIfInBounds_toArray, List.set_cons_zero, List.set_cons_succ]
  refine AnyTwo.takeAny HT12 (i := 9) (oi := { dst := some 82, op := _, type := _, pos := _, after := _, guard := _ }) (v := .int .i64 ((su : Int) - 1)) rfl (by kernel_rfl) (by kernel_rfl) (by decide +kernel) (by rfl) (fun _ _ _ h => h) (Or.inl ⟨by rfl, ?yz6⟩) (ph_one (by kernel_rfl) hS1) ?rz6
  case yz6 => (intro w hSw; (try dsimp only at hSw); go_simp; try simp [*])
  try simp only [Act.put, List.setIfInBounds_toArray, List.set_cons_zero, List.set_cons_succ]
  refine AnyTwo.takeAny HT12 (i := 10) (oi := { dst := some 83, op := _, type := _, pos := _, after := _, guard := _ }) (v := .int .i64 ((c : Int) * ((su : Int) - 1))) rfl (by kernel_rfl) (by kernel_rfl) (by decide +kernel) (by rfl) (fun _ _ _ h => h) (Or.inl ⟨by rfl, ?yz7⟩) (ph_one (by kernel_rfl) hS1) ?rz7
  case yz7 => (intro w hSw; (try dsimp only at hSw); go_simp; try simp [*])
  try simp only [Act.put, List.setIfInBounds_toArray, List.set_cons_zero, List.set_cons_succ]
  refine AnyTwo.takeAny HT12 (i := 11) (oi := { dst := some 84, op := _, type := _, pos := _, after := _, guard := _ }) (v := .int .i64 sx) rfl (by kernel_rfl) (by kernel_rfl) (by decide +kernel) (by rfl) (fun _ _ _ h => h) (Or.inl ⟨by rfl, ?yz8⟩) (ph_one (by kernel_rfl) hS1) ?rz8
  case yz8 => (intro w hSw; (try dsimp only at hSw); go_simp; try simp [*])
  try simp only [Act.put, List.setIfInBounds_toArray, List.set_cons_zero, List.set_cons_succ]
  refine AnyTwo.takeAny HT12 (i := 12) (oi := { dst := some 85, op := _, type := _, pos := _, after := _, guard := _ }) (v := .bool true) rfl (by kernel_rfl) (by kernel_rfl) (by decide +kernel) (by rfl) (fun _ _ _ h => h) (Or.inl ⟨by rfl, ?yz9⟩) (ph_one (by kernel_rfl) hS1) ?rz9
  case yz9 => (intro w hSw; (try dsimp only at hSw); go_simp; try simp [*])
  try simp only [Act.put, List.setIfInBounds_toArray, List.set_cons_zero, List.set_cons_succ]
  refine AnyTwo.step (i := 13) (o := { dst := some 2, op := _, type := _, pos := _, after := _, guard := _ }) (by kernel_rfl) rfl (fun K hK => ?_)
  go_simp
  refine hK.out _ _ (ph_end (by kernel_rfl) hS1) ?_
  clear hK K
  try simp only [Act.put, List.setIfInBounds_toArray, List.set_cons_zero, List.set_cons_succ]
  refine AnyTwo.done (by kernel_rfl) ?_ _
  clear HT12
  have hb := hS1.1
  replace HB := tuck (bAfter HB.out hb)
  clear hb hS1
  go_wp2_with fail
  go_ret
  exact ⟨rfl, HB.out⟩

set_option maxRecDepth 100000 in
theorem lifted (os : Os) (started : os.Started) (H : Type) (enc : TypeId × Value → H) :
    ReturnsInHanded {} Try.checked os 6 .any (Rows.fnSubstFreeSpec.pre6 enc Try.prog Try.f6 Rows.fnSubstFreeRow.domain false) (Rows.fnSubstFreeSpec.post enc Try.prog Try.f6 false true false false) := by
  refine returnsInHanded_of_change (C := Try.checked) own started (by kernel_rfl) Try.func6
    (ChangeSpec.witness6 (enc := enc) (C := Try.checked) false ⟨#[], #[.slice none 0 0], []⟩ 8 (by kernel_rfl) (by kernel_rfl) (by kernel_rfl) (by kernel_rfl)) ?_
  intro W base args ds gs before hval0 hW hcnd _
  have hval : ∀ (j : Nat) t v, Try.f6.params[j]? = some t → args[j]? = some v → Value.okWide Try.prog W .any base t v := hval0
  have hW' := hW
  obtain ⟨p, q, hA0, hV, rfl, hfz, hnd⟩ := hW
  have hA : DataW.TrodAll enc Try.prog W 0 (fun _ => true) true Try.f6.params.toList args.toList ds p := hA0
  rw [Try.params6] at hA hval
  obtain ⟨v0, vs0, d0, ds0, p0, q0, hargs, rfl, rfl, h0, r0⟩ := trodAll_cons hA
  obtain ⟨rfl, rfl, rfl⟩ := trodAll_nil r0
  obtain rfl : args = #[v0] := by cases args; simp_all
  obtain ⟨U0, ad0, bb0, oo0, len0, cap0, rfl, hlc0, hcm0, hbl0, hby0⟩ := open_bytes (hval 0 22 v0 rfl rfl) h0
  refine (walk U0 ad0 bb0 oo0 len0 cap0 W hlc0 hcm0 hby0).mono fun e W' ⟨he, hb⟩ => ?_
  subst he
  exact ⟨_, rfl, law_post rfl rfl (fun gs h => by subst h; rfl) (by rw [Try.params6]; exact readable_FnSubstFree) laid hW' hb⟩

theorem over : Rows.fnSubstFreeRow.holds Try.pinned (OpenSpec.ofChange Rows.fnSubstFreeSpec) :=
  OpenClaim.holds_of_wide 6 Try.f6 rfl rfl rfl rfl rfl rfl rfl ⟨rfl, rfl, rfl, rfl, rfl⟩ rfl rfl rfl rfl rfl (by kernel_rfl) Try.func6 (by kernel_rfl)
    (of_decide_eq_true (by kernel_rfl)) (by unfold Func.isWrapper; first | (rw [if_pos (by decide +kernel)]; kernel_rfl) | (rw [if_neg (by decide +kernel)]; exact ⟨rfl, rfl⟩))
    (fun os started H enc _ => lifted os started H enc)

theorem proved : Rows.FnSubstFreeSaid :=
  over
end Go.Proofs.Ytmihfbopahoejaa.fnSubstFree
