/-
  The law FnFreeShift: whatever the bytes, a shift of all free variables moves the limit, if there are any.
-/
import Derived.Test.YtmihfbopahoejaaDrawsB
import Derived.Test.YtmihfbopahoejaaVars
import Derived.Test.YtmihfbopahoejaaFree
namespace Go.Proofs.Ytmihfbopahoejaa.fnFreeShift
open Go.ChangeShapes Go.WideShapes Go.ChangeAt Go.RowKit Go.Deep
set_option linter.unusedVariables false

theorem readable_FnFreeShift : ∀ t ∈ (#[22] : Array TypeId).toList, Try.prog.readableRec t = true ∧ t < Try.prog.types.size := by
  intro t ht
  simp at ht
  subst ht
  exact ⟨by kernel_rfl, of_decide_eq_true (by kernel_rfl)⟩
theorem laid : laidOutB Try.prog = true := by kernel_rfl

set_option maxRecDepth 100000 in
set_option maxHeartbeats 1600000 in
theorem walk (U : Nat → Int) (a : Option Addr) (b o len cap : Nat) (w : World) (hlc : len ≤ cap) (hcm : cap ≤ maxLen) (hby : Bytes U a b o len w) : Calls Try.prog 11 #[.slice a len cap] w fun e w' => e = .returned (.bool true) ∧ Below w.heap.size w w' := by
  unfold maxLen at hcm
  by_cases hl : 1048576 < len
  · have hl' : (1048576 : Int) < (len : Int) := by omega
    clear hby
    go_enter Try.func11, Try.ntmps11
    go_wp2
    go_ret
    exact ⟨rfl, Below.refl _ _⟩
  have hl' : ¬ (1048576 : Int) < (len : Int) := by omega
  have HD := tuck (dShiftTerm_any w (by omega) hlc hby)
  clear hby
  go_enter Try.func11, Try.ntmps11
  go_wp2_with fail
  refine HD.out.mono ?_
  rintro e w1 ⟨T, v, x, y0, rfl, ⟨s, rfl, hin⟩, hsz, -, hx1, hx0, hy0, hy1, hb⟩
  obtain ⟨aV, cV, rfl⟩ := hin.form
  have V := tuck (TV.new (hin.mono (Nat.zero_le _)))
  have HB := tuck (bAfter hb (below1 w1 (.cells #[.int .i64 T.kind, .int .i64 T.num, .slice aV T.kids.length cV] 25)))
  clear hin hb HD
  go_wp2_with fail
  generalize w1.alloc (.cells #[.int .i64 T.kind, .int .i64 T.num, .slice aV T.kids.length cV] 25) = U0 at *
  generalize w1.heap.size = gV at *
  have HMX : Hid (∀ (w : World) (v : Value), TmIn w 0 T v → Calls Try.prog 26 #[v] w (IntPost w (maxFreeOf T))) := fun w v h => maxFreeI_any T w v h
  by_cases hP : ShiftOk T x 0
  rotate_left
  · obtain ⟨X, hX⟩ : ∃ X, X = zeroT := ⟨_, rfl⟩
    have HIM : Hid (∀ (w : World) (v : Value), TmIn w 0 T v → Calls Try.prog 16 #[v, .int .i64 x, .int .i64 0] w (PairPost w X false)) := fun w v h => by
      have h2 := shiftI_p T x 0 w v h
      rwa [orZero_no hP, tr_not hP, ← hX] at h2
    have HSP : Hid (∀ (w : World) (v : Value), TmIn w 0 T v → Calls Try.prog 17 #[v, .int .i64 x, .int .i64 0] w (PairPost w X false)) := fun w v h => by
      have h2 := shiftS_p T x 0 w v h
      rwa [orZero_no hP, tr_not hP, ← hX] at h2
    have HTS : Hid (∀ (w : World) (v1 v2 : Value), TmIn w 0 X v1 → TmIn w 0 X v2 → Calls Try.prog 18 #[v1, v2] w (BoolPost w true)) := fun w v1 v2 h1 h2 => by rw [hX] at h1 h2; exact same_z w v1 v2 h1 h2
    clear hX hP
    refine (HIM.out _ _ V.out.tm).mono ?_
    rintro e u51 ⟨hb, vv, rfl, ss, rfl, hin⟩
    obtain ⟨aVX, cVX, rfl⟩ := hin.form
    replace V := tuck (V.out.below hb)
    replace HB := tuck (bAfter HB.out hb)
    have HNVX := tuck hin
    clear hb hin
    obtain ⟨zV, c0V, c1V, c2V, cfV⟩ := V.out.facts
    go_wp2_with fail
    clear zV c0V c1V c2V cfV
    have VX := tuck (TV.new HNVX.out)
    have hb := below1 u51 (.cells #[.int .i64 X.kind, .int .i64 X.num, .slice aVX X.kids.length cVX] 25)
    replace V := tuck (V.out.below hb)
    replace HB := tuck (bAfter HB.out hb)
    clear hb HNVX
    generalize u51.alloc (.cells #[.int .i64 X.kind, .int .i64 X.num, .slice aVX X.kids.length cVX] 25) = U51 at *
    generalize u51.heap.size = gVX at *
    refine (HSP.out _ _ V.out.tm).mono ?_
    rintro e u52 ⟨hb, vv, rfl, ss, rfl, hin⟩
    obtain ⟨aVW, cVW, rfl⟩ := hin.form
    replace V := tuck (V.out.below hb)
    replace VX := tuck (VX.out.below hb)
    replace HB := tuck (bAfter HB.out hb)
    have HNVW := tuck hin
    clear hb hin
    obtain ⟨zV, c0V, c1V, c2V, cfV⟩ := V.out.facts
    obtain ⟨zVX, c0VX, c1VX, c2VX, cfVX⟩ := VX.out.facts
    go_wp2_with fail
    clear zV c0V c1V c2V cfV zVX c0VX c1VX c2VX cfVX
    have VW := tuck (TV.new HNVW.out)
    have hb := below1 u52 (.cells #[.int .i64 X.kind, .int .i64 X.num, .slice aVW X.kids.length cVW] 25)
    replace V := tuck (V.out.below hb)
    replace VX := tuck (VX.out.below hb)
    replace HB := tuck (bAfter HB.out hb)
    clear hb HNVW
    generalize u52.alloc (.cells #[.int .i64 X.kind, .int .i64 X.num, .slice aVW X.kids.length cVW] 25) = U52 at *
    generalize u52.heap.size = gVW at *
    refine (HMX.out _ _ V.out.tm).mono ?_
    rintro e u53 ⟨rfl, hb⟩
    replace V := tuck (V.out.below hb)
    replace VX := tuck (VX.out.below hb)
    replace VW := tuck (VW.out.below hb)
    replace HB := tuck (bAfter HB.out hb)
    clear hb
    obtain ⟨zV, c0V, c1V, c2V, cfV⟩ := V.out.facts
    obtain ⟨zVX, c0VX, c1VX, c2VX, cfVX⟩ := VX.out.facts
    obtain ⟨zVW, c0VW, c1VW, c2VW, cfVW⟩ := VW.out.facts
    go_wp2_with fail
    refine (HTS.out _ _ _ VX.out.tm VW.out.tm).mono ?_
    rintro e u54 ⟨rfl, hb⟩
    clear zV c0V c1V c2V cfV zVX c0VX c1VX c2VX cfVX zVW c0VW c1VW c2VW cfVW
    replace V := tuck (V.out.below hb)
    replace VX := tuck (VX.out.below hb)
    replace VW := tuck (VW.out.below hb)
    replace HB := tuck (bAfter HB.out hb)
    clear hb
    obtain ⟨zV, c0V, c1V, c2V, cfV⟩ := V.out.facts
    obtain ⟨zVX, c0VX, c1VX, c2VX, cfVX⟩ := VX.out.facts
    obtain ⟨zVW, c0VW, c1VW, c2VW, cfVW⟩ := VW.out.facts
    go_wp2_with fail
    refine (HTS.out _ _ _ VX.out.tm VW.out.tm).mono ?_
    rintro e u55 ⟨rfl, hb⟩
    clear zV c0V c1V c2V cfV zVX c0VX c1VX c2VX cfVX zVW c0VW c1VW c2VW cfVW
    replace V := tuck (V.out.below hb)
    replace VX := tuck (VX.out.below hb)
    replace VW := tuck (VW.out.below hb)
    replace HB := tuck (bAfter HB.out hb)
    clear hb
    obtain ⟨zV, c0V, c1V, c2V, cfV⟩ := V.out.facts
    obtain ⟨zVX, c0VX, c1VX, c2VX, cfVX⟩ := VX.out.facts
    obtain ⟨zVW, c0VW, c1VW, c2VW, cfVW⟩ := VW.out.facts
    go_wp2_with fail
    go_ret
    exact ⟨rfl, HB.out⟩
  obtain ⟨X, hX⟩ : ∃ X, X = T.shift x 0 := ⟨_, rfl⟩
  have HIM : Hid (∀ (w : World) (v : Value), TmIn w 0 T v → Calls Try.prog 16 #[v, .int .i64 x, .int .i64 0] w (PairPost w X true)) := fun w v h => by
    have h2 := shiftI_p T x 0 w v h
    rwa [orZero_yes hP, tr_of hP, ← hX] at h2
  have HSP : Hid (∀ (w : World) (v : Value), TmIn w 0 T v → Calls Try.prog 17 #[v, .int .i64 x, .int .i64 0] w (PairPost w X true)) := fun w v h => by
    have h2 := shiftS_p T x 0 w v h
    rwa [orZero_yes hP, tr_of hP, ← hX] at h2
  have hXV : X.Valid := hX ▸ hP.2.2.2.2.2.2
  have hTV : T.Valid := hP.1
  have HTS : Hid (∀ (w : World) (v1 v2 : Value), TmIn w 0 X v1 → TmIn w 0 X v2 → Calls Try.prog 18 #[v1, v2] w (BoolPost w true)) := same_v hXV
  have hx20 : -20 ≤ x ∧ x ≤ 20 := ⟨hP.2.1, hP.2.2.1⟩
  have HXV : Hid X.Valid := tuck hXV
  have HTV : Hid T.Valid := tuck hTV
  have HP : Hid (ShiftOk T x 0) := tuck hP
  have HX : Hid (X = T.shift x 0) := tuck hX
  clear hX hP hXV hTV
  refine (HIM.out _ _ V.out.tm).mono ?_
  rintro e u1 ⟨hb, vv, rfl, ss, rfl, hin⟩
  obtain ⟨aVX, cVX, rfl⟩ := hin.form
  replace V := tuck (V.out.below hb)
  replace HB := tuck (bAfter HB.out hb)
  have HNVX := tuck hin
  clear hb hin
  obtain ⟨zV, c0V, c1V, c2V, cfV⟩ := V.out.facts
  go_wp2_with fail
  clear zV c0V c1V c2V cfV
  have VX := tuck (TV.new HNVX.out)
  have hb := below1 u1 (.cells #[.int .i64 X.kind, .int .i64 X.num, .slice aVX X.kids.length cVX] 25)
  replace V := tuck (V.out.below hb)
  replace HB := tuck (bAfter HB.out hb)
  clear hb HNVX
  generalize u1.alloc (.cells #[.int .i64 X.kind, .int .i64 X.num, .slice aVX X.kids.length cVX] 25) = U1 at *
  generalize u1.heap.size = gVX at *
  refine (HSP.out _ _ V.out.tm).mono ?_
  rintro e u2 ⟨hb, vv, rfl, ss, rfl, hin⟩
  obtain ⟨aVW, cVW, rfl⟩ := hin.form
  replace V := tuck (V.out.below hb)
  replace VX := tuck (VX.out.below hb)
  replace HB := tuck (bAfter HB.out hb)
  have HNVW := tuck hin
  clear hb hin
  obtain ⟨zV, c0V, c1V, c2V, cfV⟩ := V.out.facts
  obtain ⟨zVX, c0VX, c1VX, c2VX, cfVX⟩ := VX.out.facts
  go_wp2_with fail
  clear zV c0V c1V c2V cfV zVX c0VX c1VX c2VX cfVX
  have VW := tuck (TV.new HNVW.out)
  have hb := below1 u2 (.cells #[.int .i64 X.kind, .int .i64 X.num, .slice aVW X.kids.length cVW] 25)
  replace V := tuck (V.out.below hb)
  replace VX := tuck (VX.out.below hb)
  replace HB := tuck (bAfter HB.out hb)
  clear hb HNVW
  generalize u2.alloc (.cells #[.int .i64 X.kind, .int .i64 X.num, .slice aVW X.kids.length cVW] 25) = U2 at *
  generalize u2.heap.size = gVW at *
  obtain ⟨m, hm⟩ : ∃ m : Nat, T.most 0 = m := ⟨(T.most 0).toNat, by have := T.most_ge 0; omega⟩
  have hm1 : m ≤ 21 := by have := most_valid HTV.out; omega
  have e1 : maxFreeOf T = m := by unfold maxFreeOf; rw [if_pos HTV.out, hm]
  rw [e1] at HMX
  have hk := Tm.most_shift x T 0 HP.out.2.2.2.2.2.1
  rw [hm, ← HX.out] at hk
  have HK := tuck hk
  clear e1 hk
  refine (HMX.out _ _ V.out.tm).mono ?_
  rintro e u3 ⟨rfl, hb⟩
  replace V := tuck (V.out.below hb)
  replace VX := tuck (VX.out.below hb)
  replace VW := tuck (VW.out.below hb)
  replace HB := tuck (bAfter HB.out hb)
  clear hb
  obtain ⟨zV, c0V, c1V, c2V, cfV⟩ := V.out.facts
  obtain ⟨zVX, c0VX, c1VX, c2VX, cfVX⟩ := VX.out.facts
  obtain ⟨zVW, c0VW, c1VW, c2VW, cfVW⟩ := VW.out.facts
  go_wp2_with fail
  refine (HTS.out _ _ _ VX.out.tm VW.out.tm).mono ?_
  rintro e u4 ⟨rfl, hb⟩
  clear zV c0V c1V c2V cfV zVX c0VX c1VX c2VX cfVX zVW c0VW c1VW c2VW cfVW
  replace V := tuck (V.out.below hb)
  replace VX := tuck (VX.out.below hb)
  replace VW := tuck (VW.out.below hb)
  replace HB := tuck (bAfter HB.out hb)
  clear hb
  by_cases hm0 : m = 0
  · have hm0' : ((m : Int) == 0) = true := by simpa using hm0
    have hXT : X = T := HK.out.1 (by omega)
    have HTT : Hid (∀ (w : World) (v1 v2 : Value), TmIn w 0 X v1 → TmIn w 0 T v2 → Calls Try.prog 18 #[v1, v2] w (BoolPost w true)) := fun w v1 v2 h1 h2 => by rw [hXT] at h1; exact same_v HTV.out w v1 v2 h1 h2
    clear hXT
    obtain ⟨zV, c0V, c1V, c2V, cfV⟩ := V.out.facts
    obtain ⟨zVX, c0VX, c1VX, c2VX, cfVX⟩ := VX.out.facts
    obtain ⟨zVW, c0VW, c1VW, c2VW, cfVW⟩ := VW.out.facts
    go_wp2_with fail
    refine (HTT.out _ _ _ VX.out.tm V.out.tm).mono ?_
    rintro e u61 ⟨rfl, hb⟩
    clear zV c0V c1V c2V cfV zVX c0VX c1VX c2VX cfVX zVW c0VW c1VW c2VW cfVW
    replace V := tuck (V.out.below hb)
    replace VX := tuck (VX.out.below hb)
    replace VW := tuck (VW.out.below hb)
    replace HB := tuck (bAfter HB.out hb)
    clear hb
    obtain ⟨zV, c0V, c1V, c2V, cfV⟩ := V.out.facts
    obtain ⟨zVX, c0VX, c1VX, c2VX, cfVX⟩ := VX.out.facts
    obtain ⟨zVW, c0VW, c1VW, c2VW, cfVW⟩ := VW.out.facts
    go_wp2_with fail
    go_ret
    exact ⟨rfl, HB.out⟩
  have hm0' : ((m : Int) == 0) = false := by simpa using hm0
  have HMF : Hid (∀ (w : World) (v : Value), TmIn w 0 X v → Calls Try.prog 26 #[v] w (IntPost w ((m : Int) + x))) := fun w v h => by
    have h2 := maxFreeI_any X w v h
    have h3 := (HK.out.2.1 (by omega)).1
    rwa [show maxFreeOf X = (m : Int) + x by unfold maxFreeOf; rw [if_pos HXV.out, h3]] at h2
  have hmx : 0 ≤ (m : Int) + x := by have := (HK.out.2.1 (by omega)).2; omega
  obtain ⟨zV, c0V, c1V, c2V, cfV⟩ := V.out.facts
  obtain ⟨zVX, c0VX, c1VX, c2VX, cfVX⟩ := VX.out.facts
  obtain ⟨zVW, c0VW, c1VW, c2VW, cfVW⟩ := VW.out.facts
  go_wp2_with fail
  refine (HMF.out _ _ VX.out.tm).mono ?_
  rintro e u5 ⟨rfl, hb⟩
  clear zV c0V c1V c2V cfV zVX c0VX c1VX c2VX cfVX zVW c0VW c1VW c2VW cfVW
  replace V := tuck (V.out.below hb)
  replace VX := tuck (VX.out.below hb)
  replace VW := tuck (VW.out.below hb)
  replace HB := tuck (bAfter HB.out hb)
  clear hb
  obtain ⟨zV, c0V, c1V, c2V, cfV⟩ := V.out.facts
  obtain ⟨zVX, c0VX, c1VX, c2VX, cfVX⟩ := VX.out.facts
  obtain ⟨zVW, c0VW, c1VW, c2VW, cfVW⟩ := VW.out.facts
  go_wp2_with fail
  go_ret
  exact ⟨rfl, HB.out⟩

set_option maxRecDepth 100000 in
theorem lifted (os : Os) (started : os.Started) (H : Type) (enc : TypeId × Value → H) :
    ReturnsInHanded {} Try.checked os 11 .any (Rows.fnFreeShiftSpec.pre6 enc Try.prog Try.f11 Rows.fnFreeShiftRow.domain false) (Rows.fnFreeShiftSpec.post enc Try.prog Try.f11 false true false false) := by
  refine returnsInHanded_of_change (C := Try.checked) own started (by kernel_rfl) Try.func11
    (ChangeSpec.witness6 (enc := enc) (C := Try.checked) false ⟨#[], #[.slice none 0 0], []⟩ 8 (by kernel_rfl) (by kernel_rfl) (by kernel_rfl) (by kernel_rfl)) ?_
  intro W base args ds gs before hval0 hW hcnd _
  have hval : ∀ (j : Nat) t v, Try.f11.params[j]? = some t → args[j]? = some v → Value.okWide Try.prog W .any base t v := hval0
  have hW' := hW
  obtain ⟨p, q, hA0, hV, rfl, hfz, hnd⟩ := hW
  have hA : DataW.TrodAll enc Try.prog W 0 (fun _ => true) true Try.f11.params.toList args.toList ds p := hA0
  rw [Try.params11] at hA hval
  obtain ⟨v0, vs0, d0, ds0, p0, q0, hargs, rfl, rfl, h0, r0⟩ := trodAll_cons hA
  obtain ⟨rfl, rfl, rfl⟩ := trodAll_nil r0
  obtain rfl : args = #[v0] := by cases args; simp_all
  obtain ⟨U0, ad0, bb0, oo0, len0, cap0, rfl, hlc0, hcm0, hbl0, hby0⟩ := open_bytes (hval 0 22 v0 rfl rfl) h0
  refine (walk U0 ad0 bb0 oo0 len0 cap0 W hlc0 hcm0 hby0).mono fun e W' ⟨he, hb⟩ => ?_
  subst he
  exact ⟨_, rfl, law_post rfl rfl (fun gs h => by subst h; rfl) (by rw [Try.params11]; exact readable_FnFreeShift) laid hW' hb⟩

theorem over : Rows.fnFreeShiftRow.holds Try.pinned (OpenSpec.ofChange Rows.fnFreeShiftSpec) :=
  OpenClaim.holds_of_wide 11 Try.f11 rfl rfl rfl rfl rfl rfl rfl ⟨rfl, rfl, rfl, rfl, rfl⟩ rfl rfl rfl rfl rfl (by kernel_rfl) Try.func11 (by kernel_rfl)
    (of_decide_eq_true (by kernel_rfl)) (by unfold Func.isWrapper; first | (rw [if_pos (by decide +kernel)]; kernel_rfl) | (rw [if_neg (by decide +kernel)]; exact ⟨rfl, rfl⟩))
    (fun os started H enc _ => lifted os started H enc)

theorem proved : Rows.FnFreeShiftSaid :=
  over
end Go.Proofs.Ytmihfbopahoejaa.fnFreeShift
