/-
  The law FnStepInner: whatever the bytes, a step from inside does not change the normal term.
-/
import Derived.Test.YtabbbnddfcbdiaaGreatB14
import Derived.Test.YtabbbnddfcbdiaaGreatC02
import Derived.Test.YtabbbnddfcbdiaaGreatC29
import Derived.IntWalk
namespace Go.Proofs.YtabbbnddfcbdiaaGreat.fnStepInner
open Go.ChangeShapes Go.WideShapes Go.ChangeAt Go.RowKit Go.Deep
set_option linter.unusedVariables false
theorem readable_FnStepInner : ∀ t ∈ (#[22] : Array TypeId).toList, Tryz.prog.readableRec t = true ∧ t < Tryz.prog.types.size := by
 intro t ht
 simp at ht
 subst ht
 exact ⟨by kernel_rfl, of_decide_eq_true (by kernel_rfl)⟩
theorem laid : laidOutB Tryz.prog = true := by kernel_rfl
set_option maxRecDepth 100000 in
set_option maxHeartbeats 40000000 in
theorem walk (U : Nat → Int) (a : Option Addr) (b o len cap : Nat) (w : World) (hlc : len ≤ cap) (hcm : cap ≤ maxLen) (hby : Bytes U a b o len w) : Calls Tryz.prog 6 #[.slice a len cap] w fun e w' => e = .returned (.bool true) ∧ Below w.heap.size w w' := by
 unfold maxLen at hcm
 by_cases hl : 1048576 < len
 ·have hl' : (1048576 : Int) < (len : Int) := by omega
  clear hby
  go_enter Tryz.func6, Tryz.ntmps6
  go_wp2
  go_ret
  exact ⟨rfl, Below.refl _ _⟩
 have hl' : ¬ (1048576 : Int) < (len : Int) := by omega
 have HD := tuck (dStepInner_any w (by omega) hlc hby)
 clear hby
 go_enter Tryz.func6, Tryz.ntmps6
 go_wp2_with fail
 refine HD.out.mono ?_
 rintro e w1 ⟨T, v, rfl, ⟨s, rfl, hin⟩, hsz, hb⟩
 obtain ⟨aV, cV, rfl⟩ := hin.form
 have V := tuck (TV.new (hin.mono (Nat.zero_le _)))
 have HB := tuck (bAfter hb (below1 w1 (.cells #[.int .i64 T.kind, .int .i64 T.num, .slice aV T.kids.length cV] 25)))
 have HSZ : Hid (sizes T.kids ≤ 1048576) := tuck (by have := T.size_eq; omega)
 clear hin hb HD hsz
 go_wp2_with fail
 generalize w1.alloc (.cells #[.int .i64 T.kind, .int .i64 T.num, .slice aV T.kids.length cV] 25) = U0 at *
 generalize w1.heap.size = gV at *
 by_cases hv : T.Valid
 rotate_left
 ·skip
  obtain ⟨X, hX⟩ : ∃ X, X = zeroT := ⟨_, rfl⟩
  have HIM : Hid (∀ (w : World) (v : Value), TmIn w 0 T v → Calls Tryz.prog 27 #[v] w (SCodePost w 3 X)) := fun w v h => by
   have h2 := stepN_p T w v h; rwa [stepOut_no hv, ← hX] at h2
  have HSP : Hid (∀ (w : World) (v : Value), TmIn w 0 T v → Calls Tryz.prog 28 #[v] w (SCodePost w 3 X)) := fun w v h => by
   have h2 := stepNS_any T HSZ.out w v h; rwa [stepOut_no hv, ← hX] at h2
  have HTS : Hid (∀ (w : World) (v1 v2 : Value), TmIn w 0 X v1 → TmIn w 0 X v2 → Calls Tryz.prog 20 #[v1, v2] w (BoolPost w true)) := fun w v1 v2 h1 h2 => by rw [hX] at h1 h2; exact same_z w v1 v2 h1 h2
  clear hX
  refine (HIM.out _ _ V.out.tm).mono ?_
  rintro e u21 ⟨hb, vv, rfl, ss, rfl, hin⟩
  obtain ⟨aVX, cVX, rfl⟩ := hin.form
  replace V := tuck (V.out.below hb)
  replace HB := tuck (bAfter HB.out hb)
  have HNVX := tuck hin
  clear hb hin
  obtain ⟨zV, c0V, c1V, c2V, cfV⟩ := V.out.facts
  go_wp2_with fail
  clear zV c0V c1V c2V cfV
  have VX := tuck (TV.new HNVX.out)
  have hb := below1 u21 (.cells #[.int .i64 X.kind, .int .i64 X.num, .slice aVX X.kids.length cVX] 25)
  replace V := tuck (V.out.below hb)
  replace HB := tuck (bAfter HB.out hb)
  clear hb HNVX
  generalize u21.alloc (.cells #[.int .i64 X.kind, .int .i64 X.num, .slice aVX X.kids.length cVX] 25) = U21 at *
  generalize u21.heap.size = gVX at *
  refine (HSP.out _ _ V.out.tm).mono ?_
  rintro e u22 ⟨hb, vv, rfl, ss, rfl, hin⟩
  obtain ⟨aVW, cVW, rfl⟩ := hin.form
  replace V := tuck (V.out.below hb)
  replace VX := tuck (VX.out.below hb)
  replace HB := tuck (bAfter HB.out hb)
  have HNVW := tuck hin
  clear hb hin
  obtain ⟨zV, c0V, c1V, c2V, cfV⟩ := V.out.facts
  obtain ⟨zVX, c0VX, c1VX, c2VX, cfVX⟩ := VX.out.facts
  go_wp2_with fail
  clear zV c0V c1V c2V cfV zVX c0VX c1VX c2VX cfVX
  have VW := tuck (TV.new HNVW.out)
  have hb := below1 u22 (.cells #[.int .i64 X.kind, .int .i64 X.num, .slice aVW X.kids.length cVW] 25)
  replace V := tuck (V.out.below hb)
  replace VX := tuck (VX.out.below hb)
  replace HB := tuck (bAfter HB.out hb)
  clear hb HNVW
  generalize u22.alloc (.cells #[.int .i64 X.kind, .int .i64 X.num, .slice aVW X.kids.length cVW] 25) = U22 at *
  generalize u22.heap.size = gVW at *
  refine (HTS.out _ _ _ VX.out.tm VW.out.tm).mono ?_
  rintro e u23 ⟨rfl, hb⟩
  replace V := tuck (V.out.below hb)
  replace VX := tuck (VX.out.below hb)
  replace VW := tuck (VW.out.below hb)
  replace HB := tuck (bAfter HB.out hb)
  clear hb
  obtain ⟨zV, c0V, c1V, c2V, cfV⟩ := V.out.facts
  obtain ⟨zVX, c0VX, c1VX, c2VX, cfVX⟩ := VX.out.facts
  obtain ⟨zVW, c0VW, c1VW, c2VW, cfVW⟩ := VW.out.facts
  go_wp2_with fail
  refine (HTS.out _ _ _ VX.out.tm VW.out.tm).mono ?_
  rintro e u24 ⟨rfl, hb⟩
  clear zV c0V c1V c2V cfV zVX c0VX c1VX c2VX cfVX zVW c0VW c1VW c2VW cfVW
  replace V := tuck (V.out.below hb)
  replace VX := tuck (VX.out.below hb)
  replace VW := tuck (VW.out.below hb)
  replace HB := tuck (bAfter HB.out hb)
  clear hb
  obtain ⟨zV, c0V, c1V, c2V, cfV⟩ := V.out.facts
  obtain ⟨zVX, c0VX, c1VX, c2VX, cfVX⟩ := VX.out.facts
  obtain ⟨zVW, c0VW, c1VW, c2VW, cfVW⟩ := VW.out.facts
  go_wp2_with fail
  go_ret
  exact ⟨rfl, HB.out⟩
 cases hs : T.step true false with
 | none =>
  have HIM : Hid (∀ (w : World) (v : Value), TmIn w 0 T v → Calls Tryz.prog 27 #[v] w (SCodePost w 0 T)) := fun w v h => by
   have h2 := stepN_p T w v h; rwa [stepOut_none hv hs] at h2
  have HSP : Hid (∀ (w : World) (v : Value), TmIn w 0 T v → Calls Tryz.prog 28 #[v] w (SCodePost w 0 T)) := fun w v h => by
   have h2 := stepNS_any T HSZ.out w v h; rwa [stepOut_none hv hs] at h2
  have HTS : Hid (∀ (w : World) (v1 v2 : Value), TmIn w 0 T v1 → TmIn w 0 T v2 → Calls Tryz.prog 20 #[v1, v2] w (BoolPost w true)) := same_v hv
  clear hs
  refine (HIM.out _ _ V.out.tm).mono ?_
  rintro e u21 ⟨hb, vv, rfl, ss, rfl, hin⟩
  obtain ⟨aVX, cVX, rfl⟩ := hin.form
  replace V := tuck (V.out.below hb)
  replace HB := tuck (bAfter HB.out hb)
  have HNVX := tuck hin
  clear hb hin
  obtain ⟨zV, c0V, c1V, c2V, cfV⟩ := V.out.facts
  go_wp2_with fail
  clear zV c0V c1V c2V cfV
  have VX := tuck (TV.new HNVX.out)
  have hb := below1 u21 (.cells #[.int .i64 T.kind, .int .i64 T.num, .slice aVX T.kids.length cVX] 25)
  replace V := tuck (V.out.below hb)
  replace HB := tuck (bAfter HB.out hb)
  clear hb HNVX
  generalize u21.alloc (.cells #[.int .i64 T.kind, .int .i64 T.num, .slice aVX T.kids.length cVX] 25) = U21 at *
  generalize u21.heap.size = gVX at *
  refine (HSP.out _ _ V.out.tm).mono ?_
  rintro e u22 ⟨hb, vv, rfl, ss, rfl, hin⟩
  obtain ⟨aVW, cVW, rfl⟩ := hin.form
  replace V := tuck (V.out.below hb)
  replace VX := tuck (VX.out.below hb)
  replace HB := tuck (bAfter HB.out hb)
  have HNVW := tuck hin
  clear hb hin
  obtain ⟨zV, c0V, c1V, c2V, cfV⟩ := V.out.facts
  obtain ⟨zVX, c0VX, c1VX, c2VX, cfVX⟩ := VX.out.facts
  go_wp2_with fail
  clear zV c0V c1V c2V cfV zVX c0VX c1VX c2VX cfVX
  have VW := tuck (TV.new HNVW.out)
  have hb := below1 u22 (.cells #[.int .i64 T.kind, .int .i64 T.num, .slice aVW T.kids.length cVW] 25)
  replace V := tuck (V.out.below hb)
  replace VX := tuck (VX.out.below hb)
  replace HB := tuck (bAfter HB.out hb)
  clear hb HNVW
  generalize u22.alloc (.cells #[.int .i64 T.kind, .int .i64 T.num, .slice aVW T.kids.length cVW] 25) = U22 at *
  generalize u22.heap.size = gVW at *
  refine (HTS.out _ _ _ VX.out.tm VW.out.tm).mono ?_
  rintro e u23 ⟨rfl, hb⟩
  replace V := tuck (V.out.below hb)
  replace VX := tuck (VX.out.below hb)
  replace VW := tuck (VW.out.below hb)
  replace HB := tuck (bAfter HB.out hb)
  clear hb
  obtain ⟨zV, c0V, c1V, c2V, cfV⟩ := V.out.facts
  obtain ⟨zVX, c0VX, c1VX, c2VX, cfVX⟩ := VX.out.facts
  obtain ⟨zVW, c0VW, c1VW, c2VW, cfVW⟩ := VW.out.facts
  go_wp2_with fail
  refine (HTS.out _ _ _ VX.out.tm VW.out.tm).mono ?_
  rintro e u24 ⟨rfl, hb⟩
  clear zV c0V c1V c2V cfV zVX c0VX c1VX c2VX cfVX zVW c0VW c1VW c2VW cfVW
  replace V := tuck (V.out.below hb)
  replace VX := tuck (VX.out.below hb)
  replace VW := tuck (VW.out.below hb)
  replace HB := tuck (bAfter HB.out hb)
  clear hb
  obtain ⟨zV, c0V, c1V, c2V, cfV⟩ := V.out.facts
  obtain ⟨zVX, c0VX, c1VX, c2VX, cfVX⟩ := VX.out.facts
  obtain ⟨zVW, c0VW, c1VW, c2VW, cfVW⟩ := VW.out.facts
  go_wp2_with fail
  go_ret
  exact ⟨rfl, HB.out⟩
 | some X =>
  by_cases hl : X.Valid
  rotate_left
  ·skip
   obtain ⟨X, hX⟩ : ∃ X, X = zeroT := ⟨_, rfl⟩
   have HIM : Hid (∀ (w : World) (v : Value), TmIn w 0 T v → Calls Tryz.prog 27 #[v] w (SCodePost w 2 X)) := fun w v h => by
    have h2 := stepN_p T w v h; rwa [stepOut_large hv hs hl, ← hX] at h2
   have HSP : Hid (∀ (w : World) (v : Value), TmIn w 0 T v → Calls Tryz.prog 28 #[v] w (SCodePost w 2 X)) := fun w v h => by
    have h2 := stepNS_any T HSZ.out w v h; rwa [stepOut_large hv hs hl, ← hX] at h2
   have HTS : Hid (∀ (w : World) (v1 v2 : Value), TmIn w 0 X v1 → TmIn w 0 X v2 → Calls Tryz.prog 20 #[v1, v2] w (BoolPost w true)) := fun w v1 v2 h1 h2 => by rw [hX] at h1 h2; exact same_z w v1 v2 h1 h2
   clear hX
   refine (HIM.out _ _ V.out.tm).mono ?_
   rintro e u21 ⟨hb, vv, rfl, ss, rfl, hin⟩
   obtain ⟨aVX, cVX, rfl⟩ := hin.form
   replace V := tuck (V.out.below hb)
   replace HB := tuck (bAfter HB.out hb)
   have HNVX := tuck hin
   clear hb hin
   obtain ⟨zV, c0V, c1V, c2V, cfV⟩ := V.out.facts
   go_wp2_with fail
   clear zV c0V c1V c2V cfV
   have VX := tuck (TV.new HNVX.out)
   have hb := below1 u21 (.cells #[.int .i64 X.kind, .int .i64 X.num, .slice aVX X.kids.length cVX] 25)
   replace V := tuck (V.out.below hb)
   replace HB := tuck (bAfter HB.out hb)
   clear hb HNVX
   generalize u21.alloc (.cells #[.int .i64 X.kind, .int .i64 X.num, .slice aVX X.kids.length cVX] 25) = U21 at *
   generalize u21.heap.size = gVX at *
   refine (HSP.out _ _ V.out.tm).mono ?_
   rintro e u22 ⟨hb, vv, rfl, ss, rfl, hin⟩
   obtain ⟨aVW, cVW, rfl⟩ := hin.form
   replace V := tuck (V.out.below hb)
   replace VX := tuck (VX.out.below hb)
   replace HB := tuck (bAfter HB.out hb)
   have HNVW := tuck hin
   clear hb hin
   obtain ⟨zV, c0V, c1V, c2V, cfV⟩ := V.out.facts
   obtain ⟨zVX, c0VX, c1VX, c2VX, cfVX⟩ := VX.out.facts
   go_wp2_with fail
   clear zV c0V c1V c2V cfV zVX c0VX c1VX c2VX cfVX
   have VW := tuck (TV.new HNVW.out)
   have hb := below1 u22 (.cells #[.int .i64 X.kind, .int .i64 X.num, .slice aVW X.kids.length cVW] 25)
   replace V := tuck (V.out.below hb)
   replace VX := tuck (VX.out.below hb)
   replace HB := tuck (bAfter HB.out hb)
   clear hb HNVW
   generalize u22.alloc (.cells #[.int .i64 X.kind, .int .i64 X.num, .slice aVW X.kids.length cVW] 25) = U22 at *
   generalize u22.heap.size = gVW at *
   refine (HTS.out _ _ _ VX.out.tm VW.out.tm).mono ?_
   rintro e u23 ⟨rfl, hb⟩
   replace V := tuck (V.out.below hb)
   replace VX := tuck (VX.out.below hb)
   replace VW := tuck (VW.out.below hb)
   replace HB := tuck (bAfter HB.out hb)
   clear hb
   obtain ⟨zV, c0V, c1V, c2V, cfV⟩ := V.out.facts
   obtain ⟨zVX, c0VX, c1VX, c2VX, cfVX⟩ := VX.out.facts
   obtain ⟨zVW, c0VW, c1VW, c2VW, cfVW⟩ := VW.out.facts
   go_wp2_with fail
   refine (HTS.out _ _ _ VX.out.tm VW.out.tm).mono ?_
   rintro e u24 ⟨rfl, hb⟩
   clear zV c0V c1V c2V cfV zVX c0VX c1VX c2VX cfVX zVW c0VW c1VW c2VW cfVW
   replace V := tuck (V.out.below hb)
   replace VX := tuck (VX.out.below hb)
   replace VW := tuck (VW.out.below hb)
   replace HB := tuck (bAfter HB.out hb)
   clear hb
   obtain ⟨zV, c0V, c1V, c2V, cfV⟩ := V.out.facts
   obtain ⟨zVX, c0VX, c1VX, c2VX, cfVX⟩ := VX.out.facts
   obtain ⟨zVW, c0VW, c1VW, c2VW, cfVW⟩ := VW.out.facts
   go_wp2_with fail
   go_ret
   exact ⟨rfl, HB.out⟩
  have HIM : Hid (∀ (w : World) (v : Value), TmIn w 0 T v → Calls Tryz.prog 27 #[v] w (SCodePost w 1 X)) := fun w v h => by
   have h2 := stepN_p T w v h; rwa [stepOut_took hv hs hl] at h2
  have HSP : Hid (∀ (w : World) (v : Value), TmIn w 0 T v → Calls Tryz.prog 28 #[v] w (SCodePost w 1 X)) := fun w v h => by
   have h2 := stepNS_any T HSZ.out w v h; rwa [stepOut_took hv hs hl] at h2
  have HTS : Hid (∀ (w : World) (v1 v2 : Value), TmIn w 0 X v1 → TmIn w 0 X v2 → Calls Tryz.prog 20 #[v1, v2] w (BoolPost w true)) := same_v hl
  obtain ⟨c1, hc1⟩ : ∃ q0, q0 = normC false false T 200 := ⟨_, rfl⟩
  obtain ⟨X1, hX1⟩ : ∃ Q, Q = normT false false T 200 := ⟨_, rfl⟩
  have H1 : Hid (∀ (w : World) (v : Value), TmIn w 0 T v → Calls Tryz.prog 16 #[v, .int .i64 200] w (SCodePost w c1 X1)) := fun w v h => by
   have h2 := normI_p T 200 w v h; rwa [← hc1, ← hX1] at h2
  obtain ⟨c2, hc2⟩ : ∃ q0, q0 = normC false false X 200 := ⟨_, rfl⟩
  obtain ⟨X2, hX2⟩ : ∃ Q, Q = normT false false X 200 := ⟨_, rfl⟩
  have H2 : Hid (∀ (w : World) (v : Value), TmIn w 0 X v → Calls Tryz.prog 16 #[v, .int .i64 200] w (SCodePost w c2 X2)) := fun w v h => by
   have h2 := normI_p X 200 w v h; rwa [← hc2, ← hX2] at h2
  obtain ⟨mx, hmx⟩ : ∃ m, maxFreeOf X = m := ⟨_, rfl⟩
  obtain ⟨mt, hmt⟩ : ∃ m, maxFreeOf T = m := ⟨_, rfl⟩
  have hle : decide (mx ≤ mt) = true := decide_eq_true (by rw [← hmx, ← hmt]; exact most_le hv hl (.one (Tm.step_par T X hs)))
  have HMX := tuck (maxFreeI_p hmx)
  have HMT := tuck (maxFreeI_p hmt)
  clear hmx hmt
  have HEQ : Hid (c1 = 0 → c2 = 0 → X1.Valid ∧ X1 = X2) := tuck fun h1 h2 => by
   have hy1 : NrmYes false false T 200 X1 := hX1 ▸ nrm_yes (by rw [← hc1]; exact h1)
   have hy2 : NrmYes false false X 200 X2 := hX2 ▸ nrm_yes (by rw [← hc2]; exact h2)
   exact ⟨hy1.valid, norm_same hv.wf (.refl _) (.one (Tm.step_par T X hs)) hy1 hy2⟩
  have HNT : Hid (∀ (w : World) (v : Value), TmIn w 0 T v → Calls Tryz.prog 22 #[v] w (BoolPost w false)) := fun w v h => by
   have h2 := normalI_any T w v h; rwa [normal_no hv hs] at h2
  clear hs hc1 hX1 hc2 hX2 hv hl
  refine (HIM.out _ _ V.out.tm).mono ?_
  rintro e u1 ⟨hb, vv, rfl, ss, rfl, hin⟩
  obtain ⟨aVX, cVX, rfl⟩ := hin.form
  replace V := tuck (V.out.below hb)
  replace HB := tuck (bAfter HB.out hb)
  have HNVX := tuck hin
  clear hb hin
  obtain ⟨zV, c0V, c1V, c2V, cfV⟩ := V.out.facts
  go_wp2_with fail
  clear zV c0V c1V c2V cfV
  have VX := tuck (TV.new HNVX.out)
  have hb := below1 u1 (.cells #[.int .i64 X.kind, .int .i64 X.num, .slice aVX X.kids.length cVX] 25)
  replace V := tuck (V.out.below hb)
  replace HB := tuck (bAfter HB.out hb)
  clear hb HNVX
  generalize u1.alloc (.cells #[.int .i64 X.kind, .int .i64 X.num, .slice aVX X.kids.length cVX] 25) = U1 at *
  generalize u1.heap.size = gVX at *
  refine (HSP.out _ _ V.out.tm).mono ?_
  rintro e u2 ⟨hb, vv, rfl, ss, rfl, hin⟩
  obtain ⟨aVW, cVW, rfl⟩ := hin.form
  replace V := tuck (V.out.below hb)
  replace VX := tuck (VX.out.below hb)
  replace HB := tuck (bAfter HB.out hb)
  have HNVW := tuck hin
  clear hb hin
  obtain ⟨zV, c0V, c1V, c2V, cfV⟩ := V.out.facts
  obtain ⟨zVX, c0VX, c1VX, c2VX, cfVX⟩ := VX.out.facts
  go_wp2_with fail
  clear zV c0V c1V c2V cfV zVX c0VX c1VX c2VX cfVX
  have VW := tuck (TV.new HNVW.out)
  have hb := below1 u2 (.cells #[.int .i64 X.kind, .int .i64 X.num, .slice aVW X.kids.length cVW] 25)
  replace V := tuck (V.out.below hb)
  replace VX := tuck (VX.out.below hb)
  replace HB := tuck (bAfter HB.out hb)
  clear hb HNVW
  generalize u2.alloc (.cells #[.int .i64 X.kind, .int .i64 X.num, .slice aVW X.kids.length cVW] 25) = U2 at *
  generalize u2.heap.size = gVW at *
  refine (HTS.out _ _ _ VX.out.tm VW.out.tm).mono ?_
  rintro e u3 ⟨rfl, hb⟩
  replace V := tuck (V.out.below hb)
  replace VX := tuck (VX.out.below hb)
  replace VW := tuck (VW.out.below hb)
  replace HB := tuck (bAfter HB.out hb)
  clear hb
  obtain ⟨zV, c0V, c1V, c2V, cfV⟩ := V.out.facts
  obtain ⟨zVX, c0VX, c1VX, c2VX, cfVX⟩ := VX.out.facts
  obtain ⟨zVW, c0VW, c1VW, c2VW, cfVW⟩ := VW.out.facts
  go_wp2_with fail
  refine (H1.out _ _ V.out.tm).mono ?_
  rintro e u4 ⟨hb, vv, rfl, ss, rfl, hin⟩
  obtain ⟨aVA, cVA, rfl⟩ := hin.form
  clear zV c0V c1V c2V cfV zVX c0VX c1VX c2VX cfVX zVW c0VW c1VW c2VW cfVW
  replace V := tuck (V.out.below hb)
  replace VX := tuck (VX.out.below hb)
  replace VW := tuck (VW.out.below hb)
  replace HB := tuck (bAfter HB.out hb)
  have HNVA := tuck hin
  clear hb hin
  obtain ⟨zV, c0V, c1V, c2V, cfV⟩ := V.out.facts
  obtain ⟨zVX, c0VX, c1VX, c2VX, cfVX⟩ := VX.out.facts
  obtain ⟨zVW, c0VW, c1VW, c2VW, cfVW⟩ := VW.out.facts
  go_wp2_with fail
  clear zV c0V c1V c2V cfV zVX c0VX c1VX c2VX cfVX zVW c0VW c1VW c2VW cfVW
  have VA := tuck (TV.new HNVA.out)
  have hb := below1 u4 (.cells #[.int .i64 X1.kind, .int .i64 X1.num, .slice aVA X1.kids.length cVA] 25)
  replace V := tuck (V.out.below hb)
  replace VX := tuck (VX.out.below hb)
  replace VW := tuck (VW.out.below hb)
  replace HB := tuck (bAfter HB.out hb)
  clear hb HNVA
  generalize u4.alloc (.cells #[.int .i64 X1.kind, .int .i64 X1.num, .slice aVA X1.kids.length cVA] 25) = U4 at *
  generalize u4.heap.size = gVA at *
  refine (H2.out _ _ VX.out.tm).mono ?_
  rintro e u5 ⟨hb, vv, rfl, ss, rfl, hin⟩
  obtain ⟨aVB, cVB, rfl⟩ := hin.form
  replace V := tuck (V.out.below hb)
  replace VX := tuck (VX.out.below hb)
  replace VW := tuck (VW.out.below hb)
  replace VA := tuck (VA.out.below hb)
  replace HB := tuck (bAfter HB.out hb)
  have HNVB := tuck hin
  clear hb hin
  obtain ⟨zV, c0V, c1V, c2V, cfV⟩ := V.out.facts
  obtain ⟨zVX, c0VX, c1VX, c2VX, cfVX⟩ := VX.out.facts
  obtain ⟨zVW, c0VW, c1VW, c2VW, cfVW⟩ := VW.out.facts
  obtain ⟨zVA, c0VA, c1VA, c2VA, cfVA⟩ := VA.out.facts
  go_wp2_with fail
  clear zV c0V c1V c2V cfV zVX c0VX c1VX c2VX cfVX zVW c0VW c1VW c2VW cfVW zVA c0VA c1VA c2VA cfVA
  have VB := tuck (TV.new HNVB.out)
  have hb := below1 u5 (.cells #[.int .i64 X2.kind, .int .i64 X2.num, .slice aVB X2.kids.length cVB] 25)
  replace V := tuck (V.out.below hb)
  replace VX := tuck (VX.out.below hb)
  replace VW := tuck (VW.out.below hb)
  replace VA := tuck (VA.out.below hb)
  replace HB := tuck (bAfter HB.out hb)
  clear hb HNVB
  generalize u5.alloc (.cells #[.int .i64 X2.kind, .int .i64 X2.num, .slice aVB X2.kids.length cVB] 25) = U5 at *
  generalize u5.heap.size = gVB at *
  by_cases hnc1 : c1 ≠ 0
  ·skip
   have kc1 : (c1 != 0) = true := by rw [bne_iff_ne]; exact hnc1
   clear HEQ
   have HT12 : ∀ w' : World, ((fun w' => Below U5.heap.size U5 w' ∧ (gVX < w'.heap.size ∧ w'.cell? ⟨gVX, 0, none⟩ = some (.int .i64 X.kind) ∧ w'.cell? ⟨gVX, 1, none⟩ = some (.int .i64 X.num) ∧ w'.cell? ⟨gVX, 2, none⟩ = some (.slice aVX X.kids.length cVX)) ∧ (gV < w'.heap.size ∧ w'.cell? ⟨gV, 0, none⟩ = some (.int .i64 T.kind) ∧ w'.cell? ⟨gV, 1, none⟩ = some (.int .i64 T.num) ∧ w'.cell? ⟨gV, 2, none⟩ = some (.slice aV T.kids.length cV)) ∧ (gVA < w'.heap.size ∧ w'.cell? ⟨gVA, 0, none⟩ = some (.int .i64 X1.kind) ∧ w'.cell? ⟨gVA, 1, none⟩ = some (.int .i64 X1.num) ∧ w'.cell? ⟨gVA, 2, none⟩ = some (.slice aVA X1.kids.length cVA)) ∧ (gVB < w'.heap.size ∧ w'.cell? ⟨gVB, 0, none⟩ = some (.int .i64 X2.kind) ∧ w'.cell? ⟨gVB, 1, none⟩ = some (.int .i64 X2.num) ∧ w'.cell? ⟨gVB, 2, none⟩ = some (.slice aVB X2.kids.length cVB)))) w' → ((fun w' => Below U5.heap.size U5 w' ∧ (gVX < w'.heap.size ∧ w'.cell? ⟨gVX, 0, none⟩ = some (.int .i64 X.kind) ∧ w'.cell? ⟨gVX, 1, none⟩ = some (.int .i64 X.num) ∧ w'.cell? ⟨gVX, 2, none⟩ = some (.slice aVX X.kids.length cVX)) ∧ (gV < w'.heap.size ∧ w'.cell? ⟨gV, 0, none⟩ = some (.int .i64 T.kind) ∧ w'.cell? ⟨gV, 1, none⟩ = some (.int .i64 T.num) ∧ w'.cell? ⟨gV, 2, none⟩ = some (.slice aV T.kids.length cV)) ∧ (gVA < w'.heap.size ∧ w'.cell? ⟨gVA, 0, none⟩ = some (.int .i64 X1.kind) ∧ w'.cell? ⟨gVA, 1, none⟩ = some (.int .i64 X1.num) ∧ w'.cell? ⟨gVA, 2, none⟩ = some (.slice aVA X1.kids.length cVA)) ∧ (gVB < w'.heap.size ∧ w'.cell? ⟨gVB, 0, none⟩ = some (.int .i64 X2.kind) ∧ w'.cell? ⟨gVB, 1, none⟩ = some (.int .i64 X2.num) ∧ w'.cell? ⟨gVB, 2, none⟩ = some (.slice aVB X2.kids.length cVB)))) w' := fun w' h => h
   refine AnyTwo.begin ((fun w' => Below U5.heap.size U5 w' ∧ (gVX < w'.heap.size ∧ w'.cell? ⟨gVX, 0, none⟩ = some (.int .i64 X.kind) ∧ w'.cell? ⟨gVX, 1, none⟩ = some (.int .i64 X.num) ∧ w'.cell? ⟨gVX, 2, none⟩ = some (.slice aVX X.kids.length cVX)) ∧ (gV < w'.heap.size ∧ w'.cell? ⟨gV, 0, none⟩ = some (.int .i64 T.kind) ∧ w'.cell? ⟨gV, 1, none⟩ = some (.int .i64 T.num) ∧ w'.cell? ⟨gV, 2, none⟩ = some (.slice aV T.kids.length cV)) ∧ (gVA < w'.heap.size ∧ w'.cell? ⟨gVA, 0, none⟩ = some (.int .i64 X1.kind) ∧ w'.cell? ⟨gVA, 1, none⟩ = some (.int .i64 X1.num) ∧ w'.cell? ⟨gVA, 2, none⟩ = some (.slice aVA X1.kids.length cVA)) ∧ (gVB < w'.heap.size ∧ w'.cell? ⟨gVB, 0, none⟩ = some (.int .i64 X2.kind) ∧ w'.cell? ⟨gVB, 1, none⟩ = some (.int .i64 X2.num) ∧ w'.cell? ⟨gVB, 2, none⟩ = some (.slice aVB X2.kids.length cVB)))) ((fun w' => Below U5.heap.size U5 w' ∧ (gVX < w'.heap.size ∧ w'.cell? ⟨gVX, 0, none⟩ = some (.int .i64 X.kind) ∧ w'.cell? ⟨gVX, 1, none⟩ = some (.int .i64 X.num) ∧ w'.cell? ⟨gVX, 2, none⟩ = some (.slice aVX X.kids.length cVX)) ∧ (gV < w'.heap.size ∧ w'.cell? ⟨gV, 0, none⟩ = some (.int .i64 T.kind) ∧ w'.cell? ⟨gV, 1, none⟩ = some (.int .i64 T.num) ∧ w'.cell? ⟨gV, 2, none⟩ = some (.slice aV T.kids.length cV)) ∧ (gVA < w'.heap.size ∧ w'.cell? ⟨gVA, 0, none⟩ = some (.int .i64 X1.kind) ∧ w'.cell? ⟨gVA, 1, none⟩ = some (.int .i64 X1.num) ∧ w'.cell? ⟨gVA, 2, none⟩ = some (.slice aVA X1.kids.length cVA)) ∧ (gVB < w'.heap.size ∧ w'.cell? ⟨gVB, 0, none⟩ = some (.int .i64 X2.kind) ∧ w'.cell? ⟨gVB, 1, none⟩ = some (.int .i64 X2.num) ∧ w'.cell? ⟨gVB, 2, none⟩ = some (.slice aVB X2.kids.length cVB)))) 23 (by kernel_rfl) ?_
   have hS1 : ((fun w' => Below U5.heap.size U5 w' ∧ (gVX < w'.heap.size ∧ w'.cell? ⟨gVX, 0, none⟩ = some (.int .i64 X.kind) ∧ w'.cell? ⟨gVX, 1, none⟩ = some (.int .i64 X.num) ∧ w'.cell? ⟨gVX, 2, none⟩ = some (.slice aVX X.kids.length cVX)) ∧ (gV < w'.heap.size ∧ w'.cell? ⟨gV, 0, none⟩ = some (.int .i64 T.kind) ∧ w'.cell? ⟨gV, 1, none⟩ = some (.int .i64 T.num) ∧ w'.cell? ⟨gV, 2, none⟩ = some (.slice aV T.kids.length cV)) ∧ (gVA < w'.heap.size ∧ w'.cell? ⟨gVA, 0, none⟩ = some (.int .i64 X1.kind) ∧ w'.cell? ⟨gVA, 1, none⟩ = some (.int .i64 X1.num) ∧ w'.cell? ⟨gVA, 2, none⟩ = some (.slice aVA X1.kids.length cVA)) ∧ (gVB < w'.heap.size ∧ w'.cell? ⟨gVB, 0, none⟩ = some (.int .i64 X2.kind) ∧ w'.cell? ⟨gVB, 1, none⟩ = some (.int .i64 X2.num) ∧ w'.cell? ⟨gVB, 2, none⟩ = some (.slice aVB X2.kids.length cVB)))) _ := ⟨(Below.refl _ _).drew, VX.out.var.four, V.out.var.four, VA.out.var.four, VB.out.var.four⟩
   refine AnyTwo.tk HT12 (i := 0) (oi := ⟨some 58, _, _, _, _, _⟩) rfl (ph_one (by kernel_rfl) hS1) ?_
   try simp only [pts]
   refine AnyTwo.tk HT12 (i := 2) (oi := ⟨some 60, _, _, _, _, _⟩) rfl (ph_one (by kernel_rfl) hS1) ?_
   try simp only [pts]
   refine AnyTwo.step (i := 1) (o := ⟨some 59, _, _, _, _, _⟩) (by kernel_rfl) rfl (fun K hK => ?_)
   go_simp
   refine (HMX.out _ _ ⟨_, rfl, VX.out.sl.below hS1.1⟩).mono ?_
   rintro e w7 ⟨rfl, hb7⟩
   have hS1' : ((fun w' => Below U5.heap.size U5 w' ∧ (gVX < w'.heap.size ∧ w'.cell? ⟨gVX, 0, none⟩ = some (.int .i64 X.kind) ∧ w'.cell? ⟨gVX, 1, none⟩ = some (.int .i64 X.num) ∧ w'.cell? ⟨gVX, 2, none⟩ = some (.slice aVX X.kids.length cVX)) ∧ (gV < w'.heap.size ∧ w'.cell? ⟨gV, 0, none⟩ = some (.int .i64 T.kind) ∧ w'.cell? ⟨gV, 1, none⟩ = some (.int .i64 T.num) ∧ w'.cell? ⟨gV, 2, none⟩ = some (.slice aV T.kids.length cV)) ∧ (gVA < w'.heap.size ∧ w'.cell? ⟨gVA, 0, none⟩ = some (.int .i64 X1.kind) ∧ w'.cell? ⟨gVA, 1, none⟩ = some (.int .i64 X1.num) ∧ w'.cell? ⟨gVA, 2, none⟩ = some (.slice aVA X1.kids.length cVA)) ∧ (gVB < w'.heap.size ∧ w'.cell? ⟨gVB, 0, none⟩ = some (.int .i64 X2.kind) ∧ w'.cell? ⟨gVB, 1, none⟩ = some (.int .i64 X2.num) ∧ w'.cell? ⟨gVB, 2, none⟩ = some (.slice aVB X2.kids.length cVB)))) _ := ⟨bAfter hS1.1 hb7, BoxAt.below hS1.2.1 hb7, BoxAt.below hS1.2.2.1 hb7, BoxAt.below hS1.2.2.2.1 hb7, BoxAt.below hS1.2.2.2.2 hb7⟩
   refine hK.out _ _ (ph_one (by kernel_rfl) hS1') ?_
   clear hK K hS1
   have hS1 := hS1'
   clear hS1'
   try simp only [pts]
   refine AnyTwo.step (i := 3) (o := ⟨some 61, _, _, _, _, _⟩) (by kernel_rfl) rfl (fun K hK => ?_)
   go_simp
   refine (HMT.out _ _ ⟨_, rfl, V.out.sl.below hS1.1⟩).mono ?_
   rintro e w7 ⟨rfl, hb7⟩
   have hS1' : ((fun w' => Below U5.heap.size U5 w' ∧ (gVX < w'.heap.size ∧ w'.cell? ⟨gVX, 0, none⟩ = some (.int .i64 X.kind) ∧ w'.cell? ⟨gVX, 1, none⟩ = some (.int .i64 X.num) ∧ w'.cell? ⟨gVX, 2, none⟩ = some (.slice aVX X.kids.length cVX)) ∧ (gV < w'.heap.size ∧ w'.cell? ⟨gV, 0, none⟩ = some (.int .i64 T.kind) ∧ w'.cell? ⟨gV, 1, none⟩ = some (.int .i64 T.num) ∧ w'.cell? ⟨gV, 2, none⟩ = some (.slice aV T.kids.length cV)) ∧ (gVA < w'.heap.size ∧ w'.cell? ⟨gVA, 0, none⟩ = some (.int .i64 X1.kind) ∧ w'.cell? ⟨gVA, 1, none⟩ = some (.int .i64 X1.num) ∧ w'.cell? ⟨gVA, 2, none⟩ = some (.slice aVA X1.kids.length cVA)) ∧ (gVB < w'.heap.size ∧ w'.cell? ⟨gVB, 0, none⟩ = some (.int .i64 X2.kind) ∧ w'.cell? ⟨gVB, 1, none⟩ = some (.int .i64 X2.num) ∧ w'.cell? ⟨gVB, 2, none⟩ = some (.slice aVB X2.kids.length cVB)))) _ := ⟨bAfter hS1.1 hb7, BoxAt.below hS1.2.1 hb7, BoxAt.below hS1.2.2.1 hb7, BoxAt.below hS1.2.2.2.1 hb7, BoxAt.below hS1.2.2.2.2 hb7⟩
   refine hK.out _ _ (ph_one (by kernel_rfl) hS1') ?_
   clear hK K hS1
   have hS1 := hS1'
   clear hS1'
   try simp only [pts]
   refine AnyTwo.takeAny HT12 (i := 4) (oi := ⟨some 62, _, _, _, _, _⟩) (v := .bool true) rfl (by kernel_rfl) (by kernel_rfl) (by decide +kernel) (by rfl) (fun _ _ _ h => h) (Or.inl ⟨by rfl, ?yp3⟩) (ph_one (by kernel_rfl) hS1) ?rp3
   case yp3 => (intro w hSw; (try dsimp only at hSw); go_simp; try simp [*])
   try simp only [pts]
   refine AnyTwo.tk HT12 (i := 5) (oi := ⟨some 63, _, _, _, _, _⟩) rfl (ph_one (by kernel_rfl) hS1) ?_
   try simp only [pts]
   refine AnyTwo.tk HT12 (i := 6) (oi := ⟨some 64, _, _, _, _, _⟩) rfl (ph_one (by kernel_rfl) hS1) ?_
   try simp only [pts]
   refine AnyTwo.step (i := 7) (o := ⟨some 65, _, _, _, _, _⟩) (by kernel_rfl) rfl (fun K hK => ?_)
   go_simp
   refine (HNT.out _ _ ⟨_, rfl, V.out.sl.below hS1.1⟩).mono ?_
   rintro e w7 ⟨rfl, hb7⟩
   have hS1' : ((fun w' => Below U5.heap.size U5 w' ∧ (gVX < w'.heap.size ∧ w'.cell? ⟨gVX, 0, none⟩ = some (.int .i64 X.kind) ∧ w'.cell? ⟨gVX, 1, none⟩ = some (.int .i64 X.num) ∧ w'.cell? ⟨gVX, 2, none⟩ = some (.slice aVX X.kids.length cVX)) ∧ (gV < w'.heap.size ∧ w'.cell? ⟨gV, 0, none⟩ = some (.int .i64 T.kind) ∧ w'.cell? ⟨gV, 1, none⟩ = some (.int .i64 T.num) ∧ w'.cell? ⟨gV, 2, none⟩ = some (.slice aV T.kids.length cV)) ∧ (gVA < w'.heap.size ∧ w'.cell? ⟨gVA, 0, none⟩ = some (.int .i64 X1.kind) ∧ w'.cell? ⟨gVA, 1, none⟩ = some (.int .i64 X1.num) ∧ w'.cell? ⟨gVA, 2, none⟩ = some (.slice aVA X1.kids.length cVA)) ∧ (gVB < w'.heap.size ∧ w'.cell? ⟨gVB, 0, none⟩ = some (.int .i64 X2.kind) ∧ w'.cell? ⟨gVB, 1, none⟩ = some (.int .i64 X2.num) ∧ w'.cell? ⟨gVB, 2, none⟩ = some (.slice aVB X2.kids.length cVB)))) _ := ⟨bAfter hS1.1 hb7, BoxAt.below hS1.2.1 hb7, BoxAt.below hS1.2.2.1 hb7, BoxAt.below hS1.2.2.2.1 hb7, BoxAt.below hS1.2.2.2.2 hb7⟩
   refine hK.out _ _ (ph_one (by kernel_rfl) hS1') ?_
   clear hK K hS1
   have hS1 := hS1'
   clear hS1'
   try simp only [pts]
   refine AnyTwo.tk HT12 (i := 8) (oi := ⟨some 66, _, _, _, _, _⟩) rfl (ph_one (by kernel_rfl) hS1) ?_
   try simp only [pts]
   refine AnyTwo.tk HT12 (i := 9) (oi := ⟨some 67, _, _, _, _, _⟩) rfl (ph_one (by kernel_rfl) hS1) ?_
   try simp only [pts]
   refine AnyTwo.tk HT12 (i := 10) (oi := ⟨some 68, _, _, _, _, _⟩) rfl (ph_one (by kernel_rfl) hS1) ?_
   try simp only [pts]
   refine AnyTwo.tk HT12 (i := 11) (oi := ⟨some 69, _, _, _, _, _⟩) rfl (ph_one (by kernel_rfl) hS1) ?_
   try simp only [pts]
   refine AnyTwo.takeAny HT12 (i := 12) (oi := ⟨some 70, _, _, _, _, _⟩) (v := .bool true) rfl (by kernel_rfl) (by kernel_rfl) (by decide +kernel) (by rfl) (fun _ _ _ h => h) (Or.inl ⟨by rfl, ?yp10⟩) (ph_one (by kernel_rfl) hS1) ?rp10
   case yp10 => (intro w hSw; (try dsimp only at hSw); go_simp; try simp [*])
   try simp only [pts]
   refine AnyTwo.tk HT12 (i := 13) (oi := ⟨some 71, _, _, _, _, _⟩) rfl (ph_one (by kernel_rfl) hS1) ?_
   try simp only [pts]
   refine AnyTwo.sk HT12 (i := 14) (oi := ⟨some 72, _, _, _, _, _⟩) rfl (ph_one (by kernel_rfl) hS1) ?_
   try simp only [pts]
   refine AnyTwo.sk HT12 (i := 15) (oi := ⟨some 73, _, _, _, _, _⟩) rfl (ph_one (by kernel_rfl) hS1) ?_
   try simp only [pts]
   refine AnyTwo.tk HT12 (i := 16) (oi := ⟨some 74, _, _, _, _, _⟩) rfl (ph_one (by kernel_rfl) hS1) ?_
   try simp only [pts]
   refine AnyTwo.tk HT12 (i := 17) (oi := ⟨some 75, _, _, _, _, _⟩) rfl (ph_one (by kernel_rfl) hS1) ?_
   try simp only [pts]
   refine AnyTwo.sk HT12 (i := 18) (oi := ⟨some 76, _, _, _, _, _⟩) rfl (ph_one (by kernel_rfl) hS1) ?_
   try simp only [pts]
   refine AnyTwo.sk HT12 (i := 19) (oi := ⟨some 77, _, _, _, _, _⟩) rfl (ph_one (by kernel_rfl) hS1) ?_
   try simp only [pts]
   refine AnyTwo.step (i := 20) (o := ⟨some 78, _, _, _, _, _⟩) (by kernel_rfl) rfl (fun K hK => ?_)
   go_simp
   refine hK.out _ _ (ph_one (by kernel_rfl) hS1) ?_
   clear hK K
   try simp only [pts]
   refine AnyTwo.tk HT12 (i := 21) (oi := ⟨some 79, _, _, _, _, _⟩) rfl (ph_one (by kernel_rfl) hS1) ?_
   try simp only [pts]
   refine AnyTwo.tk HT12 (i := 22) (oi := ⟨some 80, _, _, _, _, _⟩) rfl (ph_one (by kernel_rfl) hS1) ?_
   try simp only [pts]
   refine AnyTwo.step (i := 23) (o := ⟨some 2, _, _, _, _, _⟩) (by kernel_rfl) rfl (fun K hK => ?_)
   go_simp
   refine hK.out _ _ (ph_end (by kernel_rfl) hS1) ?_
   clear hK K
   try simp only [pts]
   refine AnyTwo.done (by kernel_rfl) ?_ _
   clear HT12
   have hb := hS1.1
   replace HB := tuck (bAfter HB.out hb)
   clear hb hS1
   go_wp2_with fail
   go_ret
   exact ⟨rfl, HB.out⟩
  obtain rfl : c1 = 0 := Classical.byContradiction hnc1
  by_cases hnc2 : c2 ≠ 0
  ·skip
   have kc2 : (c2 != 0) = true := by rw [bne_iff_ne]; exact hnc2
   clear HEQ
   have HT12 : ∀ w' : World, ((fun w' => Below U5.heap.size U5 w' ∧ (gVX < w'.heap.size ∧ w'.cell? ⟨gVX, 0, none⟩ = some (.int .i64 X.kind) ∧ w'.cell? ⟨gVX, 1, none⟩ = some (.int .i64 X.num) ∧ w'.cell? ⟨gVX, 2, none⟩ = some (.slice aVX X.kids.length cVX)) ∧ (gV < w'.heap.size ∧ w'.cell? ⟨gV, 0, none⟩ = some (.int .i64 T.kind) ∧ w'.cell? ⟨gV, 1, none⟩ = some (.int .i64 T.num) ∧ w'.cell? ⟨gV, 2, none⟩ = some (.slice aV T.kids.length cV)) ∧ (gVA < w'.heap.size ∧ w'.cell? ⟨gVA, 0, none⟩ = some (.int .i64 X1.kind) ∧ w'.cell? ⟨gVA, 1, none⟩ = some (.int .i64 X1.num) ∧ w'.cell? ⟨gVA, 2, none⟩ = some (.slice aVA X1.kids.length cVA)) ∧ (gVB < w'.heap.size ∧ w'.cell? ⟨gVB, 0, none⟩ = some (.int .i64 X2.kind) ∧ w'.cell? ⟨gVB, 1, none⟩ = some (.int .i64 X2.num) ∧ w'.cell? ⟨gVB, 2, none⟩ = some (.slice aVB X2.kids.length cVB)))) w' → ((fun w' => Below U5.heap.size U5 w' ∧ (gVX < w'.heap.size ∧ w'.cell? ⟨gVX, 0, none⟩ = some (.int .i64 X.kind) ∧ w'.cell? ⟨gVX, 1, none⟩ = some (.int .i64 X.num) ∧ w'.cell? ⟨gVX, 2, none⟩ = some (.slice aVX X.kids.length cVX)) ∧ (gV < w'.heap.size ∧ w'.cell? ⟨gV, 0, none⟩ = some (.int .i64 T.kind) ∧ w'.cell? ⟨gV, 1, none⟩ = some (.int .i64 T.num) ∧ w'.cell? ⟨gV, 2, none⟩ = some (.slice aV T.kids.length cV)) ∧ (gVA < w'.heap.size ∧ w'.cell? ⟨gVA, 0, none⟩ = some (.int .i64 X1.kind) ∧ w'.cell? ⟨gVA, 1, none⟩ = some (.int .i64 X1.num) ∧ w'.cell? ⟨gVA, 2, none⟩ = some (.slice aVA X1.kids.length cVA)) ∧ (gVB < w'.heap.size ∧ w'.cell? ⟨gVB, 0, none⟩ = some (.int .i64 X2.kind) ∧ w'.cell? ⟨gVB, 1, none⟩ = some (.int .i64 X2.num) ∧ w'.cell? ⟨gVB, 2, none⟩ = some (.slice aVB X2.kids.length cVB)))) w' := fun w' h => h
   refine AnyTwo.begin ((fun w' => Below U5.heap.size U5 w' ∧ (gVX < w'.heap.size ∧ w'.cell? ⟨gVX, 0, none⟩ = some (.int .i64 X.kind) ∧ w'.cell? ⟨gVX, 1, none⟩ = some (.int .i64 X.num) ∧ w'.cell? ⟨gVX, 2, none⟩ = some (.slice aVX X.kids.length cVX)) ∧ (gV < w'.heap.size ∧ w'.cell? ⟨gV, 0, none⟩ = some (.int .i64 T.kind) ∧ w'.cell? ⟨gV, 1, none⟩ = some (.int .i64 T.num) ∧ w'.cell? ⟨gV, 2, none⟩ = some (.slice aV T.kids.length cV)) ∧ (gVA < w'.heap.size ∧ w'.cell? ⟨gVA, 0, none⟩ = some (.int .i64 X1.kind) ∧ w'.cell? ⟨gVA, 1, none⟩ = some (.int .i64 X1.num) ∧ w'.cell? ⟨gVA, 2, none⟩ = some (.slice aVA X1.kids.length cVA)) ∧ (gVB < w'.heap.size ∧ w'.cell? ⟨gVB, 0, none⟩ = some (.int .i64 X2.kind) ∧ w'.cell? ⟨gVB, 1, none⟩ = some (.int .i64 X2.num) ∧ w'.cell? ⟨gVB, 2, none⟩ = some (.slice aVB X2.kids.length cVB)))) ((fun w' => Below U5.heap.size U5 w' ∧ (gVX < w'.heap.size ∧ w'.cell? ⟨gVX, 0, none⟩ = some (.int .i64 X.kind) ∧ w'.cell? ⟨gVX, 1, none⟩ = some (.int .i64 X.num) ∧ w'.cell? ⟨gVX, 2, none⟩ = some (.slice aVX X.kids.length cVX)) ∧ (gV < w'.heap.size ∧ w'.cell? ⟨gV, 0, none⟩ = some (.int .i64 T.kind) ∧ w'.cell? ⟨gV, 1, none⟩ = some (.int .i64 T.num) ∧ w'.cell? ⟨gV, 2, none⟩ = some (.slice aV T.kids.length cV)) ∧ (gVA < w'.heap.size ∧ w'.cell? ⟨gVA, 0, none⟩ = some (.int .i64 X1.kind) ∧ w'.cell? ⟨gVA, 1, none⟩ = some (.int .i64 X1.num) ∧ w'.cell? ⟨gVA, 2, none⟩ = some (.slice aVA X1.kids.length cVA)) ∧ (gVB < w'.heap.size ∧ w'.cell? ⟨gVB, 0, none⟩ = some (.int .i64 X2.kind) ∧ w'.cell? ⟨gVB, 1, none⟩ = some (.int .i64 X2.num) ∧ w'.cell? ⟨gVB, 2, none⟩ = some (.slice aVB X2.kids.length cVB)))) 23 (by kernel_rfl) ?_
   have hS1 : ((fun w' => Below U5.heap.size U5 w' ∧ (gVX < w'.heap.size ∧ w'.cell? ⟨gVX, 0, none⟩ = some (.int .i64 X.kind) ∧ w'.cell? ⟨gVX, 1, none⟩ = some (.int .i64 X.num) ∧ w'.cell? ⟨gVX, 2, none⟩ = some (.slice aVX X.kids.length cVX)) ∧ (gV < w'.heap.size ∧ w'.cell? ⟨gV, 0, none⟩ = some (.int .i64 T.kind) ∧ w'.cell? ⟨gV, 1, none⟩ = some (.int .i64 T.num) ∧ w'.cell? ⟨gV, 2, none⟩ = some (.slice aV T.kids.length cV)) ∧ (gVA < w'.heap.size ∧ w'.cell? ⟨gVA, 0, none⟩ = some (.int .i64 X1.kind) ∧ w'.cell? ⟨gVA, 1, none⟩ = some (.int .i64 X1.num) ∧ w'.cell? ⟨gVA, 2, none⟩ = some (.slice aVA X1.kids.length cVA)) ∧ (gVB < w'.heap.size ∧ w'.cell? ⟨gVB, 0, none⟩ = some (.int .i64 X2.kind) ∧ w'.cell? ⟨gVB, 1, none⟩ = some (.int .i64 X2.num) ∧ w'.cell? ⟨gVB, 2, none⟩ = some (.slice aVB X2.kids.length cVB)))) _ := ⟨(Below.refl _ _).drew, VX.out.var.four, V.out.var.four, VA.out.var.four, VB.out.var.four⟩
   refine AnyTwo.tk HT12 (i := 0) (oi := ⟨some 58, _, _, _, _, _⟩) rfl (ph_one (by kernel_rfl) hS1) ?_
   try simp only [pts]
   refine AnyTwo.tk HT12 (i := 2) (oi := ⟨some 60, _, _, _, _, _⟩) rfl (ph_one (by kernel_rfl) hS1) ?_
   try simp only [pts]
   refine AnyTwo.step (i := 1) (o := ⟨some 59, _, _, _, _, _⟩) (by kernel_rfl) rfl (fun K hK => ?_)
   go_simp
   refine (HMX.out _ _ ⟨_, rfl, VX.out.sl.below hS1.1⟩).mono ?_
   rintro e w7 ⟨rfl, hb7⟩
   have hS1' : ((fun w' => Below U5.heap.size U5 w' ∧ (gVX < w'.heap.size ∧ w'.cell? ⟨gVX, 0, none⟩ = some (.int .i64 X.kind) ∧ w'.cell? ⟨gVX, 1, none⟩ = some (.int .i64 X.num) ∧ w'.cell? ⟨gVX, 2, none⟩ = some (.slice aVX X.kids.length cVX)) ∧ (gV < w'.heap.size ∧ w'.cell? ⟨gV, 0, none⟩ = some (.int .i64 T.kind) ∧ w'.cell? ⟨gV, 1, none⟩ = some (.int .i64 T.num) ∧ w'.cell? ⟨gV, 2, none⟩ = some (.slice aV T.kids.length cV)) ∧ (gVA < w'.heap.size ∧ w'.cell? ⟨gVA, 0, none⟩ = some (.int .i64 X1.kind) ∧ w'.cell? ⟨gVA, 1, none⟩ = some (.int .i64 X1.num) ∧ w'.cell? ⟨gVA, 2, none⟩ = some (.slice aVA X1.kids.length cVA)) ∧ (gVB < w'.heap.size ∧ w'.cell? ⟨gVB, 0, none⟩ = some (.int .i64 X2.kind) ∧ w'.cell? ⟨gVB, 1, none⟩ = some (.int .i64 X2.num) ∧ w'.cell? ⟨gVB, 2, none⟩ = some (.slice aVB X2.kids.length cVB)))) _ := ⟨bAfter hS1.1 hb7, BoxAt.below hS1.2.1 hb7, BoxAt.below hS1.2.2.1 hb7, BoxAt.below hS1.2.2.2.1 hb7, BoxAt.below hS1.2.2.2.2 hb7⟩
   refine hK.out _ _ (ph_one (by kernel_rfl) hS1') ?_
   clear hK K hS1
   have hS1 := hS1'
   clear hS1'
   try simp only [pts]
   refine AnyTwo.step (i := 3) (o := ⟨some 61, _, _, _, _, _⟩) (by kernel_rfl) rfl (fun K hK => ?_)
   go_simp
   refine (HMT.out _ _ ⟨_, rfl, V.out.sl.below hS1.1⟩).mono ?_
   rintro e w7 ⟨rfl, hb7⟩
   have hS1' : ((fun w' => Below U5.heap.size U5 w' ∧ (gVX < w'.heap.size ∧ w'.cell? ⟨gVX, 0, none⟩ = some (.int .i64 X.kind) ∧ w'.cell? ⟨gVX, 1, none⟩ = some (.int .i64 X.num) ∧ w'.cell? ⟨gVX, 2, none⟩ = some (.slice aVX X.kids.length cVX)) ∧ (gV < w'.heap.size ∧ w'.cell? ⟨gV, 0, none⟩ = some (.int .i64 T.kind) ∧ w'.cell? ⟨gV, 1, none⟩ = some (.int .i64 T.num) ∧ w'.cell? ⟨gV, 2, none⟩ = some (.slice aV T.kids.length cV)) ∧ (gVA < w'.heap.size ∧ w'.cell? ⟨gVA, 0, none⟩ = some (.int .i64 X1.kind) ∧ w'.cell? ⟨gVA, 1, none⟩ = some (.int .i64 X1.num) ∧ w'.cell? ⟨gVA, 2, none⟩ = some (.slice aVA X1.kids.length cVA)) ∧ (gVB < w'.heap.size ∧ w'.cell? ⟨gVB, 0, none⟩ = some (.int .i64 X2.kind) ∧ w'.cell? ⟨gVB, 1, none⟩ = some (.int .i64 X2.num) ∧ w'.cell? ⟨gVB, 2, none⟩ = some (.slice aVB X2.kids.length cVB)))) _ := ⟨bAfter hS1.1 hb7, BoxAt.below hS1.2.1 hb7, BoxAt.below hS1.2.2.1 hb7, BoxAt.below hS1.2.2.2.1 hb7, BoxAt.below hS1.2.2.2.2 hb7⟩
   refine hK.out _ _ (ph_one (by kernel_rfl) hS1') ?_
   clear hK K hS1
   have hS1 := hS1'
   clear hS1'
   try simp only [pts]
   refine AnyTwo.takeAny HT12 (i := 4) (oi := ⟨some 62, _, _, _, _, _⟩) (v := .bool true) rfl (by kernel_rfl) (by kernel_rfl) (by decide +kernel) (by rfl) (fun _ _ _ h => h) (Or.inl ⟨by rfl, ?yq3⟩) (ph_one (by kernel_rfl) hS1) ?rq3
   case yq3 => (intro w hSw; (try dsimp only at hSw); go_simp; try simp [*])
   try simp only [pts]
   refine AnyTwo.tk HT12 (i := 5) (oi := ⟨some 63, _, _, _, _, _⟩) rfl (ph_one (by kernel_rfl) hS1) ?_
   try simp only [pts]
   refine AnyTwo.tk HT12 (i := 6) (oi := ⟨some 64, _, _, _, _, _⟩) rfl (ph_one (by kernel_rfl) hS1) ?_
   try simp only [pts]
   refine AnyTwo.step (i := 7) (o := ⟨some 65, _, _, _, _, _⟩) (by kernel_rfl) rfl (fun K hK => ?_)
   go_simp
   refine (HNT.out _ _ ⟨_, rfl, V.out.sl.below hS1.1⟩).mono ?_
   rintro e w7 ⟨rfl, hb7⟩
   have hS1' : ((fun w' => Below U5.heap.size U5 w' ∧ (gVX < w'.heap.size ∧ w'.cell? ⟨gVX, 0, none⟩ = some (.int .i64 X.kind) ∧ w'.cell? ⟨gVX, 1, none⟩ = some (.int .i64 X.num) ∧ w'.cell? ⟨gVX, 2, none⟩ = some (.slice aVX X.kids.length cVX)) ∧ (gV < w'.heap.size ∧ w'.cell? ⟨gV, 0, none⟩ = some (.int .i64 T.kind) ∧ w'.cell? ⟨gV, 1, none⟩ = some (.int .i64 T.num) ∧ w'.cell? ⟨gV, 2, none⟩ = some (.slice aV T.kids.length cV)) ∧ (gVA < w'.heap.size ∧ w'.cell? ⟨gVA, 0, none⟩ = some (.int .i64 X1.kind) ∧ w'.cell? ⟨gVA, 1, none⟩ = some (.int .i64 X1.num) ∧ w'.cell? ⟨gVA, 2, none⟩ = some (.slice aVA X1.kids.length cVA)) ∧ (gVB < w'.heap.size ∧ w'.cell? ⟨gVB, 0, none⟩ = some (.int .i64 X2.kind) ∧ w'.cell? ⟨gVB, 1, none⟩ = some (.int .i64 X2.num) ∧ w'.cell? ⟨gVB, 2, none⟩ = some (.slice aVB X2.kids.length cVB)))) _ := ⟨bAfter hS1.1 hb7, BoxAt.below hS1.2.1 hb7, BoxAt.below hS1.2.2.1 hb7, BoxAt.below hS1.2.2.2.1 hb7, BoxAt.below hS1.2.2.2.2 hb7⟩
   refine hK.out _ _ (ph_one (by kernel_rfl) hS1') ?_
   clear hK K hS1
   have hS1 := hS1'
   clear hS1'
   try simp only [pts]
   refine AnyTwo.tk HT12 (i := 8) (oi := ⟨some 66, _, _, _, _, _⟩) rfl (ph_one (by kernel_rfl) hS1) ?_
   try simp only [pts]
   refine AnyTwo.tk HT12 (i := 9) (oi := ⟨some 67, _, _, _, _, _⟩) rfl (ph_one (by kernel_rfl) hS1) ?_
   try simp only [pts]
   refine AnyTwo.tk HT12 (i := 10) (oi := ⟨some 68, _, _, _, _, _⟩) rfl (ph_one (by kernel_rfl) hS1) ?_
   try simp only [pts]
   refine AnyTwo.tk HT12 (i := 11) (oi := ⟨some 69, _, _, _, _, _⟩) rfl (ph_one (by kernel_rfl) hS1) ?_
   try simp only [pts]
   refine AnyTwo.takeAny HT12 (i := 12) (oi := ⟨some 70, _, _, _, _, _⟩) (v := .bool false) rfl (by kernel_rfl) (by kernel_rfl) (by decide +kernel) (by rfl) (fun _ _ _ h => h) (Or.inl ⟨by rfl, ?yq10⟩) (ph_one (by kernel_rfl) hS1) ?rq10
   case yq10 => (intro w hSw; (try dsimp only at hSw); go_simp; try simp [*])
   try simp only [pts]
   refine AnyTwo.tk HT12 (i := 13) (oi := ⟨some 71, _, _, _, _, _⟩) rfl (ph_one (by kernel_rfl) hS1) ?_
   try simp only [pts]
   refine AnyTwo.tk HT12 (i := 14) (oi := ⟨some 72, _, _, _, _, _⟩) rfl (ph_one (by kernel_rfl) hS1) ?_
   try simp only [pts]
   refine AnyTwo.takeAny HT12 (i := 15) (oi := ⟨some 73, _, _, _, _, _⟩) (v := .bool true) rfl (by kernel_rfl) (by kernel_rfl) (by decide +kernel) (by rfl) (fun _ _ _ h => h) (Or.inl ⟨by rfl, ?yq13⟩) (ph_one (by kernel_rfl) hS1) ?rq13
   case yq13 => (intro w hSw; (try dsimp only at hSw); go_simp; try simp [*])
   try simp only [pts]
   refine AnyTwo.tk HT12 (i := 16) (oi := ⟨some 74, _, _, _, _, _⟩) rfl (ph_one (by kernel_rfl) hS1) ?_
   try simp only [pts]
   refine AnyTwo.tk HT12 (i := 17) (oi := ⟨some 75, _, _, _, _, _⟩) rfl (ph_one (by kernel_rfl) hS1) ?_
   try simp only [pts]
   refine AnyTwo.sk HT12 (i := 18) (oi := ⟨some 76, _, _, _, _, _⟩) rfl (ph_one (by kernel_rfl) hS1) ?_
   try simp only [pts]
   refine AnyTwo.sk HT12 (i := 19) (oi := ⟨some 77, _, _, _, _, _⟩) rfl (ph_one (by kernel_rfl) hS1) ?_
   try simp only [pts]
   refine AnyTwo.step (i := 20) (o := ⟨some 78, _, _, _, _, _⟩) (by kernel_rfl) rfl (fun K hK => ?_)
   go_simp
   refine hK.out _ _ (ph_one (by kernel_rfl) hS1) ?_
   clear hK K
   try simp only [pts]
   refine AnyTwo.tk HT12 (i := 21) (oi := ⟨some 79, _, _, _, _, _⟩) rfl (ph_one (by kernel_rfl) hS1) ?_
   try simp only [pts]
   refine AnyTwo.tk HT12 (i := 22) (oi := ⟨some 80, _, _, _, _, _⟩) rfl (ph_one (by kernel_rfl) hS1) ?_
   try simp only [pts]
   refine AnyTwo.step (i := 23) (o := ⟨some 2, _, _, _, _, _⟩) (by kernel_rfl) rfl (fun K hK => ?_)
   go_simp
   refine hK.out _ _ (ph_end (by kernel_rfl) hS1) ?_
   clear hK K
   try simp only [pts]
   refine AnyTwo.done (by kernel_rfl) ?_ _
   clear HT12
   have hb := hS1.1
   replace HB := tuck (bAfter HB.out hb)
   clear hb hS1
   go_wp2_with fail
   go_ret
   exact ⟨rfl, HB.out⟩
  obtain rfl : c2 = 0 := Classical.byContradiction hnc2
  obtain ⟨hvv, he⟩ := HEQ.out rfl rfl
  have HTT : Hid (∀ (w : World) (v1 v2 : Value), TmIn w 0 X1 v1 → TmIn w 0 X2 v2 → Calls Tryz.prog 20 #[v1, v2] w (BoolPost w true)) := by rw [← he]; exact same_v hvv
  clear HEQ hvv he hnc1 hnc2
  have HT12 : ∀ w' : World, ((fun w' => Below U5.heap.size U5 w' ∧ (gVX < w'.heap.size ∧ w'.cell? ⟨gVX, 0, none⟩ = some (.int .i64 X.kind) ∧ w'.cell? ⟨gVX, 1, none⟩ = some (.int .i64 X.num) ∧ w'.cell? ⟨gVX, 2, none⟩ = some (.slice aVX X.kids.length cVX)) ∧ (gV < w'.heap.size ∧ w'.cell? ⟨gV, 0, none⟩ = some (.int .i64 T.kind) ∧ w'.cell? ⟨gV, 1, none⟩ = some (.int .i64 T.num) ∧ w'.cell? ⟨gV, 2, none⟩ = some (.slice aV T.kids.length cV)) ∧ (gVA < w'.heap.size ∧ w'.cell? ⟨gVA, 0, none⟩ = some (.int .i64 X1.kind) ∧ w'.cell? ⟨gVA, 1, none⟩ = some (.int .i64 X1.num) ∧ w'.cell? ⟨gVA, 2, none⟩ = some (.slice aVA X1.kids.length cVA)) ∧ (gVB < w'.heap.size ∧ w'.cell? ⟨gVB, 0, none⟩ = some (.int .i64 X2.kind) ∧ w'.cell? ⟨gVB, 1, none⟩ = some (.int .i64 X2.num) ∧ w'.cell? ⟨gVB, 2, none⟩ = some (.slice aVB X2.kids.length cVB)))) w' → ((fun w' => Below U5.heap.size U5 w' ∧ (gVX < w'.heap.size ∧ w'.cell? ⟨gVX, 0, none⟩ = some (.int .i64 X.kind) ∧ w'.cell? ⟨gVX, 1, none⟩ = some (.int .i64 X.num) ∧ w'.cell? ⟨gVX, 2, none⟩ = some (.slice aVX X.kids.length cVX)) ∧ (gV < w'.heap.size ∧ w'.cell? ⟨gV, 0, none⟩ = some (.int .i64 T.kind) ∧ w'.cell? ⟨gV, 1, none⟩ = some (.int .i64 T.num) ∧ w'.cell? ⟨gV, 2, none⟩ = some (.slice aV T.kids.length cV)) ∧ (gVA < w'.heap.size ∧ w'.cell? ⟨gVA, 0, none⟩ = some (.int .i64 X1.kind) ∧ w'.cell? ⟨gVA, 1, none⟩ = some (.int .i64 X1.num) ∧ w'.cell? ⟨gVA, 2, none⟩ = some (.slice aVA X1.kids.length cVA)) ∧ (gVB < w'.heap.size ∧ w'.cell? ⟨gVB, 0, none⟩ = some (.int .i64 X2.kind) ∧ w'.cell? ⟨gVB, 1, none⟩ = some (.int .i64 X2.num) ∧ w'.cell? ⟨gVB, 2, none⟩ = some (.slice aVB X2.kids.length cVB)))) w' := fun w' h => h
  refine AnyTwo.begin ((fun w' => Below U5.heap.size U5 w' ∧ (gVX < w'.heap.size ∧ w'.cell? ⟨gVX, 0, none⟩ = some (.int .i64 X.kind) ∧ w'.cell? ⟨gVX, 1, none⟩ = some (.int .i64 X.num) ∧ w'.cell? ⟨gVX, 2, none⟩ = some (.slice aVX X.kids.length cVX)) ∧ (gV < w'.heap.size ∧ w'.cell? ⟨gV, 0, none⟩ = some (.int .i64 T.kind) ∧ w'.cell? ⟨gV, 1, none⟩ = some (.int .i64 T.num) ∧ w'.cell? ⟨gV, 2, none⟩ = some (.slice aV T.kids.length cV)) ∧ (gVA < w'.heap.size ∧ w'.cell? ⟨gVA, 0, none⟩ = some (.int .i64 X1.kind) ∧ w'.cell? ⟨gVA, 1, none⟩ = some (.int .i64 X1.num) ∧ w'.cell? ⟨gVA, 2, none⟩ = some (.slice aVA X1.kids.length cVA)) ∧ (gVB < w'.heap.size ∧ w'.cell? ⟨gVB, 0, none⟩ = some (.int .i64 X2.kind) ∧ w'.cell? ⟨gVB, 1, none⟩ = some (.int .i64 X2.num) ∧ w'.cell? ⟨gVB, 2, none⟩ = some (.slice aVB X2.kids.length cVB)))) ((fun w' => Below U5.heap.size U5 w' ∧ (gVX < w'.heap.size ∧ w'.cell? ⟨gVX, 0, none⟩ = some (.int .i64 X.kind) ∧ w'.cell? ⟨gVX, 1, none⟩ = some (.int .i64 X.num) ∧ w'.cell? ⟨gVX, 2, none⟩ = some (.slice aVX X.kids.length cVX)) ∧ (gV < w'.heap.size ∧ w'.cell? ⟨gV, 0, none⟩ = some (.int .i64 T.kind) ∧ w'.cell? ⟨gV, 1, none⟩ = some (.int .i64 T.num) ∧ w'.cell? ⟨gV, 2, none⟩ = some (.slice aV T.kids.length cV)) ∧ (gVA < w'.heap.size ∧ w'.cell? ⟨gVA, 0, none⟩ = some (.int .i64 X1.kind) ∧ w'.cell? ⟨gVA, 1, none⟩ = some (.int .i64 X1.num) ∧ w'.cell? ⟨gVA, 2, none⟩ = some (.slice aVA X1.kids.length cVA)) ∧ (gVB < w'.heap.size ∧ w'.cell? ⟨gVB, 0, none⟩ = some (.int .i64 X2.kind) ∧ w'.cell? ⟨gVB, 1, none⟩ = some (.int .i64 X2.num) ∧ w'.cell? ⟨gVB, 2, none⟩ = some (.slice aVB X2.kids.length cVB)))) 23 (by kernel_rfl) ?_
  have hS1 : ((fun w' => Below U5.heap.size U5 w' ∧ (gVX < w'.heap.size ∧ w'.cell? ⟨gVX, 0, none⟩ = some (.int .i64 X.kind) ∧ w'.cell? ⟨gVX, 1, none⟩ = some (.int .i64 X.num) ∧ w'.cell? ⟨gVX, 2, none⟩ = some (.slice aVX X.kids.length cVX)) ∧ (gV < w'.heap.size ∧ w'.cell? ⟨gV, 0, none⟩ = some (.int .i64 T.kind) ∧ w'.cell? ⟨gV, 1, none⟩ = some (.int .i64 T.num) ∧ w'.cell? ⟨gV, 2, none⟩ = some (.slice aV T.kids.length cV)) ∧ (gVA < w'.heap.size ∧ w'.cell? ⟨gVA, 0, none⟩ = some (.int .i64 X1.kind) ∧ w'.cell? ⟨gVA, 1, none⟩ = some (.int .i64 X1.num) ∧ w'.cell? ⟨gVA, 2, none⟩ = some (.slice aVA X1.kids.length cVA)) ∧ (gVB < w'.heap.size ∧ w'.cell? ⟨gVB, 0, none⟩ = some (.int .i64 X2.kind) ∧ w'.cell? ⟨gVB, 1, none⟩ = some (.int .i64 X2.num) ∧ w'.cell? ⟨gVB, 2, none⟩ = some (.slice aVB X2.kids.length cVB)))) _ := ⟨(Below.refl _ _).drew, VX.out.var.four, V.out.var.four, VA.out.var.four, VB.out.var.four⟩
  refine AnyTwo.tk HT12 (i := 0) (oi := ⟨some 58, _, _, _, _, _⟩) rfl (ph_one (by kernel_rfl) hS1) ?_
  try simp only [pts]
  refine AnyTwo.tk HT12 (i := 2) (oi := ⟨some 60, _, _, _, _, _⟩) rfl (ph_one (by kernel_rfl) hS1) ?_
  try simp only [pts]
  refine AnyTwo.step (i := 1) (o := ⟨some 59, _, _, _, _, _⟩) (by kernel_rfl) rfl (fun K hK => ?_)
  go_simp
  refine (HMX.out _ _ ⟨_, rfl, VX.out.sl.below hS1.1⟩).mono ?_
  rintro e w7 ⟨rfl, hb7⟩
  have hS1' : ((fun w' => Below U5.heap.size U5 w' ∧ (gVX < w'.heap.size ∧ w'.cell? ⟨gVX, 0, none⟩ = some (.int .i64 X.kind) ∧ w'.cell? ⟨gVX, 1, none⟩ = some (.int .i64 X.num) ∧ w'.cell? ⟨gVX, 2, none⟩ = some (.slice aVX X.kids.length cVX)) ∧ (gV < w'.heap.size ∧ w'.cell? ⟨gV, 0, none⟩ = some (.int .i64 T.kind) ∧ w'.cell? ⟨gV, 1, none⟩ = some (.int .i64 T.num) ∧ w'.cell? ⟨gV, 2, none⟩ = some (.slice aV T.kids.length cV)) ∧ (gVA < w'.heap.size ∧ w'.cell? ⟨gVA, 0, none⟩ = some (.int .i64 X1.kind) ∧ w'.cell? ⟨gVA, 1, none⟩ = some (.int .i64 X1.num) ∧ w'.cell? ⟨gVA, 2, none⟩ = some (.slice aVA X1.kids.length cVA)) ∧ (gVB < w'.heap.size ∧ w'.cell? ⟨gVB, 0, none⟩ = some (.int .i64 X2.kind) ∧ w'.cell? ⟨gVB, 1, none⟩ = some (.int .i64 X2.num) ∧ w'.cell? ⟨gVB, 2, none⟩ = some (.slice aVB X2.kids.length cVB)))) _ := ⟨bAfter hS1.1 hb7, BoxAt.below hS1.2.1 hb7, BoxAt.below hS1.2.2.1 hb7, BoxAt.below hS1.2.2.2.1 hb7, BoxAt.below hS1.2.2.2.2 hb7⟩
  refine hK.out _ _ (ph_one (by kernel_rfl) hS1') ?_
  clear hK K hS1
  have hS1 := hS1'
  clear hS1'
  try simp only [pts]
  refine AnyTwo.step (i := 3) (o := ⟨some 61, _, _, _, _, _⟩) (by kernel_rfl) rfl (fun K hK => ?_)
  go_simp
  refine (HMT.out _ _ ⟨_, rfl, V.out.sl.below hS1.1⟩).mono ?_
  rintro e w7 ⟨rfl, hb7⟩
  have hS1' : ((fun w' => Below U5.heap.size U5 w' ∧ (gVX < w'.heap.size ∧ w'.cell? ⟨gVX, 0, none⟩ = some (.int .i64 X.kind) ∧ w'.cell? ⟨gVX, 1, none⟩ = some (.int .i64 X.num) ∧ w'.cell? ⟨gVX, 2, none⟩ = some (.slice aVX X.kids.length cVX)) ∧ (gV < w'.heap.size ∧ w'.cell? ⟨gV, 0, none⟩ = some (.int .i64 T.kind) ∧ w'.cell? ⟨gV, 1, none⟩ = some (.int .i64 T.num) ∧ w'.cell? ⟨gV, 2, none⟩ = some (.slice aV T.kids.length cV)) ∧ (gVA < w'.heap.size ∧ w'.cell? ⟨gVA, 0, none⟩ = some (.int .i64 X1.kind) ∧ w'.cell? ⟨gVA, 1, none⟩ = some (.int .i64 X1.num) ∧ w'.cell? ⟨gVA, 2, none⟩ = some (.slice aVA X1.kids.length cVA)) ∧ (gVB < w'.heap.size ∧ w'.cell? ⟨gVB, 0, none⟩ = some (.int .i64 X2.kind) ∧ w'.cell? ⟨gVB, 1, none⟩ = some (.int .i64 X2.num) ∧ w'.cell? ⟨gVB, 2, none⟩ = some (.slice aVB X2.kids.length cVB)))) _ := ⟨bAfter hS1.1 hb7, BoxAt.below hS1.2.1 hb7, BoxAt.below hS1.2.2.1 hb7, BoxAt.below hS1.2.2.2.1 hb7, BoxAt.below hS1.2.2.2.2 hb7⟩
  refine hK.out _ _ (ph_one (by kernel_rfl) hS1') ?_
  clear hK K hS1
  have hS1 := hS1'
  clear hS1'
  try simp only [pts]
  refine AnyTwo.takeAny HT12 (i := 4) (oi := ⟨some 62, _, _, _, _, _⟩) (v := .bool true) rfl (by kernel_rfl) (by kernel_rfl) (by decide +kernel) (by rfl) (fun _ _ _ h => h) (Or.inl ⟨by rfl, ?yr3⟩) (ph_one (by kernel_rfl) hS1) ?rr3
  case yr3 => (intro w hSw; (try dsimp only at hSw); go_simp; try simp [*])
  try simp only [pts]
  refine AnyTwo.tk HT12 (i := 5) (oi := ⟨some 63, _, _, _, _, _⟩) rfl (ph_one (by kernel_rfl) hS1) ?_
  try simp only [pts]
  refine AnyTwo.tk HT12 (i := 6) (oi := ⟨some 64, _, _, _, _, _⟩) rfl (ph_one (by kernel_rfl) hS1) ?_
  try simp only [pts]
  refine AnyTwo.step (i := 7) (o := ⟨some 65, _, _, _, _, _⟩) (by kernel_rfl) rfl (fun K hK => ?_)
  go_simp
  refine (HNT.out _ _ ⟨_, rfl, V.out.sl.below hS1.1⟩).mono ?_
  rintro e w7 ⟨rfl, hb7⟩
  have hS1' : ((fun w' => Below U5.heap.size U5 w' ∧ (gVX < w'.heap.size ∧ w'.cell? ⟨gVX, 0, none⟩ = some (.int .i64 X.kind) ∧ w'.cell? ⟨gVX, 1, none⟩ = some (.int .i64 X.num) ∧ w'.cell? ⟨gVX, 2, none⟩ = some (.slice aVX X.kids.length cVX)) ∧ (gV < w'.heap.size ∧ w'.cell? ⟨gV, 0, none⟩ = some (.int .i64 T.kind) ∧ w'.cell? ⟨gV, 1, none⟩ = some (.int .i64 T.num) ∧ w'.cell? ⟨gV, 2, none⟩ = some (.slice aV T.kids.length cV)) ∧ (gVA < w'.heap.size ∧ w'.cell? ⟨gVA, 0, none⟩ = some (.int .i64 X1.kind) ∧ w'.cell? ⟨gVA, 1, none⟩ = some (.int .i64 X1.num) ∧ w'.cell? ⟨gVA, 2, none⟩ = some (.slice aVA X1.kids.length cVA)) ∧ (gVB < w'.heap.size ∧ w'.cell? ⟨gVB, 0, none⟩ = some (.int .i64 X2.kind) ∧ w'.cell? ⟨gVB, 1, none⟩ = some (.int .i64 X2.num) ∧ w'.cell? ⟨gVB, 2, none⟩ = some (.slice aVB X2.kids.length cVB)))) _ := ⟨bAfter hS1.1 hb7, BoxAt.below hS1.2.1 hb7, BoxAt.below hS1.2.2.1 hb7, BoxAt.below hS1.2.2.2.1 hb7, BoxAt.below hS1.2.2.2.2 hb7⟩
  refine hK.out _ _ (ph_one (by kernel_rfl) hS1') ?_
  clear hK K hS1
  have hS1 := hS1'
  clear hS1'
  try simp only [pts]
  refine AnyTwo.tk HT12 (i := 8) (oi := ⟨some 66, _, _, _, _, _⟩) rfl (ph_one (by kernel_rfl) hS1) ?_
  try simp only [pts]
  refine AnyTwo.tk HT12 (i := 9) (oi := ⟨some 67, _, _, _, _, _⟩) rfl (ph_one (by kernel_rfl) hS1) ?_
  try simp only [pts]
  refine AnyTwo.tk HT12 (i := 10) (oi := ⟨some 68, _, _, _, _, _⟩) rfl (ph_one (by kernel_rfl) hS1) ?_
  try simp only [pts]
  refine AnyTwo.tk HT12 (i := 11) (oi := ⟨some 69, _, _, _, _, _⟩) rfl (ph_one (by kernel_rfl) hS1) ?_
  try simp only [pts]
  refine AnyTwo.takeAny HT12 (i := 12) (oi := ⟨some 70, _, _, _, _, _⟩) (v := .bool false) rfl (by kernel_rfl) (by kernel_rfl) (by decide +kernel) (by rfl) (fun _ _ _ h => h) (Or.inl ⟨by rfl, ?yr10⟩) (ph_one (by kernel_rfl) hS1) ?rr10
  case yr10 => (intro w hSw; (try dsimp only at hSw); go_simp; try simp [*])
  try simp only [pts]
  refine AnyTwo.tk HT12 (i := 13) (oi := ⟨some 71, _, _, _, _, _⟩) rfl (ph_one (by kernel_rfl) hS1) ?_
  try simp only [pts]
  refine AnyTwo.tk HT12 (i := 14) (oi := ⟨some 72, _, _, _, _, _⟩) rfl (ph_one (by kernel_rfl) hS1) ?_
  try simp only [pts]
  refine AnyTwo.takeAny HT12 (i := 15) (oi := ⟨some 73, _, _, _, _, _⟩) (v := .bool false) rfl (by kernel_rfl) (by kernel_rfl) (by decide +kernel) (by rfl) (fun _ _ _ h => h) (Or.inl ⟨by rfl, ?yr13⟩) (ph_one (by kernel_rfl) hS1) ?rr13
  case yr13 => (intro w hSw; (try dsimp only at hSw); go_simp; try simp [*])
  try simp only [pts]
  refine AnyTwo.tk HT12 (i := 16) (oi := ⟨some 74, _, _, _, _, _⟩) rfl (ph_one (by kernel_rfl) hS1) ?_
  try simp only [pts]
  refine AnyTwo.tk HT12 (i := 17) (oi := ⟨some 75, _, _, _, _, _⟩) rfl (ph_one (by kernel_rfl) hS1) ?_
  try simp only [pts]
  refine AnyTwo.tk HT12 (i := 18) (oi := ⟨some 76, _, _, _, _, _⟩) rfl (ph_one (by kernel_rfl) hS1) ?_
  try simp only [pts]
  refine AnyTwo.tk HT12 (i := 19) (oi := ⟨some 77, _, _, _, _, _⟩) rfl (ph_one (by kernel_rfl) hS1) ?_
  try simp only [pts]
  refine AnyTwo.step (i := 20) (o := ⟨some 78, _, _, _, _, _⟩) (by kernel_rfl) rfl (fun K hK => ?_)
  go_simp
  refine (HTT.out _ _ _ ⟨_, rfl, VA.out.sl.below hS1.1⟩ ⟨_, rfl, VB.out.sl.below hS1.1⟩).mono ?_
  rintro e w7 ⟨rfl, hb7⟩
  have hS1' : ((fun w' => Below U5.heap.size U5 w' ∧ (gVX < w'.heap.size ∧ w'.cell? ⟨gVX, 0, none⟩ = some (.int .i64 X.kind) ∧ w'.cell? ⟨gVX, 1, none⟩ = some (.int .i64 X.num) ∧ w'.cell? ⟨gVX, 2, none⟩ = some (.slice aVX X.kids.length cVX)) ∧ (gV < w'.heap.size ∧ w'.cell? ⟨gV, 0, none⟩ = some (.int .i64 T.kind) ∧ w'.cell? ⟨gV, 1, none⟩ = some (.int .i64 T.num) ∧ w'.cell? ⟨gV, 2, none⟩ = some (.slice aV T.kids.length cV)) ∧ (gVA < w'.heap.size ∧ w'.cell? ⟨gVA, 0, none⟩ = some (.int .i64 X1.kind) ∧ w'.cell? ⟨gVA, 1, none⟩ = some (.int .i64 X1.num) ∧ w'.cell? ⟨gVA, 2, none⟩ = some (.slice aVA X1.kids.length cVA)) ∧ (gVB < w'.heap.size ∧ w'.cell? ⟨gVB, 0, none⟩ = some (.int .i64 X2.kind) ∧ w'.cell? ⟨gVB, 1, none⟩ = some (.int .i64 X2.num) ∧ w'.cell? ⟨gVB, 2, none⟩ = some (.slice aVB X2.kids.length cVB)))) _ := ⟨bAfter hS1.1 hb7, BoxAt.below hS1.2.1 hb7, BoxAt.below hS1.2.2.1 hb7, BoxAt.below hS1.2.2.2.1 hb7, BoxAt.below hS1.2.2.2.2 hb7⟩
  refine hK.out _ _ (ph_one (by kernel_rfl) hS1') ?_
  clear hK K hS1
  have hS1 := hS1'
  clear hS1'
  try simp only [pts]
  refine AnyTwo.tk HT12 (i := 21) (oi := ⟨some 79, _, _, _, _, _⟩) rfl (ph_one (by kernel_rfl) hS1) ?_
  try simp only [pts]
  refine AnyTwo.tk HT12 (i := 22) (oi := ⟨some 80, _, _, _, _, _⟩) rfl (ph_one (by kernel_rfl) hS1) ?_
  try simp only [pts]
  refine AnyTwo.step (i := 23) (o := ⟨some 2, _, _, _, _, _⟩) (by kernel_rfl) rfl (fun K hK => ?_)
  go_simp
  refine hK.out _ _ (ph_end (by kernel_rfl) hS1) ?_
  clear hK K
  try simp only [pts]
  refine AnyTwo.done (by kernel_rfl) ?_ _
  clear HT12
  have hb := hS1.1
  replace HB := tuck (bAfter HB.out hb)
  clear hb hS1
  go_wp2_with fail
  go_ret
  exact ⟨rfl, HB.out⟩
set_option maxRecDepth 100000 in
theorem lifted (os : Os) (started : os.Started) (H : Type) (enc : TypeId × Value → H) :
  ReturnsInHanded {} Tryz.checked os 6 .any (Rows.fnStepInnerSpec.pre6 enc Tryz.prog Tryz.f6 Rows.fnStepInnerRow.domain false) (Rows.fnStepInnerSpec.post enc Tryz.prog Tryz.f6 false true false false) := by
 refine returnsInHanded_of_change (C := Tryz.checked) own started (by kernel_rfl) Tryz.func6
  (ChangeSpec.witness6 (enc := enc) (C := Tryz.checked) false ⟨#[], #[.slice none 0 0], []⟩ 8 (by kernel_rfl) (by kernel_rfl) (by kernel_rfl) (by kernel_rfl)) ?_
 intro W base args ds gs before hval0 hW hcnd _
 have hval : ∀ (j : Nat) t v, Tryz.f6.params[j]? = some t → args[j]? = some v → Value.okWide Tryz.prog W .any base t v := hval0
 have hW' := hW
 obtain ⟨p, q, hA0, hV, rfl, hfz, hnd⟩ := hW
 have hA : DataW.TrodAll enc Tryz.prog W 0 (fun _ => true) true Tryz.f6.params.toList args.toList ds p := hA0
 rw [Tryz.params6] at hA hval
 obtain ⟨v0, vs0, d0, ds0, p0, q0, hargs, rfl, rfl, h0, r0⟩ := trodAll_cons hA
 obtain ⟨rfl, rfl, rfl⟩ := trodAll_nil r0
 obtain rfl : args = #[v0] := by cases args; simp_all
 obtain ⟨U0, ad0, bb0, oo0, len0, cap0, rfl, hlc0, hcm0, hbl0, hby0⟩ := open_bytes (hval 0 22 v0 rfl rfl) h0
 refine (walk U0 ad0 bb0 oo0 len0 cap0 W hlc0 hcm0 hby0).mono fun e W' ⟨he, hb⟩ => ?_
 subst he
 exact ⟨_, rfl, law_post rfl rfl (fun gs h => by subst h; rfl) (by rw [Tryz.params6]; exact readable_FnStepInner) laid hW' hb⟩
theorem over : Rows.fnStepInnerRow.holds Tryz.pinned (OpenSpec.ofChange Rows.fnStepInnerSpec) :=
 OpenClaim.holds_of_wide 6 Tryz.f6 rfl rfl rfl rfl rfl rfl rfl ⟨rfl, rfl, rfl, rfl, rfl⟩ rfl rfl rfl rfl rfl (by kernel_rfl) Tryz.func6 (by kernel_rfl)
  (of_decide_eq_true (by kernel_rfl)) (by unfold Func.isWrapper; first | (rw [if_pos (by decide +kernel)]; kernel_rfl) | (rw [if_neg (by decide +kernel)]; exact ⟨rfl, rfl⟩))
  (fun os started H enc _ => lifted os started H enc)
theorem proved : Rows.FnStepInnerSaid :=
 over
end Go.Proofs.YtabbbnddfcbdiaaGreat.fnStepInner
