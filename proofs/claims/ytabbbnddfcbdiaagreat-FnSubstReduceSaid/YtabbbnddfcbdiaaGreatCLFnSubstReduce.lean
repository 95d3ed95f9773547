/-
  The law FnSubstReduce: whatever the bytes, a substitution in a normal term leads to the same normal term as one in the term itself.
-/
import Derived.Test.YtabbbnddfcbdiaaGreatC04
import Derived.Test.YtabbbnddfcbdiaaGreatC31
import Derived.IntWalk
namespace Go.Proofs.YtabbbnddfcbdiaaGreat.fnSubstReduce
open Go.ChangeShapes Go.WideShapes Go.ChangeAt Go.RowKit Go.Deep
set_option linter.unusedVariables false
theorem readable_FnSubstReduce : ∀ t ∈ (#[22, 22] : Array TypeId).toList, Tryz.prog.readableRec t = true ∧ t < Tryz.prog.types.size := by
 intro t ht
 simp at ht
 subst ht
 exact ⟨by kernel_rfl, of_decide_eq_true (by kernel_rfl)⟩
theorem laid : laidOutB Tryz.prog = true := by kernel_rfl
set_option maxRecDepth 100000 in
set_option maxHeartbeats 1600000 in
theorem walk (U : Nat → Int) (a : Option Addr) (b o len cap : Nat) (w : World) (hlc : len ≤ cap) (hcm : cap ≤ maxLen) (hby : Bytes U a b o len w) (U2 : Nat → Int) (a2 : Option Addr) (b2 o2 len2 cap2 : Nat) (hlc2 : len2 ≤ cap2) (hcm2 : cap2 ≤ maxLen) (hby2 : Bytes U2 a2 b2 o2 len2 w) : Calls Tryz.prog 8 #[.slice a len cap, .slice a2 len2 cap2] w fun e w' => e = .returned (.bool true) ∧ Below w.heap.size w w' := by
 unfold maxLen at hcm hcm2
 by_cases hl : 1048576 < len
 ·have hl' : (1048576 : Int) < (len : Int) := by omega
  clear hby hby2
  go_enter Tryz.func8, Tryz.ntmps8
  go_wp2
  go_ret
  exact ⟨rfl, Below.refl _ _⟩
 have hl' : ¬ (1048576 : Int) < (len : Int) := by omega
 by_cases hl3 : 1048576 < len2
 ·have hl3' : (1048576 : Int) < (len2 : Int) := by omega
  clear hby hby2
  go_enter Tryz.func8, Tryz.ntmps8
  go_wp2
  go_ret
  exact ⟨rfl, Below.refl _ _⟩
 have hl3' : ¬ (1048576 : Int) < (len2 : Int) := by omega
 have HD := tuck (dNormalize_any w (by omega) hlc hby)
 have HBY2 := tuck hby2
 clear hby hby2
 go_enter Tryz.func8, Tryz.ntmps8
 go_wp2_with fail
 refine HD.out.mono ?_
 rintro e w1 ⟨T, v, x, rfl, ⟨s, rfl, hin⟩, hsz, hx0, hx1, hb⟩
 obtain ⟨aV, cV, rfl⟩ := hin.form
 have V := tuck (TV.new (hin.mono (Nat.zero_le _)))
 have HB := tuck (bAfter hb (below1 w1 (.cells #[.int .i64 T.kind, .int .i64 T.num, .slice aV T.kids.length cV] 25)))
 have HSZ : Hid (sizes T.kids ≤ 1048576) := tuck (by have := T.size_eq; omega)
 replace HBY2 := tuck (HBY2.out.below HB.out)
 clear hin hb HD hsz
 go_wp2_with fail
 generalize w1.alloc (.cells #[.int .i64 T.kind, .int .i64 T.num, .slice aV T.kids.length cV] 25) = U0 at *
 generalize w1.heap.size = gV at *
 refine (dNormalize_any _ (by omega) hlc2 HBY2.out).mono ?_
 rintro e w2 ⟨S, v, y, rfl, ⟨s, rfl, hin⟩, -, -, -, hb⟩
 obtain ⟨aVU, cVU, rfl⟩ := hin.form
 have HINU := tuck (hin.mono (Nat.zero_le _))
 replace V := tuck (V.out.below hb)
 replace HB := tuck (bAfter HB.out hb)
 clear hin hb HBY2
 obtain ⟨zV, c0V, c1V, c2V, cfV⟩ := V.out.facts
 go_wp2_with fail
 clear zV c0V c1V c2V cfV
 have VU := tuck (TV.new HINU.out)
 have hbx := below1 w2 (.cells #[.int .i64 S.kind, .int .i64 S.num, .slice aVU S.kids.length cVU] 25)
 replace V := tuck (V.out.below hbx)
 replace HB := tuck (bAfter HB.out hbx)
 clear HINU hbx
 generalize w2.alloc (.cells #[.int .i64 S.kind, .int .i64 S.num, .slice aVU S.kids.length cVU] 25) = U9 at *
 generalize w2.heap.size = gVU at *
 obtain ⟨c, hcc⟩ : ∃ c, c = normC false false T x := ⟨_, rfl⟩
 obtain ⟨X, hX⟩ : ∃ X, X = normT false false T x := ⟨_, rfl⟩
 have HIM : Hid (∀ (w : World) (v : Value), TmIn w 0 T v → Calls Tryz.prog 16 #[v, .int .i64 x] w (SCodePost w c X)) := fun w v h => by
  have h2 := normI_p T x w v h; rwa [← hcc, ← hX] at h2
 have HSP : Hid (∀ (w : World) (v : Value), TmIn w 0 T v → Calls Tryz.prog 18 #[v, .int .i64 x] w (SCodePost w c X)) := fun w v h => by
  have h2 := normS_p T HSZ.out x w v h; rwa [← hcc, ← hX] at h2
 have HTS : Hid (∀ (w : World) (v1 v2 : Value), TmIn w 0 X v1 → TmIn w 0 X v2 → Calls Tryz.prog 20 #[v1, v2] w (BoolPost w true)) := by rw [hX]; exact same_n false false T x
 have HCY : Hid (c = 0 → NrmYes false false T x X) := tuck fun h => hX ▸ nrm_yes (hcc ▸ h)
 clear hcc hX
 obtain ⟨A, hA⟩ : ∃ A, A = orZero (SubstOk T 0 S) (T.subst S 0 0) := ⟨_, rfl⟩
 obtain ⟨p, hp⟩ : ∃ p, p = tr (SubstOk T 0 S) := ⟨_, rfl⟩
 have I1 : Hid (∀ (w : World) (v v' : Value), TmIn w 0 T v → TmIn w 0 S v' → Calls Tryz.prog 33 #[v, v'] w (PairPost w A p)) := fun w v v' h h' => by
  have h2 := (instI_any T S w v v' h h').mono fun _ _ h => h.pair; rwa [← hA, ← hp] at h2
 obtain ⟨B, hB⟩ : ∃ A, A = orZero (SubstOk X 0 S) (X.subst S 0 0) := ⟨_, rfl⟩
 obtain ⟨q, hq⟩ : ∃ p, p = tr (SubstOk X 0 S) := ⟨_, rfl⟩
 have I2 : Hid (∀ (w : World) (v v' : Value), TmIn w 0 X v → TmIn w 0 S v' → Calls Tryz.prog 33 #[v, v'] w (PairPost w B q)) := fun w v v' h h' => by
  have h2 := (instI_any X S w v v' h h').mono fun _ _ h => h.pair; rwa [← hB, ← hq] at h2
 obtain ⟨c1, hc1⟩ : ∃ q0, q0 = normC false false A 200 := ⟨_, rfl⟩
 obtain ⟨X1, hX1⟩ : ∃ Q, Q = normT false false A 200 := ⟨_, rfl⟩
 have H1 : Hid (∀ (w : World) (v : Value), TmIn w 0 A v → Calls Tryz.prog 16 #[v, .int .i64 200] w (SCodePost w c1 X1)) := fun w v h => by
  have h2 := normI_p A 200 w v h; rwa [← hc1, ← hX1] at h2
 obtain ⟨c2, hc2⟩ : ∃ q0, q0 = normC false false B 200 := ⟨_, rfl⟩
 obtain ⟨X2, hX2⟩ : ∃ Q, Q = normT false false B 200 := ⟨_, rfl⟩
 have H2 : Hid (∀ (w : World) (v : Value), TmIn w 0 B v → Calls Tryz.prog 16 #[v, .int .i64 200] w (SCodePost w c2 X2)) := fun w v h => by
  have h2 := normI_p B 200 w v h; rwa [← hc2, ← hX2] at h2
 have HEQ : Hid (c = 0 → p = true → q = true → c1 = 0 → c2 = 0 → X1.Valid ∧ X1 = X2) := tuck fun h0 hp1 hq1 h1 h2 => by
  have y := HCY.out h0
  have hy1 : NrmYes false false A 200 X1 := hX1 ▸ nrm_yes (by rw [← hc1]; exact h1)
  have hy2 : NrmYes false false B 200 X2 := hX2 ▸ nrm_yes (by rw [← hc2]; exact h2)
  have sp : SubstOk T 0 S := tr_iff.1 (hp ▸ hp1)
  have sq : SubstOk X 0 S := tr_iff.1 (hq ▸ hq1)
  have eA : A = T.subst S 0 0 := hA.trans (orZero_yes sp)
  have eB : B = X.subst S 0 0 := hB.trans (orZero_yes sq)
  refine ⟨hy1.valid, norm_same (T := A) (hy1.ok.1.wf) (.refl _) ?_ hy1 hy2⟩
  rw [eA, eB]
  exact y.reds.subst y.ok.1.wf sp.2.1.wf
 have HV1 : Hid (c1 = 0 → X1.Valid) := tuck fun h1 => by
  have hy1 : NrmYes false false A 200 X1 := hX1 ▸ nrm_yes (by rw [← hc1]; exact h1)
  exact hy1.valid
 clear hc1 hX1 hc2 hX2 HCY hA hp hB hq
 refine (HIM.out _ _ V.out.tm).mono ?_
 rintro e u1 ⟨hb, vv, rfl, ss, rfl, hin⟩
 obtain ⟨aVX, cVX, rfl⟩ := hin.form
 replace V := tuck (V.out.below hb)
 replace VU := tuck (VU.out.below hb)
 replace HB := tuck (bAfter HB.out hb)
 have HNVX := tuck hin
 clear hb hin
 obtain ⟨zV, c0V, c1V, c2V, cfV⟩ := V.out.facts
 obtain ⟨zVU, c0VU, c1VU, c2VU, cfVU⟩ := VU.out.facts
 go_wp2_with fail
 clear zV c0V c1V c2V cfV zVU c0VU c1VU c2VU cfVU
 have VX := tuck (TV.new HNVX.out)
 have hb := below1 u1 (.cells #[.int .i64 X.kind, .int .i64 X.num, .slice aVX X.kids.length cVX] 25)
 replace V := tuck (V.out.below hb)
 replace VU := tuck (VU.out.below hb)
 replace HB := tuck (bAfter HB.out hb)
 clear hb HNVX
 generalize u1.alloc (.cells #[.int .i64 X.kind, .int .i64 X.num, .slice aVX X.kids.length cVX] 25) = U1 at *
 generalize u1.heap.size = gVX at *
 refine (HSP.out _ _ V.out.tm).mono ?_
 rintro e u2 ⟨hb, vv, rfl, ss, rfl, hin⟩
 obtain ⟨aVW, cVW, rfl⟩ := hin.form
 replace V := tuck (V.out.below hb)
 replace VU := tuck (VU.out.below hb)
 replace VX := tuck (VX.out.below hb)
 replace HB := tuck (bAfter HB.out hb)
 have HNVW := tuck hin
 clear hb hin
 obtain ⟨zV, c0V, c1V, c2V, cfV⟩ := V.out.facts
 obtain ⟨zVU, c0VU, c1VU, c2VU, cfVU⟩ := VU.out.facts
 obtain ⟨zVX, c0VX, c1VX, c2VX, cfVX⟩ := VX.out.facts
 go_wp2_with fail
 clear zV c0V c1V c2V cfV zVU c0VU c1VU c2VU cfVU zVX c0VX c1VX c2VX cfVX
 have VW := tuck (TV.new HNVW.out)
 have hb := below1 u2 (.cells #[.int .i64 X.kind, .int .i64 X.num, .slice aVW X.kids.length cVW] 25)
 replace V := tuck (V.out.below hb)
 replace VU := tuck (VU.out.below hb)
 replace VX := tuck (VX.out.below hb)
 replace HB := tuck (bAfter HB.out hb)
 clear hb HNVW
 generalize u2.alloc (.cells #[.int .i64 X.kind, .int .i64 X.num, .slice aVW X.kids.length cVW] 25) = U2 at *
 generalize u2.heap.size = gVW at *
 refine (I1.out _ _ _ V.out.tm VU.out.tm).mono ?_
 rintro e u3 ⟨hb, vv, rfl, ss, rfl, hin⟩
 obtain ⟨aVA, cVA, rfl⟩ := hin.form
 replace V := tuck (V.out.below hb)
 replace VU := tuck (VU.out.below hb)
 replace VX := tuck (VX.out.below hb)
 replace VW := tuck (VW.out.below hb)
 replace HB := tuck (bAfter HB.out hb)
 have HNVA := tuck hin
 clear hb hin
 obtain ⟨zV, c0V, c1V, c2V, cfV⟩ := V.out.facts
 obtain ⟨zVU, c0VU, c1VU, c2VU, cfVU⟩ := VU.out.facts
 obtain ⟨zVX, c0VX, c1VX, c2VX, cfVX⟩ := VX.out.facts
 obtain ⟨zVW, c0VW, c1VW, c2VW, cfVW⟩ := VW.out.facts
 go_wp2_with fail
 clear zV c0V c1V c2V cfV zVU c0VU c1VU c2VU cfVU zVX c0VX c1VX c2VX cfVX zVW c0VW c1VW c2VW cfVW
 have VA := tuck (TV.new HNVA.out)
 have hb := below1 u3 (.cells #[.int .i64 A.kind, .int .i64 A.num, .slice aVA A.kids.length cVA] 25)
 replace V := tuck (V.out.below hb)
 replace VU := tuck (VU.out.below hb)
 replace VX := tuck (VX.out.below hb)
 replace VW := tuck (VW.out.below hb)
 replace HB := tuck (bAfter HB.out hb)
 clear hb HNVA
 generalize u3.alloc (.cells #[.int .i64 A.kind, .int .i64 A.num, .slice aVA A.kids.length cVA] 25) = U3 at *
 generalize u3.heap.size = gVA at *
 refine (I2.out _ _ _ VX.out.tm VU.out.tm).mono ?_
 rintro e u4 ⟨hb, vv, rfl, ss, rfl, hin⟩
 obtain ⟨aVB, cVB, rfl⟩ := hin.form
 replace V := tuck (V.out.below hb)
 replace VU := tuck (VU.out.below hb)
 replace VX := tuck (VX.out.below hb)
 replace VW := tuck (VW.out.below hb)
 replace VA := tuck (VA.out.below hb)
 replace HB := tuck (bAfter HB.out hb)
 have HNVB := tuck hin
 clear hb hin
 obtain ⟨zV, c0V, c1V, c2V, cfV⟩ := V.out.facts
 obtain ⟨zVU, c0VU, c1VU, c2VU, cfVU⟩ := VU.out.facts
 obtain ⟨zVX, c0VX, c1VX, c2VX, cfVX⟩ := VX.out.facts
 obtain ⟨zVW, c0VW, c1VW, c2VW, cfVW⟩ := VW.out.facts
 obtain ⟨zVA, c0VA, c1VA, c2VA, cfVA⟩ := VA.out.facts
 go_wp2_with fail
 clear zV c0V c1V c2V cfV zVU c0VU c1VU c2VU cfVU zVX c0VX c1VX c2VX cfVX zVW c0VW c1VW c2VW cfVW zVA c0VA c1VA c2VA cfVA
 have VB := tuck (TV.new HNVB.out)
 have hb := below1 u4 (.cells #[.int .i64 B.kind, .int .i64 B.num, .slice aVB B.kids.length cVB] 25)
 replace V := tuck (V.out.below hb)
 replace VU := tuck (VU.out.below hb)
 replace VX := tuck (VX.out.below hb)
 replace VW := tuck (VW.out.below hb)
 replace VA := tuck (VA.out.below hb)
 replace HB := tuck (bAfter HB.out hb)
 clear hb HNVB
 generalize u4.alloc (.cells #[.int .i64 B.kind, .int .i64 B.num, .slice aVB B.kids.length cVB] 25) = U4 at *
 generalize u4.heap.size = gVB at *
 refine (HTS.out _ _ _ VX.out.tm VW.out.tm).mono ?_
 rintro e u5 ⟨rfl, hb⟩
 replace V := tuck (V.out.below hb)
 replace VU := tuck (VU.out.below hb)
 replace VX := tuck (VX.out.below hb)
 replace VW := tuck (VW.out.below hb)
 replace VA := tuck (VA.out.below hb)
 replace VB := tuck (VB.out.below hb)
 replace HB := tuck (bAfter HB.out hb)
 clear hb
 by_cases hnc : c ≠ 0
 ·skip
  have kc : (c != 0) = true := by rw [bne_iff_ne]; exact hnc
  obtain ⟨zV, c0V, c1V, c2V, cfV⟩ := V.out.facts
  obtain ⟨zVU, c0VU, c1VU, c2VU, cfVU⟩ := VU.out.facts
  obtain ⟨zVX, c0VX, c1VX, c2VX, cfVX⟩ := VX.out.facts
  obtain ⟨zVW, c0VW, c1VW, c2VW, cfVW⟩ := VW.out.facts
  obtain ⟨zVA, c0VA, c1VA, c2VA, cfVA⟩ := VA.out.facts
  obtain ⟨zVB, c0VB, c1VB, c2VB, cfVB⟩ := VB.out.facts
  go_wp2_with fail
  refine (HTS.out _ _ _ VX.out.tm VW.out.tm).mono ?_
  rintro e u26 ⟨rfl, hb⟩
  clear zV c0V c1V c2V cfV zVU c0VU c1VU c2VU cfVU zVX c0VX c1VX c2VX cfVX zVW c0VW c1VW c2VW cfVW zVA c0VA c1VA c2VA cfVA zVB c0VB c1VB c2VB cfVB
  replace V := tuck (V.out.below hb)
  replace VU := tuck (VU.out.below hb)
  replace VX := tuck (VX.out.below hb)
  replace VW := tuck (VW.out.below hb)
  replace VA := tuck (VA.out.below hb)
  replace VB := tuck (VB.out.below hb)
  replace HB := tuck (bAfter HB.out hb)
  clear hb
  obtain ⟨zV, c0V, c1V, c2V, cfV⟩ := V.out.facts
  obtain ⟨zVU, c0VU, c1VU, c2VU, cfVU⟩ := VU.out.facts
  obtain ⟨zVX, c0VX, c1VX, c2VX, cfVX⟩ := VX.out.facts
  obtain ⟨zVW, c0VW, c1VW, c2VW, cfVW⟩ := VW.out.facts
  obtain ⟨zVA, c0VA, c1VA, c2VA, cfVA⟩ := VA.out.facts
  obtain ⟨zVB, c0VB, c1VB, c2VB, cfVB⟩ := VB.out.facts
  go_wp2_with fail
  go_ret
  exact ⟨rfl, HB.out⟩
 obtain rfl : c = 0 := Classical.byContradiction hnc
 cases p
 ·skip
  obtain ⟨zV, c0V, c1V, c2V, cfV⟩ := V.out.facts
  obtain ⟨zVU, c0VU, c1VU, c2VU, cfVU⟩ := VU.out.facts
  obtain ⟨zVX, c0VX, c1VX, c2VX, cfVX⟩ := VX.out.facts
  obtain ⟨zVW, c0VW, c1VW, c2VW, cfVW⟩ := VW.out.facts
  obtain ⟨zVA, c0VA, c1VA, c2VA, cfVA⟩ := VA.out.facts
  obtain ⟨zVB, c0VB, c1VB, c2VB, cfVB⟩ := VB.out.facts
  go_wp2_with fail
  refine (HTS.out _ _ _ VX.out.tm VW.out.tm).mono ?_
  rintro e u26 ⟨rfl, hb⟩
  clear zV c0V c1V c2V cfV zVU c0VU c1VU c2VU cfVU zVX c0VX c1VX c2VX cfVX zVW c0VW c1VW c2VW cfVW zVA c0VA c1VA c2VA cfVA zVB c0VB c1VB c2VB cfVB
  replace V := tuck (V.out.below hb)
  replace VU := tuck (VU.out.below hb)
  replace VX := tuck (VX.out.below hb)
  replace VW := tuck (VW.out.below hb)
  replace VA := tuck (VA.out.below hb)
  replace VB := tuck (VB.out.below hb)
  replace HB := tuck (bAfter HB.out hb)
  clear hb
  obtain ⟨zV, c0V, c1V, c2V, cfV⟩ := V.out.facts
  obtain ⟨zVU, c0VU, c1VU, c2VU, cfVU⟩ := VU.out.facts
  obtain ⟨zVX, c0VX, c1VX, c2VX, cfVX⟩ := VX.out.facts
  obtain ⟨zVW, c0VW, c1VW, c2VW, cfVW⟩ := VW.out.facts
  obtain ⟨zVA, c0VA, c1VA, c2VA, cfVA⟩ := VA.out.facts
  obtain ⟨zVB, c0VB, c1VB, c2VB, cfVB⟩ := VB.out.facts
  go_wp2_with fail
  go_ret
  exact ⟨rfl, HB.out⟩
 cases q
 ·skip
  obtain ⟨zV, c0V, c1V, c2V, cfV⟩ := V.out.facts
  obtain ⟨zVU, c0VU, c1VU, c2VU, cfVU⟩ := VU.out.facts
  obtain ⟨zVX, c0VX, c1VX, c2VX, cfVX⟩ := VX.out.facts
  obtain ⟨zVW, c0VW, c1VW, c2VW, cfVW⟩ := VW.out.facts
  obtain ⟨zVA, c0VA, c1VA, c2VA, cfVA⟩ := VA.out.facts
  obtain ⟨zVB, c0VB, c1VB, c2VB, cfVB⟩ := VB.out.facts
  go_wp2_with fail
  refine (HTS.out _ _ _ VX.out.tm VW.out.tm).mono ?_
  rintro e u26 ⟨rfl, hb⟩
  clear zV c0V c1V c2V cfV zVU c0VU c1VU c2VU cfVU zVX c0VX c1VX c2VX cfVX zVW c0VW c1VW c2VW cfVW zVA c0VA c1VA c2VA cfVA zVB c0VB c1VB c2VB cfVB
  replace V := tuck (V.out.below hb)
  replace VU := tuck (VU.out.below hb)
  replace VX := tuck (VX.out.below hb)
  replace VW := tuck (VW.out.below hb)
  replace VA := tuck (VA.out.below hb)
  replace VB := tuck (VB.out.below hb)
  replace HB := tuck (bAfter HB.out hb)
  clear hb
  obtain ⟨zV, c0V, c1V, c2V, cfV⟩ := V.out.facts
  obtain ⟨zVU, c0VU, c1VU, c2VU, cfVU⟩ := VU.out.facts
  obtain ⟨zVX, c0VX, c1VX, c2VX, cfVX⟩ := VX.out.facts
  obtain ⟨zVW, c0VW, c1VW, c2VW, cfVW⟩ := VW.out.facts
  obtain ⟨zVA, c0VA, c1VA, c2VA, cfVA⟩ := VA.out.facts
  obtain ⟨zVB, c0VB, c1VB, c2VB, cfVB⟩ := VB.out.facts
  go_wp2_with fail
  go_ret
  exact ⟨rfl, HB.out⟩
 obtain ⟨zV, c0V, c1V, c2V, cfV⟩ := V.out.facts
 obtain ⟨zVU, c0VU, c1VU, c2VU, cfVU⟩ := VU.out.facts
 obtain ⟨zVX, c0VX, c1VX, c2VX, cfVX⟩ := VX.out.facts
 obtain ⟨zVW, c0VW, c1VW, c2VW, cfVW⟩ := VW.out.facts
 obtain ⟨zVA, c0VA, c1VA, c2VA, cfVA⟩ := VA.out.facts
 obtain ⟨zVB, c0VB, c1VB, c2VB, cfVB⟩ := VB.out.facts
 go_wp2_with fail
 refine (H1.out _ _ VA.out.tm).mono ?_
 rintro e u6 ⟨hb, vv, rfl, ss, rfl, hin⟩
 obtain ⟨aVC, cVC, rfl⟩ := hin.form
 clear zV c0V c1V c2V cfV zVU c0VU c1VU c2VU cfVU zVX c0VX c1VX c2VX cfVX zVW c0VW c1VW c2VW cfVW zVA c0VA c1VA c2VA cfVA zVB c0VB c1VB c2VB cfVB
 replace V := tuck (V.out.below hb)
 replace VU := tuck (VU.out.below hb)
 replace VX := tuck (VX.out.below hb)
 replace VW := tuck (VW.out.below hb)
 replace VA := tuck (VA.out.below hb)
 replace VB := tuck (VB.out.below hb)
 replace HB := tuck (bAfter HB.out hb)
 have HNVC := tuck hin
 clear hb hin
 obtain ⟨zV, c0V, c1V, c2V, cfV⟩ := V.out.facts
 obtain ⟨zVU, c0VU, c1VU, c2VU, cfVU⟩ := VU.out.facts
 obtain ⟨zVX, c0VX, c1VX, c2VX, cfVX⟩ := VX.out.facts
 obtain ⟨zVW, c0VW, c1VW, c2VW, cfVW⟩ := VW.out.facts
 obtain ⟨zVA, c0VA, c1VA, c2VA, cfVA⟩ := VA.out.facts
 obtain ⟨zVB, c0VB, c1VB, c2VB, cfVB⟩ := VB.out.facts
 go_wp2_with fail
 clear zV c0V c1V c2V cfV zVU c0VU c1VU c2VU cfVU zVX c0VX c1VX c2VX cfVX zVW c0VW c1VW c2VW cfVW zVA c0VA c1VA c2VA cfVA zVB c0VB c1VB c2VB cfVB
 have VC := tuck (TV.new HNVC.out)
 have hb := below1 u6 (.cells #[.int .i64 X1.kind, .int .i64 X1.num, .slice aVC X1.kids.length cVC] 25)
 replace V := tuck (V.out.below hb)
 replace VU := tuck (VU.out.below hb)
 replace VX := tuck (VX.out.below hb)
 replace VW := tuck (VW.out.below hb)
 replace VA := tuck (VA.out.below hb)
 replace VB := tuck (VB.out.below hb)
 replace HB := tuck (bAfter HB.out hb)
 clear hb HNVC
 generalize u6.alloc (.cells #[.int .i64 X1.kind, .int .i64 X1.num, .slice aVC X1.kids.length cVC] 25) = U6 at *
 generalize u6.heap.size = gVC at *
 refine (H2.out _ _ VB.out.tm).mono ?_
 rintro e u7 ⟨hb, vv, rfl, ss, rfl, hin⟩
 obtain ⟨aVD, cVD, rfl⟩ := hin.form
 replace V := tuck (V.out.below hb)
 replace VU := tuck (VU.out.below hb)
 replace VX := tuck (VX.out.below hb)
 replace VW := tuck (VW.out.below hb)
 replace VA := tuck (VA.out.below hb)
 replace VB := tuck (VB.out.below hb)
 replace VC := tuck (VC.out.below hb)
 replace HB := tuck (bAfter HB.out hb)
 have HNVD := tuck hin
 clear hb hin
 by_cases hnc1 : c1 ≠ 0
 ·skip
  have kc1 : (c1 != 0) = true := by rw [bne_iff_ne]; exact hnc1
  obtain ⟨zV, c0V, c1V, c2V, cfV⟩ := V.out.facts
  obtain ⟨zVU, c0VU, c1VU, c2VU, cfVU⟩ := VU.out.facts
  obtain ⟨zVX, c0VX, c1VX, c2VX, cfVX⟩ := VX.out.facts
  obtain ⟨zVW, c0VW, c1VW, c2VW, cfVW⟩ := VW.out.facts
  obtain ⟨zVA, c0VA, c1VA, c2VA, cfVA⟩ := VA.out.facts
  obtain ⟨zVB, c0VB, c1VB, c2VB, cfVB⟩ := VB.out.facts
  obtain ⟨zVC, c0VC, c1VC, c2VC, cfVC⟩ := VC.out.facts
  go_wp2_with fail
  go_ret
  exact ⟨rfl, bAfter HB.out (below1 _ _)⟩
 obtain rfl : c1 = 0 := Classical.byContradiction hnc1
 by_cases hnc2 : c2 ≠ 0
 ·skip
  have kc2 : (c2 != 0) = true := by rw [bne_iff_ne]; exact hnc2
  obtain ⟨zV, c0V, c1V, c2V, cfV⟩ := V.out.facts
  obtain ⟨zVU, c0VU, c1VU, c2VU, cfVU⟩ := VU.out.facts
  obtain ⟨zVX, c0VX, c1VX, c2VX, cfVX⟩ := VX.out.facts
  obtain ⟨zVW, c0VW, c1VW, c2VW, cfVW⟩ := VW.out.facts
  obtain ⟨zVA, c0VA, c1VA, c2VA, cfVA⟩ := VA.out.facts
  obtain ⟨zVB, c0VB, c1VB, c2VB, cfVB⟩ := VB.out.facts
  obtain ⟨zVC, c0VC, c1VC, c2VC, cfVC⟩ := VC.out.facts
  go_wp2_with fail
  go_ret
  exact ⟨rfl, bAfter HB.out (below1 _ _)⟩
 obtain rfl : c2 = 0 := Classical.byContradiction hnc2
 obtain ⟨hv, he⟩ := HEQ.out (by trivial) (by trivial) (by trivial) (by trivial) (by trivial)
 have HTT : Hid (∀ (w : World) (v1 v2 : Value), TmIn w 0 X1 v1 → TmIn w 0 X1 v2 → Calls Tryz.prog 20 #[v1, v2] w (BoolPost w true)) := same_v hv
 subst he
 clear HEQ HV1 hnc1 hnc2 hnc hv
 obtain ⟨zV, c0V, c1V, c2V, cfV⟩ := V.out.facts
 obtain ⟨zVU, c0VU, c1VU, c2VU, cfVU⟩ := VU.out.facts
 obtain ⟨zVX, c0VX, c1VX, c2VX, cfVX⟩ := VX.out.facts
 obtain ⟨zVW, c0VW, c1VW, c2VW, cfVW⟩ := VW.out.facts
 obtain ⟨zVA, c0VA, c1VA, c2VA, cfVA⟩ := VA.out.facts
 obtain ⟨zVB, c0VB, c1VB, c2VB, cfVB⟩ := VB.out.facts
 obtain ⟨zVC, c0VC, c1VC, c2VC, cfVC⟩ := VC.out.facts
 go_wp2_with fail
 clear zV c0V c1V c2V cfV zVU c0VU c1VU c2VU cfVU zVX c0VX c1VX c2VX cfVX zVW c0VW c1VW c2VW cfVW zVA c0VA c1VA c2VA cfVA zVB c0VB c1VB c2VB cfVB zVC c0VC c1VC c2VC cfVC
 refine (HTT.out _ _ _ ⟨_, rfl, VC.out.sl.below (below1 _ _)⟩ ⟨_, rfl, HNVD.out.below (below1 _ _)⟩).mono ?_
 rintro e u99 ⟨rfl, hb⟩
 replace HB := tuck (bAfter (bAfter HB.out (below1 _ _)) hb)
 clear hb
 go_wp2_with fail
 go_ret
 exact ⟨rfl, HB.out⟩
set_option maxRecDepth 100000 in
theorem lifted (os : Os) (started : os.Started) (H : Type) (enc : TypeId × Value → H) :
  ReturnsInHanded {} Tryz.checked os 8 .any (Rows.fnSubstReduceSpec.pre6 enc Tryz.prog Tryz.f8 Rows.fnSubstReduceRow.domain false) (Rows.fnSubstReduceSpec.post enc Tryz.prog Tryz.f8 false true false false) := by
 refine returnsInHanded_of_change (C := Tryz.checked) own started (by kernel_rfl) Tryz.func8
  (ChangeSpec.witness6 (enc := enc) (C := Tryz.checked) false ⟨#[], #[.slice none 0 0, .slice none 0 0], []⟩ 8 (by kernel_rfl) (by kernel_rfl) (by kernel_rfl) (by kernel_rfl)) ?_
 intro W base args ds gs before hval0 hW hcnd _
 have hval : ∀ (j : Nat) t v, Tryz.f8.params[j]? = some t → args[j]? = some v → Value.okWide Tryz.prog W .any base t v := hval0
 have hW' := hW
 obtain ⟨p, q, hA0, hV, rfl, hfz, hnd⟩ := hW
 have hA : DataW.TrodAll enc Tryz.prog W 0 (fun _ => true) true Tryz.f8.params.toList args.toList ds p := hA0
 rw [Tryz.params8] at hA hval
 obtain ⟨v0, vs0, d0, ds0, p0, q0, hargs, rfl, rfl, h0, r0⟩ := trodAll_cons hA
 obtain ⟨v1, vs1, d1, ds1, p1, q1, rfl, rfl, rfl, h1, r1⟩ := trodAll_cons r0
 obtain ⟨rfl, rfl, rfl⟩ := trodAll_nil r1
 obtain rfl : args = #[v0, v1] := by cases args; simp_all
 obtain ⟨U0, ad0, bb0, oo0, len0, cap0, rfl, hlc0, hcm0, hbl0, hby0⟩ := open_bytes (hval 0 22 v0 rfl rfl) h0
 obtain ⟨U1, ad1, bb1, oo1, len1, cap1, rfl, hlc1, hcm1, hbl1, hby1⟩ := open_bytes (hval 1 22 v1 rfl rfl) h1
 refine (walk U0 ad0 bb0 oo0 len0 cap0 W hlc0 hcm0 hby0 U1 ad1 bb1 oo1 len1 cap1 hlc1 hcm1 hby1).mono fun e W' ⟨he, hb⟩ => ?_
 subst he
 exact ⟨_, rfl, law_post rfl rfl (fun gs h => by subst h; rfl) (by rw [Tryz.params8]; exact readable_FnSubstReduce) laid hW' hb⟩
theorem over : Rows.fnSubstReduceRow.holds Tryz.pinned (OpenSpec.ofChange Rows.fnSubstReduceSpec) :=
 OpenClaim.holds_of_wide 8 Tryz.f8 rfl rfl rfl rfl rfl rfl rfl ⟨rfl, rfl, rfl, rfl, rfl⟩ rfl rfl rfl rfl rfl (by kernel_rfl) Tryz.func8 (by kernel_rfl)
  (of_decide_eq_true (by kernel_rfl)) (by unfold Func.isWrapper; first | (rw [if_pos (by decide +kernel)]; kernel_rfl) | (rw [if_neg (by decide +kernel)]; exact ⟨rfl, rfl⟩))
  (fun os started H enc _ => lifted os started H enc)
theorem proved : Rows.FnSubstReduceSaid :=
 over
end Go.Proofs.YtabbbnddfcbdiaaGreat.fnSubstReduce
