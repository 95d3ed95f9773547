/-
  The law FnHeadNormal: whatever the bytes, a head normalization does not change the normal term, and its result is no redex.
-/
import Derived.Test.YtabbbnddfcbdiaaGreatC34
import Derived.IntWalk
namespace Go.Proofs.YtabbbnddfcbdiaaGreat.fnHeadNormal
open Go.ChangeShapes Go.WideShapes Go.ChangeAt Go.RowKit Go.Deep
set_option linter.unusedVariables false
theorem readable_FnHeadNormal : ∀ t ∈ (#[22] : Array TypeId).toList, Tryz.prog.readableRec t = true ∧ t < Tryz.prog.types.size := by
 intro t ht
 simp at ht
 subst ht
 exact ⟨by kernel_rfl, of_decide_eq_true (by kernel_rfl)⟩
theorem laid : laidOutB Tryz.prog = true := by kernel_rfl
set_option maxRecDepth 100000 in
set_option maxHeartbeats 1600000 in
theorem walk (U : Nat → Int) (a : Option Addr) (b o len cap : Nat) (w : World) (hlc : len ≤ cap) (hcm : cap ≤ maxLen) (hby : Bytes U a b o len w) : Calls Tryz.prog 9 #[.slice a len cap] w fun e w' => e = .returned (.bool true) ∧ Below w.heap.size w w' := by
 unfold maxLen at hcm
 by_cases hl : 1048576 < len
 ·have hl' : (1048576 : Int) < (len : Int) := by omega
  clear hby
  go_enter Tryz.func9, Tryz.ntmps9
  go_wp2
  go_ret
  exact ⟨rfl, Below.refl _ _⟩
 have hl' : ¬ (1048576 : Int) < (len : Int) := by omega
 have HD := tuck (dHeadNormal_any w (by omega) hlc hby)
 clear hby
 go_enter Tryz.func9, Tryz.ntmps9
 go_wp2_with fail
 refine HD.out.mono ?_
 rintro e w1 ⟨T, v, x, rfl, ⟨s, rfl, hin⟩, hsz, hx0, hx1, hb⟩
 obtain ⟨aV, cV, rfl⟩ := hin.form
 have V := tuck (TV.new (hin.mono (Nat.zero_le _)))
 have HB := tuck (bAfter hb (below1 w1 (.cells #[.int .i64 T.kind, .int .i64 T.num, .slice aV T.kids.length cV] 25)))
 have HSZ : Hid (sizes T.kids ≤ 1048576) := tuck (by have := T.size_eq; omega)
 clear hin hb HD hsz
 go_wp2_with fail
 generalize w1.alloc (.cells #[.int .i64 T.kind, .int .i64 T.num, .slice aV T.kids.length cV] 25) = U0 at *
 generalize w1.heap.size = gV at *
 obtain ⟨c, hcc⟩ : ∃ c, c = normC false true T x := ⟨_, rfl⟩
 obtain ⟨X, hX⟩ : ∃ X, X = normT false true T x := ⟨_, rfl⟩
 have HIM : Hid (∀ (w : World) (v : Value), TmIn w 0 T v → Calls Tryz.prog 35 #[v, .int .i64 x] w (SCodePost w c X)) := fun w v h => by
  have h2 := headI_p T x w v h; rwa [← hcc, ← hX] at h2
 have HSP : Hid (∀ (w : World) (v : Value), TmIn w 0 T v → Calls Tryz.prog 36 #[v, .int .i64 x] w (SCodePost w c X)) := fun w v h => by
  have h2 := headS_p T x w v h; rwa [← hcc, ← hX] at h2
 by_cases hc : normC false true T x = 0
 rotate_left
 ·have hXz : X = zeroT := hX.trans (nrm_no hc)
  have k0 : (c == 0) = false := by rw [hcc, beq_eq_false_iff_ne]; exact hc
  have k1 : (c != 0) = true := by rw [hcc, bne_iff_ne]; exact hc
  have HTS : Hid (∀ (w : World) (v1 v2 : Value), TmIn w 0 X v1 → TmIn w 0 X v2 → Calls Tryz.prog 20 #[v1, v2] w (BoolPost w true)) := fun w v1 v2 h1 h2 => by rw [hXz] at h1 h2; exact same_z w v1 v2 h1 h2
  have HZ : Hid (∀ w : World, TmIn w 0 X (.agg #[.int .i64 0, .int .i64 0, .slice none 0 0])) := tuck fun w => by rw [hXz]; exact ⟨_, rfl, SlIn.nil _ _ _ _⟩
  have HC3 : Hid (NormOk T x → c ≠ 3) := tuck fun h => by rw [hcc, normC_ok h]; rcases runGo_code (rl := false) (mo := true) x.toNat T with h | h | h <;> omega
  clear hc hcc hX hXz
  refine (HIM.out _ _ V.out.tm).mono ?_
  rintro e u21 ⟨hb, vv, rfl, ss, rfl, hin⟩
  obtain ⟨aVX, cVX, rfl⟩ := hin.form
  replace V := tuck (V.out.below hb)
  replace HB := tuck (bAfter HB.out hb)
  have HNVX := tuck hin
  clear hb hin
  obtain ⟨zV, c0V, c1V, c2V, cfV⟩ := V.out.facts
  go_wp2_with fail
  clear zV c0V c1V c2V cfV
  have VX := tuck (TV.new HNVX.out)
  have hb := below1 u21 (.cells #[.int .i64 X.kind, .int .i64 X.num, .slice aVX X.kids.length cVX] 25)
  replace V := tuck (V.out.below hb)
  replace HB := tuck (bAfter HB.out hb)
  clear hb HNVX
  generalize u21.alloc (.cells #[.int .i64 X.kind, .int .i64 X.num, .slice aVX X.kids.length cVX] 25) = U21 at *
  generalize u21.heap.size = gVX at *
  refine (HSP.out _ _ V.out.tm).mono ?_
  rintro e u22 ⟨hb, vv, rfl, ss, rfl, hin⟩
  obtain ⟨aVW, cVW, rfl⟩ := hin.form
  replace V := tuck (V.out.below hb)
  replace VX := tuck (VX.out.below hb)
  replace HB := tuck (bAfter HB.out hb)
  have HNVW := tuck hin
  clear hb hin
  obtain ⟨zV, c0V, c1V, c2V, cfV⟩ := V.out.facts
  obtain ⟨zVX, c0VX, c1VX, c2VX, cfVX⟩ := VX.out.facts
  go_wp2_with fail
  clear zV c0V c1V c2V cfV zVX c0VX c1VX c2VX cfVX
  have VW := tuck (TV.new HNVW.out)
  have hb := below1 u22 (.cells #[.int .i64 X.kind, .int .i64 X.num, .slice aVW X.kids.length cVW] 25)
  replace V := tuck (V.out.below hb)
  replace VX := tuck (VX.out.below hb)
  replace HB := tuck (bAfter HB.out hb)
  clear hb HNVW
  generalize u22.alloc (.cells #[.int .i64 X.kind, .int .i64 X.num, .slice aVW X.kids.length cVW] 25) = U22 at *
  generalize u22.heap.size = gVW at *
  refine (HTS.out _ _ _ VX.out.tm VW.out.tm).mono ?_
  rintro e u23 ⟨rfl, hb⟩
  replace V := tuck (V.out.below hb)
  replace VX := tuck (VX.out.below hb)
  replace VW := tuck (VW.out.below hb)
  replace HB := tuck (bAfter HB.out hb)
  clear hb
  obtain ⟨zV, c0V, c1V, c2V, cfV⟩ := V.out.facts
  obtain ⟨zVX, c0VX, c1VX, c2VX, cfVX⟩ := VX.out.facts
  obtain ⟨zVW, c0VW, c1VW, c2VW, cfVW⟩ := VW.out.facts
  go_wp2_with fail
  refine (HTS.out _ _ _ VX.out.tm VW.out.tm).mono ?_
  rintro e u24 ⟨rfl, hb⟩
  clear zV c0V c1V c2V cfV zVX c0VX c1VX c2VX cfVX zVW c0VW c1VW c2VW cfVW
  replace V := tuck (V.out.below hb)
  replace VX := tuck (VX.out.below hb)
  replace VW := tuck (VW.out.below hb)
  replace HB := tuck (bAfter HB.out hb)
  clear hb
  obtain ⟨zV, c0V, c1V, c2V, cfV⟩ := V.out.facts
  obtain ⟨zVX, c0VX, c1VX, c2VX, cfVX⟩ := VX.out.facts
  obtain ⟨zVW, c0VW, c1VW, c2VW, cfVW⟩ := VW.out.facts
  go_wp2_with fail
  go_ret
  exact ⟨rfl, HB.out⟩
 have hc0 : c = 0 := hcc.trans hc
 have HY : Hid (NrmYes false true T x X) := tuck (hX ▸ nrm_yes hc)
 have HTS : Hid (∀ (w : World) (v1 v2 : Value), TmIn w 0 X v1 → TmIn w 0 X v2 → Calls Tryz.prog 20 #[v1, v2] w (BoolPost w true)) := same_v HY.out.valid
 clear hc hcc hX
 subst hc0
 refine (HIM.out _ _ V.out.tm).mono ?_
 rintro e u1 ⟨hb, vv, rfl, ss, rfl, hin⟩
 obtain ⟨aVX, cVX, rfl⟩ := hin.form
 replace V := tuck (V.out.below hb)
 replace HB := tuck (bAfter HB.out hb)
 have HNVX := tuck hin
 clear hb hin
 obtain ⟨zV, c0V, c1V, c2V, cfV⟩ := V.out.facts
 go_wp2_with fail
 clear zV c0V c1V c2V cfV
 have VX := tuck (TV.new HNVX.out)
 have hb := below1 u1 (.cells #[.int .i64 X.kind, .int .i64 X.num, .slice aVX X.kids.length cVX] 25)
 replace V := tuck (V.out.below hb)
 replace HB := tuck (bAfter HB.out hb)
 clear hb HNVX
 generalize u1.alloc (.cells #[.int .i64 X.kind, .int .i64 X.num, .slice aVX X.kids.length cVX] 25) = U1 at *
 generalize u1.heap.size = gVX at *
 refine (HSP.out _ _ V.out.tm).mono ?_
 rintro e u2 ⟨hb, vv, rfl, ss, rfl, hin⟩
 obtain ⟨aVW, cVW, rfl⟩ := hin.form
 replace V := tuck (V.out.below hb)
 replace VX := tuck (VX.out.below hb)
 replace HB := tuck (bAfter HB.out hb)
 have HNVW := tuck hin
 clear hb hin
 obtain ⟨zV, c0V, c1V, c2V, cfV⟩ := V.out.facts
 obtain ⟨zVX, c0VX, c1VX, c2VX, cfVX⟩ := VX.out.facts
 go_wp2_with fail
 clear zV c0V c1V c2V cfV zVX c0VX c1VX c2VX cfVX
 have VW := tuck (TV.new HNVW.out)
 have hb := below1 u2 (.cells #[.int .i64 X.kind, .int .i64 X.num, .slice aVW X.kids.length cVW] 25)
 replace V := tuck (V.out.below hb)
 replace VX := tuck (VX.out.below hb)
 replace HB := tuck (bAfter HB.out hb)
 clear hb HNVW
 generalize u2.alloc (.cells #[.int .i64 X.kind, .int .i64 X.num, .slice aVW X.kids.length cVW] 25) = U2 at *
 generalize u2.heap.size = gVW at *
 obtain ⟨c1, hc1⟩ : ∃ q0, q0 = normC false false T 200 := ⟨_, rfl⟩
 obtain ⟨X1, hX1⟩ : ∃ Q, Q = normT false false T 200 := ⟨_, rfl⟩
 have H1 : Hid (∀ (w : World) (v : Value), TmIn w 0 T v → Calls Tryz.prog 16 #[v, .int .i64 200] w (SCodePost w c1 X1)) := fun w v h => by
  have h2 := normI_p T 200 w v h; rwa [← hc1, ← hX1] at h2
 obtain ⟨c2, hc2⟩ : ∃ q0, q0 = normC false false X 200 := ⟨_, rfl⟩
 obtain ⟨X2, hX2⟩ : ∃ Q, Q = normT false false X 200 := ⟨_, rfl⟩
 have H2 : Hid (∀ (w : World) (v : Value), TmIn w 0 X v → Calls Tryz.prog 16 #[v, .int .i64 200] w (SCodePost w c2 X2)) := fun w v h => by
  have h2 := normI_p X 200 w v h; rwa [← hc2, ← hX2] at h2
 have HFX : Hid (∀ (w : World) (v : Value), TmIn w 0 X v → Calls Tryz.prog 35 #[v, .int .i64 0] w (SCodePost w 0 X)) := fun w v h => by
  have h2 := headI_p X 0 w v h; have h3 := norm_fix (rl := false) (mo := true) (x := 0) HY.out.valid (by first | exact HY.out.done | exact Tm.nrm_step _ HY.out.done) (by decide) (by decide); rwa [h3.1, h3.2] at h2
 have HRX : Hid (∀ (w : World) (v : Value), TmIn w 0 X v → Calls Tryz.prog 32 #[v] w (IntPost w 0)) := fun w v h => by
  have h2 := redexOfI_any X w v h; rwa [show redexOf X = 0 by unfold redexOf; rw [if_pos HY.out.valid]; exact redex_of_none HY.out.done] at h2
 have HEQ : Hid (c1 = 0 → c2 = 0 → X1.Valid ∧ X1 = X2) := tuck fun h1 h2 => by
  have hy1 : NrmYes false false T 200 X1 := hX1 ▸ nrm_yes (by rw [← hc1]; exact h1)
  have hy2 : NrmYes false false X 200 X2 := hX2 ▸ nrm_yes (by rw [← hc2]; exact h2)
  exact ⟨hy1.valid, norm_same HY.out.ok.1.wf (.refl _) HY.out.reds hy1 hy2⟩
 have HT1 : Hid (c1 = 0 → ∀ (w : World) (v1 v2 : Value), TmIn w 0 X1 v1 → TmIn w 0 X1 v2 → Calls Tryz.prog 20 #[v1, v2] w (BoolPost w true)) := tuck fun h1 => by
  have hy1 : NrmYes false false T 200 X1 := hX1 ▸ nrm_yes (by rw [← hc1]; exact h1)
  exact same_v hy1.valid
 clear hc1 hX1 hc2 hX2
 refine (HTS.out _ _ _ VX.out.tm VW.out.tm).mono ?_
 rintro e u3 ⟨rfl, hb⟩
 replace V := tuck (V.out.below hb)
 replace VX := tuck (VX.out.below hb)
 replace VW := tuck (VW.out.below hb)
 replace HB := tuck (bAfter HB.out hb)
 clear hb
 obtain ⟨zV, c0V, c1V, c2V, cfV⟩ := V.out.facts
 obtain ⟨zVX, c0VX, c1VX, c2VX, cfVX⟩ := VX.out.facts
 obtain ⟨zVW, c0VW, c1VW, c2VW, cfVW⟩ := VW.out.facts
 go_wp2_with fail
 refine (H1.out _ _ V.out.tm).mono ?_
 rintro e u4 ⟨hb, vv, rfl, ss, rfl, hin⟩
 obtain ⟨aVA, cVA, rfl⟩ := hin.form
 clear zV c0V c1V c2V cfV zVX c0VX c1VX c2VX cfVX zVW c0VW c1VW c2VW cfVW
 replace V := tuck (V.out.below hb)
 replace VX := tuck (VX.out.below hb)
 replace VW := tuck (VW.out.below hb)
 replace HB := tuck (bAfter HB.out hb)
 have HNVA := tuck hin
 clear hb hin
 obtain ⟨zV, c0V, c1V, c2V, cfV⟩ := V.out.facts
 obtain ⟨zVX, c0VX, c1VX, c2VX, cfVX⟩ := VX.out.facts
 obtain ⟨zVW, c0VW, c1VW, c2VW, cfVW⟩ := VW.out.facts
 go_wp2_with fail
 clear zV c0V c1V c2V cfV zVX c0VX c1VX c2VX cfVX zVW c0VW c1VW c2VW cfVW
 have VA := tuck (TV.new HNVA.out)
 have hb := below1 u4 (.cells #[.int .i64 X1.kind, .int .i64 X1.num, .slice aVA X1.kids.length cVA] 25)
 replace V := tuck (V.out.below hb)
 replace VX := tuck (VX.out.below hb)
 replace VW := tuck (VW.out.below hb)
 replace HB := tuck (bAfter HB.out hb)
 clear hb HNVA
 generalize u4.alloc (.cells #[.int .i64 X1.kind, .int .i64 X1.num, .slice aVA X1.kids.length cVA] 25) = U4 at *
 generalize u4.heap.size = gVA at *
 refine (H2.out _ _ VX.out.tm).mono ?_
 rintro e u5 ⟨hb, vv, rfl, ss, rfl, hin⟩
 obtain ⟨aVB, cVB, rfl⟩ := hin.form
 replace V := tuck (V.out.below hb)
 replace VX := tuck (VX.out.below hb)
 replace VW := tuck (VW.out.below hb)
 replace VA := tuck (VA.out.below hb)
 replace HB := tuck (bAfter HB.out hb)
 have HNVB := tuck hin
 clear hb hin
 obtain ⟨zV, c0V, c1V, c2V, cfV⟩ := V.out.facts
 obtain ⟨zVX, c0VX, c1VX, c2VX, cfVX⟩ := VX.out.facts
 obtain ⟨zVW, c0VW, c1VW, c2VW, cfVW⟩ := VW.out.facts
 obtain ⟨zVA, c0VA, c1VA, c2VA, cfVA⟩ := VA.out.facts
 go_wp2_with fail
 clear zV c0V c1V c2V cfV zVX c0VX c1VX c2VX cfVX zVW c0VW c1VW c2VW cfVW zVA c0VA c1VA c2VA cfVA
 have VB := tuck (TV.new HNVB.out)
 have hb := below1 u5 (.cells #[.int .i64 X2.kind, .int .i64 X2.num, .slice aVB X2.kids.length cVB] 25)
 replace V := tuck (V.out.below hb)
 replace VX := tuck (VX.out.below hb)
 replace VW := tuck (VW.out.below hb)
 replace VA := tuck (VA.out.below hb)
 replace HB := tuck (bAfter HB.out hb)
 clear hb HNVB
 generalize u5.alloc (.cells #[.int .i64 X2.kind, .int .i64 X2.num, .slice aVB X2.kids.length cVB] 25) = U5 at *
 generalize u5.heap.size = gVB at *
 refine (HFX.out _ _ VX.out.tm).mono ?_
 rintro e u6 ⟨hb, vv, rfl, ss, rfl, hin⟩
 obtain ⟨aVY, cVY, rfl⟩ := hin.form
 replace V := tuck (V.out.below hb)
 replace VX := tuck (VX.out.below hb)
 replace VW := tuck (VW.out.below hb)
 replace VA := tuck (VA.out.below hb)
 replace VB := tuck (VB.out.below hb)
 replace HB := tuck (bAfter HB.out hb)
 have HNVY := tuck hin
 clear hb hin
 obtain ⟨zV, c0V, c1V, c2V, cfV⟩ := V.out.facts
 obtain ⟨zVX, c0VX, c1VX, c2VX, cfVX⟩ := VX.out.facts
 obtain ⟨zVW, c0VW, c1VW, c2VW, cfVW⟩ := VW.out.facts
 obtain ⟨zVA, c0VA, c1VA, c2VA, cfVA⟩ := VA.out.facts
 obtain ⟨zVB, c0VB, c1VB, c2VB, cfVB⟩ := VB.out.facts
 go_wp2_with fail
 clear zV c0V c1V c2V cfV zVX c0VX c1VX c2VX cfVX zVW c0VW c1VW c2VW cfVW zVA c0VA c1VA c2VA cfVA zVB c0VB c1VB c2VB cfVB
 have VY := tuck (TV.new HNVY.out)
 have hb := below1 u6 (.cells #[.int .i64 X.kind, .int .i64 X.num, .slice aVY X.kids.length cVY] 25)
 replace V := tuck (V.out.below hb)
 replace VX := tuck (VX.out.below hb)
 replace VW := tuck (VW.out.below hb)
 replace VA := tuck (VA.out.below hb)
 replace VB := tuck (VB.out.below hb)
 replace HB := tuck (bAfter HB.out hb)
 clear hb HNVY
 generalize u6.alloc (.cells #[.int .i64 X.kind, .int .i64 X.num, .slice aVY X.kids.length cVY] 25) = U6 at *
 generalize u6.heap.size = gVY at *
 refine (HRX.out _ _ VX.out.tm).mono ?_
 rintro e u7 ⟨rfl, hb⟩
 replace V := tuck (V.out.below hb)
 replace VX := tuck (VX.out.below hb)
 replace VW := tuck (VW.out.below hb)
 replace VA := tuck (VA.out.below hb)
 replace VB := tuck (VB.out.below hb)
 replace VY := tuck (VY.out.below hb)
 replace HB := tuck (bAfter HB.out hb)
 clear hb
 obtain ⟨zV, c0V, c1V, c2V, cfV⟩ := V.out.facts
 obtain ⟨zVX, c0VX, c1VX, c2VX, cfVX⟩ := VX.out.facts
 obtain ⟨zVW, c0VW, c1VW, c2VW, cfVW⟩ := VW.out.facts
 obtain ⟨zVA, c0VA, c1VA, c2VA, cfVA⟩ := VA.out.facts
 obtain ⟨zVB, c0VB, c1VB, c2VB, cfVB⟩ := VB.out.facts
 obtain ⟨zVY, c0VY, c1VY, c2VY, cfVY⟩ := VY.out.facts
 go_wp2_with fail
 refine (HTS.out _ _ _ VY.out.tm VX.out.tm).mono ?_
 rintro e u8 ⟨rfl, hb⟩
 clear zV c0V c1V c2V cfV zVX c0VX c1VX c2VX cfVX zVW c0VW c1VW c2VW cfVW zVA c0VA c1VA c2VA cfVA zVB c0VB c1VB c2VB cfVB zVY c0VY c1VY c2VY cfVY
 replace V := tuck (V.out.below hb)
 replace VX := tuck (VX.out.below hb)
 replace VW := tuck (VW.out.below hb)
 replace VA := tuck (VA.out.below hb)
 replace VB := tuck (VB.out.below hb)
 replace VY := tuck (VY.out.below hb)
 replace HB := tuck (bAfter HB.out hb)
 clear hb
 by_cases hnc1 : c1 ≠ 0
 ·skip
  have kc1 : (c1 != 0) = true := by rw [bne_iff_ne]; exact hnc1
  obtain ⟨zV, c0V, c1V, c2V, cfV⟩ := V.out.facts
  obtain ⟨zVX, c0VX, c1VX, c2VX, cfVX⟩ := VX.out.facts
  obtain ⟨zVW, c0VW, c1VW, c2VW, cfVW⟩ := VW.out.facts
  obtain ⟨zVA, c0VA, c1VA, c2VA, cfVA⟩ := VA.out.facts
  obtain ⟨zVB, c0VB, c1VB, c2VB, cfVB⟩ := VB.out.facts
  obtain ⟨zVY, c0VY, c1VY, c2VY, cfVY⟩ := VY.out.facts
  go_wp2_with fail
  go_ret
  exact ⟨rfl, HB.out⟩
 obtain rfl : c1 = 0 := Classical.byContradiction hnc1
 by_cases hnc2 : c2 ≠ 0
 ·skip
  have kc2 : (c2 != 0) = true := by rw [bne_iff_ne]; exact hnc2
  obtain ⟨zV, c0V, c1V, c2V, cfV⟩ := V.out.facts
  obtain ⟨zVX, c0VX, c1VX, c2VX, cfVX⟩ := VX.out.facts
  obtain ⟨zVW, c0VW, c1VW, c2VW, cfVW⟩ := VW.out.facts
  obtain ⟨zVA, c0VA, c1VA, c2VA, cfVA⟩ := VA.out.facts
  obtain ⟨zVB, c0VB, c1VB, c2VB, cfVB⟩ := VB.out.facts
  obtain ⟨zVY, c0VY, c1VY, c2VY, cfVY⟩ := VY.out.facts
  go_wp2_with fail
  go_ret
  exact ⟨rfl, HB.out⟩
 obtain rfl : c2 = 0 := Classical.byContradiction hnc2
 obtain ⟨-, he⟩ := HEQ.out rfl rfl
 have HT11 := tuck (HT1.out rfl)
 subst he
 clear HEQ HT1 hnc1 hnc2
 obtain ⟨zV, c0V, c1V, c2V, cfV⟩ := V.out.facts
 obtain ⟨zVX, c0VX, c1VX, c2VX, cfVX⟩ := VX.out.facts
 obtain ⟨zVW, c0VW, c1VW, c2VW, cfVW⟩ := VW.out.facts
 obtain ⟨zVA, c0VA, c1VA, c2VA, cfVA⟩ := VA.out.facts
 obtain ⟨zVB, c0VB, c1VB, c2VB, cfVB⟩ := VB.out.facts
 obtain ⟨zVY, c0VY, c1VY, c2VY, cfVY⟩ := VY.out.facts
 go_wp2_with fail
 refine (HT11.out _ _ _ VA.out.tm VB.out.tm).mono ?_
 rintro e u9 ⟨rfl, hb⟩
 clear zV c0V c1V c2V cfV zVX c0VX c1VX c2VX cfVX zVW c0VW c1VW c2VW cfVW zVA c0VA c1VA c2VA cfVA zVB c0VB c1VB c2VB cfVB zVY c0VY c1VY c2VY cfVY
 replace V := tuck (V.out.below hb)
 replace VX := tuck (VX.out.below hb)
 replace VW := tuck (VW.out.below hb)
 replace VA := tuck (VA.out.below hb)
 replace VB := tuck (VB.out.below hb)
 replace VY := tuck (VY.out.below hb)
 replace HB := tuck (bAfter HB.out hb)
 clear hb
 obtain ⟨zV, c0V, c1V, c2V, cfV⟩ := V.out.facts
 obtain ⟨zVX, c0VX, c1VX, c2VX, cfVX⟩ := VX.out.facts
 obtain ⟨zVW, c0VW, c1VW, c2VW, cfVW⟩ := VW.out.facts
 obtain ⟨zVA, c0VA, c1VA, c2VA, cfVA⟩ := VA.out.facts
 obtain ⟨zVB, c0VB, c1VB, c2VB, cfVB⟩ := VB.out.facts
 obtain ⟨zVY, c0VY, c1VY, c2VY, cfVY⟩ := VY.out.facts
 go_wp2_with fail
 go_ret
 exact ⟨rfl, HB.out⟩
set_option maxRecDepth 100000 in
theorem lifted (os : Os) (started : os.Started) (H : Type) (enc : TypeId × Value → H) :
  ReturnsInHanded {} Tryz.checked os 9 .any (Rows.fnHeadNormalSpec.pre6 enc Tryz.prog Tryz.f9 Rows.fnHeadNormalRow.domain false) (Rows.fnHeadNormalSpec.post enc Tryz.prog Tryz.f9 false true false false) := by
 refine returnsInHanded_of_change (C := Tryz.checked) own started (by kernel_rfl) Tryz.func9
  (ChangeSpec.witness6 (enc := enc) (C := Tryz.checked) false ⟨#[], #[.slice none 0 0], []⟩ 8 (by kernel_rfl) (by kernel_rfl) (by kernel_rfl) (by kernel_rfl)) ?_
 intro W base args ds gs before hval0 hW hcnd _
 have hval : ∀ (j : Nat) t v, Tryz.f9.params[j]? = some t → args[j]? = some v → Value.okWide Tryz.prog W .any base t v := hval0
 have hW' := hW
 obtain ⟨p, q, hA0, hV, rfl, hfz, hnd⟩ := hW
 have hA : DataW.TrodAll enc Tryz.prog W 0 (fun _ => true) true Tryz.f9.params.toList args.toList ds p := hA0
 rw [Tryz.params9] at hA hval
 obtain ⟨v0, vs0, d0, ds0, p0, q0, hargs, rfl, rfl, h0, r0⟩ := trodAll_cons hA
 obtain ⟨rfl, rfl, rfl⟩ := trodAll_nil r0
 obtain rfl : args = #[v0] := by cases args; simp_all
 obtain ⟨U0, ad0, bb0, oo0, len0, cap0, rfl, hlc0, hcm0, hbl0, hby0⟩ := open_bytes (hval 0 22 v0 rfl rfl) h0
 refine (walk U0 ad0 bb0 oo0 len0 cap0 W hlc0 hcm0 hby0).mono fun e W' ⟨he, hb⟩ => ?_
 subst he
 exact ⟨_, rfl, law_post rfl rfl (fun gs h => by subst h; rfl) (by rw [Tryz.params9]; exact readable_FnHeadNormal) laid hW' hb⟩
theorem over : Rows.fnHeadNormalRow.holds Tryz.pinned (OpenSpec.ofChange Rows.fnHeadNormalSpec) :=
 OpenClaim.holds_of_wide 9 Tryz.f9 rfl rfl rfl rfl rfl rfl rfl ⟨rfl, rfl, rfl, rfl, rfl⟩ rfl rfl rfl rfl rfl (by kernel_rfl) Tryz.func9 (by kernel_rfl)
  (of_decide_eq_true (by kernel_rfl)) (by unfold Func.isWrapper; first | (rw [if_pos (by decide +kernel)]; kernel_rfl) | (rw [if_neg (by decide +kernel)]; exact ⟨rfl, rfl⟩))
  (fun os started H enc _ => lifted os started H enc)
theorem proved : Rows.FnHeadNormalSaid :=
 over
end Go.Proofs.YtabbbnddfcbdiaaGreat.fnHeadNormal
