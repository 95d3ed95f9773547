/-
  The law FnConfluence: whatever the bytes, both orders of reduction lead to the same normal term.
-/
import Derived.Test.YtabbbnddfcbdiaaGreatC31
import Derived.IntWalk
namespace Go.Proofs.YtabbbnddfcbdiaaGreat.fnConfluence
open Go.ChangeShapes Go.WideShapes Go.ChangeAt Go.RowKit Go.Deep
set_option linter.unusedVariables false
theorem readable_FnConfluence : ∀ t ∈ (#[22] : Array TypeId).toList, Tryz.prog.readableRec t = true ∧ t < Tryz.prog.types.size := by
 intro t ht
 simp at ht
 subst ht
 exact ⟨by kernel_rfl, of_decide_eq_true (by kernel_rfl)⟩
theorem laid : laidOutB Tryz.prog = true := by kernel_rfl
set_option maxRecDepth 100000 in
set_option maxHeartbeats 1600000 in
theorem walk (U : Nat → Int) (a : Option Addr) (b o len cap : Nat) (w : World) (hlc : len ≤ cap) (hcm : cap ≤ maxLen) (hby : Bytes U a b o len w) : Calls Tryz.prog 3 #[.slice a len cap] w fun e w' => e = .returned (.bool true) ∧ Below w.heap.size w w' := by
 unfold maxLen at hcm
 by_cases hl : 1048576 < len
 ·have hl' : (1048576 : Int) < (len : Int) := by omega
  clear hby
  go_enter Tryz.func3, Tryz.ntmps3
  go_wp2
  go_ret
  exact ⟨rfl, Below.refl _ _⟩
 have hl' : ¬ (1048576 : Int) < (len : Int) := by omega
 have HD := tuck (dNormalize_any w (by omega) hlc hby)
 clear hby
 go_enter Tryz.func3, Tryz.ntmps3
 go_wp2_with fail
 refine HD.out.mono ?_
 rintro e w1 ⟨T, v, x, rfl, ⟨s, rfl, hin⟩, hsz, hx0, hx1, hb⟩
 obtain ⟨aV, cV, rfl⟩ := hin.form
 have V := tuck (TV.new (hin.mono (Nat.zero_le _)))
 have HB := tuck (bAfter hb (below1 w1 (.cells #[.int .i64 T.kind, .int .i64 T.num, .slice aV T.kids.length cV] 25)))
 have HSZ : Hid (sizes T.kids ≤ 1048576) := tuck (by have := T.size_eq; omega)
 clear hin hb HD hsz
 go_wp2_with fail
 generalize w1.alloc (.cells #[.int .i64 T.kind, .int .i64 T.num, .slice aV T.kids.length cV] 25) = U0 at *
 generalize w1.heap.size = gV at *
 obtain ⟨c1, hc1⟩ : ∃ c, c = normC false false T x := ⟨_, rfl⟩
 obtain ⟨X1, hX1⟩ : ∃ X, X = normT false false T x := ⟨_, rfl⟩
 obtain ⟨c2, hc2⟩ : ∃ c, c = normC true false T x := ⟨_, rfl⟩
 obtain ⟨X2, hX2⟩ : ∃ X, X = normT true false T x := ⟨_, rfl⟩
 have H1 : Hid (∀ (w : World) (v : Value), TmIn w 0 T v → Calls Tryz.prog 16 #[v, .int .i64 x] w (SCodePost w c1 X1)) := fun w v h => by
  have h2 := normI_p T x w v h; rwa [← hc1, ← hX1] at h2
 have H2 : Hid (∀ (w : World) (v : Value), TmIn w 0 T v → Calls Tryz.prog 17 #[v, .int .i64 x] w (SCodePost w c2 X2)) := fun w v h => by
  have h2 := innerI_p T x w v h; rwa [← hc2, ← hX2] at h2
 have H3 : Hid (∀ (w : World) (v : Value), TmIn w 0 T v → Calls Tryz.prog 18 #[v, .int .i64 x] w (SCodePost w c1 X1)) := fun w v h => by
  have h2 := normS_p T HSZ.out x w v h; rwa [← hc1, ← hX1] at h2
 have H4 : Hid (∀ (w : World) (v : Value), TmIn w 0 T v → Calls Tryz.prog 19 #[v, .int .i64 x] w (SCodePost w c2 X2)) := fun w v h => by
  have h2 := innerS_p T HSZ.out x w v h; rwa [← hc2, ← hX2] at h2
 have HT1 : Hid (∀ (w : World) (v1 v2 : Value), TmIn w 0 X1 v1 → TmIn w 0 X1 v2 → Calls Tryz.prog 20 #[v1, v2] w (BoolPost w true)) := by rw [hX1]; exact same_n false false T x
 have HT2 : Hid (∀ (w : World) (v1 v2 : Value), TmIn w 0 X2 v1 → TmIn w 0 X2 v2 → Calls Tryz.prog 20 #[v1, v2] w (BoolPost w true)) := by rw [hX2]; exact same_n true false T x
 have HEQ : Hid (c1 = 0 → c2 = 0 → X1.Valid ∧ X1 = X2) := tuck fun h1 h2 => by
  have y1 : NrmYes false false T x X1 := hX1 ▸ nrm_yes (hc1 ▸ h1)
  have y2 : NrmYes true false T x X2 := hX2 ▸ nrm_yes (hc2 ▸ h2)
  exact ⟨y1.valid, norm_same y1.ok.1.wf (.refl _) (.refl _) y1 y2⟩
 clear hc1 hX1 hc2 hX2
 refine (H1.out _ _ V.out.tm).mono ?_
 rintro e u1 ⟨hb, vv, rfl, ss, rfl, hin⟩
 obtain ⟨aVA, cVA, rfl⟩ := hin.form
 replace V := tuck (V.out.below hb)
 replace HB := tuck (bAfter HB.out hb)
 have HNVA := tuck hin
 clear hb hin
 obtain ⟨zV, c0V, c1V, c2V, cfV⟩ := V.out.facts
 go_wp2_with fail
 clear zV c0V c1V c2V cfV
 have VA := tuck (TV.new HNVA.out)
 have hb := below1 u1 (.cells #[.int .i64 X1.kind, .int .i64 X1.num, .slice aVA X1.kids.length cVA] 25)
 replace V := tuck (V.out.below hb)
 replace HB := tuck (bAfter HB.out hb)
 clear hb HNVA
 generalize u1.alloc (.cells #[.int .i64 X1.kind, .int .i64 X1.num, .slice aVA X1.kids.length cVA] 25) = U1 at *
 generalize u1.heap.size = gVA at *
 refine (H2.out _ _ V.out.tm).mono ?_
 rintro e u2 ⟨hb, vv, rfl, ss, rfl, hin⟩
 obtain ⟨aVB, cVB, rfl⟩ := hin.form
 replace V := tuck (V.out.below hb)
 replace VA := tuck (VA.out.below hb)
 replace HB := tuck (bAfter HB.out hb)
 have HNVB := tuck hin
 clear hb hin
 obtain ⟨zV, c0V, c1V, c2V, cfV⟩ := V.out.facts
 obtain ⟨zVA, c0VA, c1VA, c2VA, cfVA⟩ := VA.out.facts
 go_wp2_with fail
 clear zV c0V c1V c2V cfV zVA c0VA c1VA c2VA cfVA
 have VB := tuck (TV.new HNVB.out)
 have hb := below1 u2 (.cells #[.int .i64 X2.kind, .int .i64 X2.num, .slice aVB X2.kids.length cVB] 25)
 replace V := tuck (V.out.below hb)
 replace VA := tuck (VA.out.below hb)
 replace HB := tuck (bAfter HB.out hb)
 clear hb HNVB
 generalize u2.alloc (.cells #[.int .i64 X2.kind, .int .i64 X2.num, .slice aVB X2.kids.length cVB] 25) = U2 at *
 generalize u2.heap.size = gVB at *
 refine (H3.out _ _ V.out.tm).mono ?_
 rintro e u3 ⟨hb, vv, rfl, ss, rfl, hin⟩
 obtain ⟨aVC, cVC, rfl⟩ := hin.form
 replace V := tuck (V.out.below hb)
 replace VA := tuck (VA.out.below hb)
 replace VB := tuck (VB.out.below hb)
 replace HB := tuck (bAfter HB.out hb)
 have HNVC := tuck hin
 clear hb hin
 obtain ⟨zV, c0V, c1V, c2V, cfV⟩ := V.out.facts
 obtain ⟨zVA, c0VA, c1VA, c2VA, cfVA⟩ := VA.out.facts
 obtain ⟨zVB, c0VB, c1VB, c2VB, cfVB⟩ := VB.out.facts
 go_wp2_with fail
 clear zV c0V c1V c2V cfV zVA c0VA c1VA c2VA cfVA zVB c0VB c1VB c2VB cfVB
 have VC := tuck (TV.new HNVC.out)
 have hb := below1 u3 (.cells #[.int .i64 X1.kind, .int .i64 X1.num, .slice aVC X1.kids.length cVC] 25)
 replace V := tuck (V.out.below hb)
 replace VA := tuck (VA.out.below hb)
 replace VB := tuck (VB.out.below hb)
 replace HB := tuck (bAfter HB.out hb)
 clear hb HNVC
 generalize u3.alloc (.cells #[.int .i64 X1.kind, .int .i64 X1.num, .slice aVC X1.kids.length cVC] 25) = U3 at *
 generalize u3.heap.size = gVC at *
 refine (H4.out _ _ V.out.tm).mono ?_
 rintro e u4 ⟨hb, vv, rfl, ss, rfl, hin⟩
 obtain ⟨aVD, cVD, rfl⟩ := hin.form
 replace V := tuck (V.out.below hb)
 replace VA := tuck (VA.out.below hb)
 replace VB := tuck (VB.out.below hb)
 replace VC := tuck (VC.out.below hb)
 replace HB := tuck (bAfter HB.out hb)
 have HNVD := tuck hin
 clear hb hin
 obtain ⟨zV, c0V, c1V, c2V, cfV⟩ := V.out.facts
 obtain ⟨zVA, c0VA, c1VA, c2VA, cfVA⟩ := VA.out.facts
 obtain ⟨zVB, c0VB, c1VB, c2VB, cfVB⟩ := VB.out.facts
 obtain ⟨zVC, c0VC, c1VC, c2VC, cfVC⟩ := VC.out.facts
 go_wp2_with fail
 clear zV c0V c1V c2V cfV zVA c0VA c1VA c2VA cfVA zVB c0VB c1VB c2VB cfVB zVC c0VC c1VC c2VC cfVC
 have VD := tuck (TV.new HNVD.out)
 have hb := below1 u4 (.cells #[.int .i64 X2.kind, .int .i64 X2.num, .slice aVD X2.kids.length cVD] 25)
 replace V := tuck (V.out.below hb)
 replace VA := tuck (VA.out.below hb)
 replace VB := tuck (VB.out.below hb)
 replace VC := tuck (VC.out.below hb)
 replace HB := tuck (bAfter HB.out hb)
 clear hb HNVD
 generalize u4.alloc (.cells #[.int .i64 X2.kind, .int .i64 X2.num, .slice aVD X2.kids.length cVD] 25) = U4 at *
 generalize u4.heap.size = gVD at *
 refine (HT1.out _ _ _ VA.out.tm VC.out.tm).mono ?_
 rintro e u5 ⟨rfl, hb⟩
 replace V := tuck (V.out.below hb)
 replace VA := tuck (VA.out.below hb)
 replace VB := tuck (VB.out.below hb)
 replace VC := tuck (VC.out.below hb)
 replace VD := tuck (VD.out.below hb)
 replace HB := tuck (bAfter HB.out hb)
 clear hb
 obtain ⟨zV, c0V, c1V, c2V, cfV⟩ := V.out.facts
 obtain ⟨zVA, c0VA, c1VA, c2VA, cfVA⟩ := VA.out.facts
 obtain ⟨zVB, c0VB, c1VB, c2VB, cfVB⟩ := VB.out.facts
 obtain ⟨zVC, c0VC, c1VC, c2VC, cfVC⟩ := VC.out.facts
 obtain ⟨zVD, c0VD, c1VD, c2VD, cfVD⟩ := VD.out.facts
 go_wp2_with fail
 refine (HT2.out _ _ _ VB.out.tm VD.out.tm).mono ?_
 rintro e u6 ⟨rfl, hb⟩
 clear zV c0V c1V c2V cfV zVA c0VA c1VA c2VA cfVA zVB c0VB c1VB c2VB cfVB zVC c0VC c1VC c2VC cfVC zVD c0VD c1VD c2VD cfVD
 replace V := tuck (V.out.below hb)
 replace VA := tuck (VA.out.below hb)
 replace VB := tuck (VB.out.below hb)
 replace VC := tuck (VC.out.below hb)
 replace VD := tuck (VD.out.below hb)
 replace HB := tuck (bAfter HB.out hb)
 clear hb
 by_cases hnc1 : c1 ≠ 0
 ·skip
  have kc1 : (c1 != 0) = true := by rw [bne_iff_ne]; exact hnc1
  obtain ⟨zV, c0V, c1V, c2V, cfV⟩ := V.out.facts
  obtain ⟨zVA, c0VA, c1VA, c2VA, cfVA⟩ := VA.out.facts
  obtain ⟨zVB, c0VB, c1VB, c2VB, cfVB⟩ := VB.out.facts
  obtain ⟨zVC, c0VC, c1VC, c2VC, cfVC⟩ := VC.out.facts
  obtain ⟨zVD, c0VD, c1VD, c2VD, cfVD⟩ := VD.out.facts
  go_wp2_with fail
  go_ret
  exact ⟨rfl, HB.out⟩
 obtain rfl : c1 = 0 := Classical.byContradiction hnc1
 by_cases hnc2 : c2 ≠ 0
 ·skip
  have kc2 : (c2 != 0) = true := by rw [bne_iff_ne]; exact hnc2
  obtain ⟨zV, c0V, c1V, c2V, cfV⟩ := V.out.facts
  obtain ⟨zVA, c0VA, c1VA, c2VA, cfVA⟩ := VA.out.facts
  obtain ⟨zVB, c0VB, c1VB, c2VB, cfVB⟩ := VB.out.facts
  obtain ⟨zVC, c0VC, c1VC, c2VC, cfVC⟩ := VC.out.facts
  obtain ⟨zVD, c0VD, c1VD, c2VD, cfVD⟩ := VD.out.facts
  go_wp2_with fail
  go_ret
  exact ⟨rfl, HB.out⟩
 obtain rfl : c2 = 0 := Classical.byContradiction hnc2
 obtain ⟨hv, he⟩ := HEQ.out rfl rfl
 subst he
 clear HEQ hnc1 hnc2
 obtain ⟨zV, c0V, c1V, c2V, cfV⟩ := V.out.facts
 obtain ⟨zVA, c0VA, c1VA, c2VA, cfVA⟩ := VA.out.facts
 obtain ⟨zVB, c0VB, c1VB, c2VB, cfVB⟩ := VB.out.facts
 obtain ⟨zVC, c0VC, c1VC, c2VC, cfVC⟩ := VC.out.facts
 obtain ⟨zVD, c0VD, c1VD, c2VD, cfVD⟩ := VD.out.facts
 go_wp2_with fail
 refine (HT1.out _ _ _ VA.out.tm VB.out.tm).mono ?_
 rintro e u7 ⟨rfl, hb⟩
 clear zV c0V c1V c2V cfV zVA c0VA c1VA c2VA cfVA zVB c0VB c1VB c2VB cfVB zVC c0VC c1VC c2VC cfVC zVD c0VD c1VD c2VD cfVD
 replace V := tuck (V.out.below hb)
 replace VA := tuck (VA.out.below hb)
 replace VB := tuck (VB.out.below hb)
 replace VC := tuck (VC.out.below hb)
 replace VD := tuck (VD.out.below hb)
 replace HB := tuck (bAfter HB.out hb)
 clear hb
 obtain ⟨zV, c0V, c1V, c2V, cfV⟩ := V.out.facts
 obtain ⟨zVA, c0VA, c1VA, c2VA, cfVA⟩ := VA.out.facts
 obtain ⟨zVB, c0VB, c1VB, c2VB, cfVB⟩ := VB.out.facts
 obtain ⟨zVC, c0VC, c1VC, c2VC, cfVC⟩ := VC.out.facts
 obtain ⟨zVD, c0VD, c1VD, c2VD, cfVD⟩ := VD.out.facts
 go_wp2_with fail
 go_ret
 exact ⟨rfl, HB.out⟩
set_option maxRecDepth 100000 in
theorem lifted (os : Os) (started : os.Started) (H : Type) (enc : TypeId × Value → H) :
  ReturnsInHanded {} Tryz.checked os 3 .any (Rows.fnConfluenceSpec.pre6 enc Tryz.prog Tryz.f3 Rows.fnConfluenceRow.domain false) (Rows.fnConfluenceSpec.post enc Tryz.prog Tryz.f3 false true false false) := by
 refine returnsInHanded_of_change (C := Tryz.checked) own started (by kernel_rfl) Tryz.func3
  (ChangeSpec.witness6 (enc := enc) (C := Tryz.checked) false ⟨#[], #[.slice none 0 0], []⟩ 8 (by kernel_rfl) (by kernel_rfl) (by kernel_rfl) (by kernel_rfl)) ?_
 intro W base args ds gs before hval0 hW hcnd _
 have hval : ∀ (j : Nat) t v, Tryz.f3.params[j]? = some t → args[j]? = some v → Value.okWide Tryz.prog W .any base t v := hval0
 have hW' := hW
 obtain ⟨p, q, hA0, hV, rfl, hfz, hnd⟩ := hW
 have hA : DataW.TrodAll enc Tryz.prog W 0 (fun _ => true) true Tryz.f3.params.toList args.toList ds p := hA0
 rw [Tryz.params3] at hA hval
 obtain ⟨v0, vs0, d0, ds0, p0, q0, hargs, rfl, rfl, h0, r0⟩ := trodAll_cons hA
 obtain ⟨rfl, rfl, rfl⟩ := trodAll_nil r0
 obtain rfl : args = #[v0] := by cases args; simp_all
 obtain ⟨U0, ad0, bb0, oo0, len0, cap0, rfl, hlc0, hcm0, hbl0, hby0⟩ := open_bytes (hval 0 22 v0 rfl rfl) h0
 refine (walk U0 ad0 bb0 oo0 len0 cap0 W hlc0 hcm0 hby0).mono fun e W' ⟨he, hb⟩ => ?_
 subst he
 exact ⟨_, rfl, law_post rfl rfl (fun gs h => by subst h; rfl) (by rw [Tryz.params3]; exact readable_FnConfluence) laid hW' hb⟩
theorem over : Rows.fnConfluenceRow.holds Tryz.pinned (OpenSpec.ofChange Rows.fnConfluenceSpec) :=
 OpenClaim.holds_of_wide 3 Tryz.f3 rfl rfl rfl rfl rfl rfl rfl ⟨rfl, rfl, rfl, rfl, rfl⟩ rfl rfl rfl rfl rfl (by kernel_rfl) Tryz.func3 (by kernel_rfl)
  (of_decide_eq_true (by kernel_rfl)) (by unfold Func.isWrapper; first | (rw [if_pos (by decide +kernel)]; kernel_rfl) | (rw [if_neg (by decide +kernel)]; exact ⟨rfl, rfl⟩))
  (fun os started H enc _ => lifted os started H enc)
theorem proved : Rows.FnConfluenceSaid :=
 over
end Go.Proofs.YtabbbnddfcbdiaaGreat.fnConfluence
