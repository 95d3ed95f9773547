/-
  The law FnContractTerm: whatever the bytes, a redex is contracted by the step from outside.
-/
import Derived.Test.YtabbbnddfcbdiaaGreatC23
import Derived.Test.YtabbbnddfcbdiaaGreatC29
import Derived.IntWalk
namespace Go.Proofs.YtabbbnddfcbdiaaGreat.fnContractTerm
open Go.ChangeShapes Go.WideShapes Go.ChangeAt Go.RowKit Go.Deep
set_option linter.unusedVariables false
theorem readable_FnContractTerm : ∀ t ∈ (#[22] : Array TypeId).toList, Tryz.prog.readableRec t = true ∧ t < Tryz.prog.types.size := by
 intro t ht
 simp at ht
 subst ht
 exact ⟨by kernel_rfl, of_decide_eq_true (by kernel_rfl)⟩
theorem laid : laidOutB Tryz.prog = true := by kernel_rfl
set_option maxRecDepth 100000 in
set_option maxHeartbeats 1600000 in
theorem walk (U : Nat → Int) (a : Option Addr) (b o len cap : Nat) (w : World) (hlc : len ≤ cap) (hcm : cap ≤ maxLen) (hby : Bytes U a b o len w) : Calls Tryz.prog 7 #[.slice a len cap] w fun e w' => e = .returned (.bool true) ∧ Below w.heap.size w w' := by
 unfold maxLen at hcm
 by_cases hl : 1048576 < len
 ·have hl' : (1048576 : Int) < (len : Int) := by omega
  clear hby
  go_enter Tryz.func7, Tryz.ntmps7
  go_wp2
  go_ret
  exact ⟨rfl, Below.refl _ _⟩
 have hl' : ¬ (1048576 : Int) < (len : Int) := by omega
 have HD := tuck (dContractTerm_any w (by omega) hlc hby)
 clear hby
 go_enter Tryz.func7, Tryz.ntmps7
 go_wp2_with fail
 refine HD.out.mono ?_
 rintro e w1 ⟨T, v, rfl, ⟨s, rfl, hin⟩, hsz, hb⟩
 obtain ⟨aV, cV, rfl⟩ := hin.form
 have V := tuck (TV.new (hin.mono (Nat.zero_le _)))
 have HB := tuck (bAfter hb (below1 w1 (.cells #[.int .i64 T.kind, .int .i64 T.num, .slice aV T.kids.length cV] 25)))
 have HSZ : Hid (sizes T.kids ≤ 1048576) := tuck (by have := T.size_eq; omega)
 clear hin hb HD hsz
 go_wp2_with fail
 generalize w1.alloc (.cells #[.int .i64 T.kind, .int .i64 T.num, .slice aV T.kids.length cV] 25) = U0 at *
 generalize w1.heap.size = gV at *
 by_cases hP : ContrOk T
 rotate_left
 ·obtain ⟨X, hX⟩ : ∃ X, X = zeroT := ⟨_, rfl⟩
  have HIM : Hid (∀ (w : World) (v : Value), TmIn w 0 T v → Calls Tryz.prog 30 #[v] w (PairPost w X false)) := fun w v h => by
   have h2 := (contractI_any T w v h).mono fun _ _ h => h.pair; rwa [orZero_no hP, tr_not hP, ← hX] at h2
  have HSP : Hid (∀ (w : World) (v : Value), TmIn w 0 T v → Calls Tryz.prog 31 #[v] w (PairPost w X false)) := fun w v h => by
   have h2 := (contractS_any T w v h).mono fun _ _ h => h.pair; rwa [orZero_no hP, tr_not hP, ← hX] at h2
  have HTS : Hid (∀ (w : World) (v1 v2 : Value), TmIn w 0 X v1 → TmIn w 0 X v2 → Calls Tryz.prog 20 #[v1, v2] w (BoolPost w true)) := fun w v1 v2 h1 h2 => by rw [hX] at h1 h2; exact same_z w v1 v2 h1 h2
  clear hX hP
  refine (HIM.out _ _ V.out.tm).mono ?_
  rintro e u21 ⟨hb, vv, rfl, ss, rfl, hin⟩
  obtain ⟨aVX, cVX, rfl⟩ := hin.form
  replace V := tuck (V.out.below hb)
  replace HB := tuck (bAfter HB.out hb)
  have HNVX := tuck hin
  clear hb hin
  obtain ⟨zV, c0V, c1V, c2V, cfV⟩ := V.out.facts
  go_wp2_with fail
  clear zV c0V c1V c2V cfV
  have VX := tuck (TV.new HNVX.out)
  have hb := below1 u21 (.cells #[.int .i64 X.kind, .int .i64 X.num, .slice aVX X.kids.length cVX] 25)
  replace V := tuck (V.out.below hb)
  replace HB := tuck (bAfter HB.out hb)
  clear hb HNVX
  generalize u21.alloc (.cells #[.int .i64 X.kind, .int .i64 X.num, .slice aVX X.kids.length cVX] 25) = U21 at *
  generalize u21.heap.size = gVX at *
  refine (HSP.out _ _ V.out.tm).mono ?_
  rintro e u22 ⟨hb, vv, rfl, ss, rfl, hin⟩
  obtain ⟨aVW, cVW, rfl⟩ := hin.form
  replace V := tuck (V.out.below hb)
  replace VX := tuck (VX.out.below hb)
  replace HB := tuck (bAfter HB.out hb)
  have HNVW := tuck hin
  clear hb hin
  obtain ⟨zV, c0V, c1V, c2V, cfV⟩ := V.out.facts
  obtain ⟨zVX, c0VX, c1VX, c2VX, cfVX⟩ := VX.out.facts
  go_wp2_with fail
  clear zV c0V c1V c2V cfV zVX c0VX c1VX c2VX cfVX
  have VW := tuck (TV.new HNVW.out)
  have hb := below1 u22 (.cells #[.int .i64 X.kind, .int .i64 X.num, .slice aVW X.kids.length cVW] 25)
  replace V := tuck (V.out.below hb)
  replace VX := tuck (VX.out.below hb)
  replace HB := tuck (bAfter HB.out hb)
  clear hb HNVW
  generalize u22.alloc (.cells #[.int .i64 X.kind, .int .i64 X.num, .slice aVW X.kids.length cVW] 25) = U22 at *
  generalize u22.heap.size = gVW at *
  refine (HTS.out _ _ _ VX.out.tm VW.out.tm).mono ?_
  rintro e u23 ⟨rfl, hb⟩
  replace V := tuck (V.out.below hb)
  replace VX := tuck (VX.out.below hb)
  replace VW := tuck (VW.out.below hb)
  replace HB := tuck (bAfter HB.out hb)
  clear hb
  obtain ⟨zV, c0V, c1V, c2V, cfV⟩ := V.out.facts
  obtain ⟨zVX, c0VX, c1VX, c2VX, cfVX⟩ := VX.out.facts
  obtain ⟨zVW, c0VW, c1VW, c2VW, cfVW⟩ := VW.out.facts
  go_wp2_with fail
  refine (HTS.out _ _ _ VX.out.tm VW.out.tm).mono ?_
  rintro e u24 ⟨rfl, hb⟩
  clear zV c0V c1V c2V cfV zVX c0VX c1VX c2VX cfVX zVW c0VW c1VW c2VW cfVW
  replace V := tuck (V.out.below hb)
  replace VX := tuck (VX.out.below hb)
  replace VW := tuck (VW.out.below hb)
  replace HB := tuck (bAfter HB.out hb)
  clear hb
  obtain ⟨zV, c0V, c1V, c2V, cfV⟩ := V.out.facts
  obtain ⟨zVX, c0VX, c1VX, c2VX, cfVX⟩ := VX.out.facts
  obtain ⟨zVW, c0VW, c1VW, c2VW, cfVW⟩ := VW.out.facts
  go_wp2_with fail
  go_ret
  exact ⟨rfl, HB.out⟩
 obtain ⟨X, hX⟩ : ∃ X, X = T.contr := ⟨_, rfl⟩
 have HIM : Hid (∀ (w : World) (v : Value), TmIn w 0 T v → Calls Tryz.prog 30 #[v] w (PairPost w X true)) := fun w v h => by
  have h2 := (contractI_any T w v h).mono fun _ _ h => h.pair; rwa [orZero_yes hP, tr_of hP, ← hX] at h2
 have HSP : Hid (∀ (w : World) (v : Value), TmIn w 0 T v → Calls Tryz.prog 31 #[v] w (PairPost w X true)) := fun w v h => by
  have h2 := (contractS_any T w v h).mono fun _ _ h => h.pair; rwa [orZero_yes hP, tr_of hP, ← hX] at h2
 have HTS : Hid (∀ (w : World) (v1 v2 : Value), TmIn w 0 X v1 → TmIn w 0 X v2 → Calls Tryz.prog 20 #[v1, v2] w (BoolPost w true)) := same_v (hX ▸ hP.2.2)
 have HST : Hid (∀ (w : World) (v : Value), TmIn w 0 T v → Calls Tryz.prog 21 #[v] w (SCodePost w 1 X)) := fun w v h => by
  have h2 := stepI_p T w v h; have hs : T.step false false = some X := by rw [hX]; cases T with | mk k n l => rw [Tm.step, if_pos ⟨hP.2.1, rfl⟩]
  rwa [stepOut_took hP.1 hs (hX ▸ hP.2.2)] at h2
 obtain ⟨r, hr⟩ : ∃ r, r = T.redex := ⟨_, rfl⟩
 have kr : (r != 0) = true := by rw [hr, bne_iff_ne]; exact hP.2.1
 have HRX : Hid (∀ (w : World) (v : Value), TmIn w 0 T v → Calls Tryz.prog 32 #[v] w (IntPost w r)) := fun w v h => by
  have h2 := redexOfI_any T w v h; rwa [show redexOf T = r by rw [hr]; exact if_pos hP.1] at h2
 clear hX hP hr
 refine (HIM.out _ _ V.out.tm).mono ?_
 rintro e u1 ⟨hb, vv, rfl, ss, rfl, hin⟩
 obtain ⟨aVX, cVX, rfl⟩ := hin.form
 replace V := tuck (V.out.below hb)
 replace HB := tuck (bAfter HB.out hb)
 have HNVX := tuck hin
 clear hb hin
 obtain ⟨zV, c0V, c1V, c2V, cfV⟩ := V.out.facts
 go_wp2_with fail
 clear zV c0V c1V c2V cfV
 have VX := tuck (TV.new HNVX.out)
 have hb := below1 u1 (.cells #[.int .i64 X.kind, .int .i64 X.num, .slice aVX X.kids.length cVX] 25)
 replace V := tuck (V.out.below hb)
 replace HB := tuck (bAfter HB.out hb)
 clear hb HNVX
 generalize u1.alloc (.cells #[.int .i64 X.kind, .int .i64 X.num, .slice aVX X.kids.length cVX] 25) = U1 at *
 generalize u1.heap.size = gVX at *
 refine (HSP.out _ _ V.out.tm).mono ?_
 rintro e u2 ⟨hb, vv, rfl, ss, rfl, hin⟩
 obtain ⟨aVW, cVW, rfl⟩ := hin.form
 replace V := tuck (V.out.below hb)
 replace VX := tuck (VX.out.below hb)
 replace HB := tuck (bAfter HB.out hb)
 have HNVW := tuck hin
 clear hb hin
 obtain ⟨zV, c0V, c1V, c2V, cfV⟩ := V.out.facts
 obtain ⟨zVX, c0VX, c1VX, c2VX, cfVX⟩ := VX.out.facts
 go_wp2_with fail
 clear zV c0V c1V c2V cfV zVX c0VX c1VX c2VX cfVX
 have VW := tuck (TV.new HNVW.out)
 have hb := below1 u2 (.cells #[.int .i64 X.kind, .int .i64 X.num, .slice aVW X.kids.length cVW] 25)
 replace V := tuck (V.out.below hb)
 replace VX := tuck (VX.out.below hb)
 replace HB := tuck (bAfter HB.out hb)
 clear hb HNVW
 generalize u2.alloc (.cells #[.int .i64 X.kind, .int .i64 X.num, .slice aVW X.kids.length cVW] 25) = U2 at *
 generalize u2.heap.size = gVW at *
 refine (HTS.out _ _ _ VX.out.tm VW.out.tm).mono ?_
 rintro e u3 ⟨rfl, hb⟩
 replace V := tuck (V.out.below hb)
 replace VX := tuck (VX.out.below hb)
 replace VW := tuck (VW.out.below hb)
 replace HB := tuck (bAfter HB.out hb)
 clear hb
 obtain ⟨zV, c0V, c1V, c2V, cfV⟩ := V.out.facts
 obtain ⟨zVX, c0VX, c1VX, c2VX, cfVX⟩ := VX.out.facts
 obtain ⟨zVW, c0VW, c1VW, c2VW, cfVW⟩ := VW.out.facts
 go_wp2_with fail
 refine (HST.out _ _ V.out.tm).mono ?_
 rintro e u4 ⟨hb, vv, rfl, ss, rfl, hin⟩
 obtain ⟨aVY, cVY, rfl⟩ := hin.form
 clear zV c0V c1V c2V cfV zVX c0VX c1VX c2VX cfVX zVW c0VW c1VW c2VW cfVW
 replace V := tuck (V.out.below hb)
 replace VX := tuck (VX.out.below hb)
 replace VW := tuck (VW.out.below hb)
 replace HB := tuck (bAfter HB.out hb)
 have HNVY := tuck hin
 clear hb hin
 obtain ⟨zV, c0V, c1V, c2V, cfV⟩ := V.out.facts
 obtain ⟨zVX, c0VX, c1VX, c2VX, cfVX⟩ := VX.out.facts
 obtain ⟨zVW, c0VW, c1VW, c2VW, cfVW⟩ := VW.out.facts
 go_wp2_with fail
 clear zV c0V c1V c2V cfV zVX c0VX c1VX c2VX cfVX zVW c0VW c1VW c2VW cfVW
 have VY := tuck (TV.new HNVY.out)
 have hb := below1 u4 (.cells #[.int .i64 X.kind, .int .i64 X.num, .slice aVY X.kids.length cVY] 25)
 replace V := tuck (V.out.below hb)
 replace VX := tuck (VX.out.below hb)
 replace VW := tuck (VW.out.below hb)
 replace HB := tuck (bAfter HB.out hb)
 clear hb HNVY
 generalize u4.alloc (.cells #[.int .i64 X.kind, .int .i64 X.num, .slice aVY X.kids.length cVY] 25) = U4 at *
 generalize u4.heap.size = gVY at *
 refine (HRX.out _ _ V.out.tm).mono ?_
 rintro e u5 ⟨rfl, hb⟩
 replace V := tuck (V.out.below hb)
 replace VX := tuck (VX.out.below hb)
 replace VW := tuck (VW.out.below hb)
 replace VY := tuck (VY.out.below hb)
 replace HB := tuck (bAfter HB.out hb)
 clear hb
 obtain ⟨zV, c0V, c1V, c2V, cfV⟩ := V.out.facts
 obtain ⟨zVX, c0VX, c1VX, c2VX, cfVX⟩ := VX.out.facts
 obtain ⟨zVW, c0VW, c1VW, c2VW, cfVW⟩ := VW.out.facts
 obtain ⟨zVY, c0VY, c1VY, c2VY, cfVY⟩ := VY.out.facts
 go_wp2_with fail
 refine (HTS.out _ _ _ VX.out.tm VY.out.tm).mono ?_
 rintro e u6 ⟨rfl, hb⟩
 clear zV c0V c1V c2V cfV zVX c0VX c1VX c2VX cfVX zVW c0VW c1VW c2VW cfVW zVY c0VY c1VY c2VY cfVY
 replace V := tuck (V.out.below hb)
 replace VX := tuck (VX.out.below hb)
 replace VW := tuck (VW.out.below hb)
 replace VY := tuck (VY.out.below hb)
 replace HB := tuck (bAfter HB.out hb)
 clear hb
 obtain ⟨zV, c0V, c1V, c2V, cfV⟩ := V.out.facts
 obtain ⟨zVX, c0VX, c1VX, c2VX, cfVX⟩ := VX.out.facts
 obtain ⟨zVW, c0VW, c1VW, c2VW, cfVW⟩ := VW.out.facts
 obtain ⟨zVY, c0VY, c1VY, c2VY, cfVY⟩ := VY.out.facts
 go_wp2_with fail
 go_ret
 exact ⟨rfl, HB.out⟩
set_option maxRecDepth 100000 in
theorem lifted (os : Os) (started : os.Started) (H : Type) (enc : TypeId × Value → H) :
  ReturnsInHanded {} Tryz.checked os 7 .any (Rows.fnContractTermSpec.pre6 enc Tryz.prog Tryz.f7 Rows.fnContractTermRow.domain false) (Rows.fnContractTermSpec.post enc Tryz.prog Tryz.f7 false true false false) := by
 refine returnsInHanded_of_change (C := Tryz.checked) own started (by kernel_rfl) Tryz.func7
  (ChangeSpec.witness6 (enc := enc) (C := Tryz.checked) false ⟨#[], #[.slice none 0 0], []⟩ 8 (by kernel_rfl) (by kernel_rfl) (by kernel_rfl) (by kernel_rfl)) ?_
 intro W base args ds gs before hval0 hW hcnd _
 have hval : ∀ (j : Nat) t v, Tryz.f7.params[j]? = some t → args[j]? = some v → Value.okWide Tryz.prog W .any base t v := hval0
 have hW' := hW
 obtain ⟨p, q, hA0, hV, rfl, hfz, hnd⟩ := hW
 have hA : DataW.TrodAll enc Tryz.prog W 0 (fun _ => true) true Tryz.f7.params.toList args.toList ds p := hA0
 rw [Tryz.params7] at hA hval
 obtain ⟨v0, vs0, d0, ds0, p0, q0, hargs, rfl, rfl, h0, r0⟩ := trodAll_cons hA
 obtain ⟨rfl, rfl, rfl⟩ := trodAll_nil r0
 obtain rfl : args = #[v0] := by cases args; simp_all
 obtain ⟨U0, ad0, bb0, oo0, len0, cap0, rfl, hlc0, hcm0, hbl0, hby0⟩ := open_bytes (hval 0 22 v0 rfl rfl) h0
 refine (walk U0 ad0 bb0 oo0 len0 cap0 W hlc0 hcm0 hby0).mono fun e W' ⟨he, hb⟩ => ?_
 subst he
 exact ⟨_, rfl, law_post rfl rfl (fun gs h => by subst h; rfl) (by rw [Tryz.params7]; exact readable_FnContractTerm) laid hW' hb⟩
theorem over : Rows.fnContractTermRow.holds Tryz.pinned (OpenSpec.ofChange Rows.fnContractTermSpec) :=
 OpenClaim.holds_of_wide 7 Tryz.f7 rfl rfl rfl rfl rfl rfl rfl ⟨rfl, rfl, rfl, rfl, rfl⟩ rfl rfl rfl rfl rfl (by kernel_rfl) Tryz.func7 (by kernel_rfl)
  (of_decide_eq_true (by kernel_rfl)) (by unfold Func.isWrapper; first | (rw [if_pos (by decide +kernel)]; kernel_rfl) | (rw [if_neg (by decide +kernel)]; exact ⟨rfl, rfl⟩))
  (fun os started H enc _ => lifted os started H enc)
theorem proved : Rows.FnContractTermSaid :=
 over
end Go.Proofs.YtabbbnddfcbdiaaGreat.fnContractTerm
