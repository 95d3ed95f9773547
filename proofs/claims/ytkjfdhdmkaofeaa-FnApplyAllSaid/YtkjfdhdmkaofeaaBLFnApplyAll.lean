/-
  The law FnApplyAll: whatever the bytes, an application is split into the function and the arguments.
-/
import Derived.Test.YtkjfdhdmkaofeaaB45
import Derived.Test.YtkjfdhdmkaofeaaB54
import Derived.Test.YtkjfdhdmkaofeaaB56
import Derived.IntWalk
namespace Go.Proofs.Ytkjfdhdmkaofeaa.fnApplyAll
open Go.ChangeShapes Go.WideShapes Go.ChangeAt Go.RowKit Go.Deep
set_option linter.unusedVariables false
theorem readable_FnApplyAll : ∀ t ∈ (#[22] : Array TypeId).toList, Try.prog.readableRec t = true ∧ t < Try.prog.types.size := by
 intro t ht
 simp at ht
 subst ht
 exact ⟨by kernel_rfl, of_decide_eq_true (by kernel_rfl)⟩
theorem laid : laidOutB Try.prog = true := by kernel_rfl
set_option maxRecDepth 100000 in
set_option maxHeartbeats 4000000 in
theorem walk (U : Nat → Int) (a : Option Addr) (b o len cap : Nat) (w : World) (hlc : len ≤ cap) (hcm : cap ≤ maxLen) (hby : Bytes U a b o len w) : Calls Try.prog 3 #[.slice a len cap] w fun e w' => e = .returned (.bool true) ∧ Below w.heap.size w w' := by
 unfold maxLen at hcm
 by_cases hl : 1048576 < len
 ·have hl' : (1048576 : Int) < (len : Int) := by omega
  clear hby
  go_enter Try.func3, Try.ntmps3
  go_wp2
  go_ret
  exact ⟨rfl, Below.refl _ _⟩
 have hl' : ¬ (1048576 : Int) < (len : Int) := by omega
 have HD := tuck (dApplyAll_any w (by omega) hlc hby)
 clear hby
 go_enter Try.func3, Try.ntmps3
 go_wp2_with fail
 refine HD.out.mono ?_
 rintro e w1 ⟨T, L, v, q, cq, rfl, ⟨s, rfl, hin⟩, hsl, hl9, hcq, hsz, hb⟩
 generalize hn : L.length = n at *
 obtain ⟨aV, cV, rfl⟩ := hin.form
 have V := tuck (TV.new (hin.mono (Nat.zero_le _)))
 have hbx := below1 w1 (.cells #[.int .i64 T.kind, .int .i64 T.num, .slice aV T.kids.length cV] 25)
 have HB := tuck (bAfter hb hbx)
 have SL := tuck ((hsl.mono (Nat.zero_le _)).below hbx)
 have HN := tuck hn
 clear hin hb hbx HD hsz hsl hn
 go_wp2_with fail
 generalize w1.alloc (.cells #[.int .i64 T.kind, .int .i64 T.num, .slice aV T.kids.length cV] 25) = U0 at *
 generalize w1.heap.size = gV at *
 by_cases hP : AppsOk 5 L T
 rotate_left
 ·skip
  obtain ⟨X, hX⟩ : ∃ X, X = zeroT := ⟨_, rfl⟩
  have HIM : Hid (∀ (w : World) (v tv : Value), SlIn w 0 L v → TmIn w 0 T tv → Calls Try.prog 7 #[tv, v] w (PairPost w X false)) := fun w v tv h1 h2 => by
   have h3 := appsI_p w v tv h1 h2; rwa [orZero_no hP, tr_not hP, ← hX] at h3
  have HSP : Hid (∀ (w : World) (v tv : Value), SlIn w 0 L v → TmIn w 0 T tv → Calls Try.prog 8 #[tv, v] w (PairPost w X false)) := fun w v tv h1 h2 => by
   have h3 := appsS_p w v tv h1 h2; rwa [orZero_no hP, tr_not hP, ← hX] at h3
  have HTS : Hid (∀ (w : World) (v1 v2 : Value), TmIn w 0 X v1 → TmIn w 0 X v2 → Calls Try.prog 9 #[v1, v2] w (BoolPost w true)) := fun w v1 v2 h1 h2 => by rw [hX] at h1 h2; exact same_z w v1 v2 h1 h2
  clear hX hP
  refine (HIM.out _ _ _ SL.out V.out.tm).mono ?_
  rintro e u21 ⟨hb, vv, rfl, ss, rfl, hin⟩
  obtain ⟨aVX, cVX, rfl⟩ := hin.form
  replace V := tuck (V.out.below hb)
  replace SL := tuck (SL.out.below hb)
  replace HB := tuck (bAfter HB.out hb)
  have HNVX := tuck hin
  clear hb hin
  obtain ⟨zV, c0V, c1V, c2V, cfV⟩ := V.out.facts
  go_wp2_with fail
  clear zV c0V c1V c2V cfV
  have VX := tuck (TV.new HNVX.out)
  have hb := below1 u21 (.cells #[.int .i64 X.kind, .int .i64 X.num, .slice aVX X.kids.length cVX] 25)
  replace V := tuck (V.out.below hb)
  replace SL := tuck (SL.out.below hb)
  replace HB := tuck (bAfter HB.out hb)
  clear hb HNVX
  generalize u21.alloc (.cells #[.int .i64 X.kind, .int .i64 X.num, .slice aVX X.kids.length cVX] 25) = U21 at *
  generalize u21.heap.size = gVX at *
  refine (HSP.out _ _ _ SL.out V.out.tm).mono ?_
  rintro e u22 ⟨hb, vv, rfl, ss, rfl, hin⟩
  obtain ⟨aVW, cVW, rfl⟩ := hin.form
  replace V := tuck (V.out.below hb)
  replace VX := tuck (VX.out.below hb)
  replace SL := tuck (SL.out.below hb)
  replace HB := tuck (bAfter HB.out hb)
  have HNVW := tuck hin
  clear hb hin
  obtain ⟨zV, c0V, c1V, c2V, cfV⟩ := V.out.facts
  obtain ⟨zVX, c0VX, c1VX, c2VX, cfVX⟩ := VX.out.facts
  go_wp2_with fail
  clear zV c0V c1V c2V cfV zVX c0VX c1VX c2VX cfVX
  have VW := tuck (TV.new HNVW.out)
  have hb := below1 u22 (.cells #[.int .i64 X.kind, .int .i64 X.num, .slice aVW X.kids.length cVW] 25)
  replace V := tuck (V.out.below hb)
  replace VX := tuck (VX.out.below hb)
  replace SL := tuck (SL.out.below hb)
  replace HB := tuck (bAfter HB.out hb)
  clear hb HNVW
  generalize u22.alloc (.cells #[.int .i64 X.kind, .int .i64 X.num, .slice aVW X.kids.length cVW] 25) = U22 at *
  generalize u22.heap.size = gVW at *
  refine (HTS.out _ _ _ VX.out.tm VW.out.tm).mono ?_
  rintro e u23 ⟨rfl, hb⟩
  replace V := tuck (V.out.below hb)
  replace VX := tuck (VX.out.below hb)
  replace VW := tuck (VW.out.below hb)
  replace SL := tuck (SL.out.below hb)
  replace HB := tuck (bAfter HB.out hb)
  clear hb
  obtain ⟨zV, c0V, c1V, c2V, cfV⟩ := V.out.facts
  obtain ⟨zVX, c0VX, c1VX, c2VX, cfVX⟩ := VX.out.facts
  obtain ⟨zVW, c0VW, c1VW, c2VW, cfVW⟩ := VW.out.facts
  go_wp2_with fail
  refine (HTS.out _ _ _ VX.out.tm VW.out.tm).mono ?_
  rintro e u24 ⟨rfl, hb⟩
  clear zV c0V c1V c2V cfV zVX c0VX c1VX c2VX cfVX zVW c0VW c1VW c2VW cfVW
  replace V := tuck (V.out.below hb)
  replace VX := tuck (VX.out.below hb)
  replace VW := tuck (VW.out.below hb)
  replace SL := tuck (SL.out.below hb)
  replace HB := tuck (bAfter HB.out hb)
  clear hb
  obtain ⟨zV, c0V, c1V, c2V, cfV⟩ := V.out.facts
  obtain ⟨zVX, c0VX, c1VX, c2VX, cfVX⟩ := VX.out.facts
  obtain ⟨zVW, c0VW, c1VW, c2VW, cfVW⟩ := VW.out.facts
  go_wp2_with fail
  go_ret
  exact ⟨rfl, HB.out⟩
 obtain ⟨X, hX⟩ : ∃ X, X = apps 5 L T := ⟨_, rfl⟩
 obtain ⟨G, hG⟩ : ∃ G, G = fnOf T := ⟨_, rfl⟩
 obtain ⟨A, hA⟩ : ∃ A, A = argsOf T := ⟨_, rfl⟩
 have hv := hP.2
 have hTv := (apps_sub hv).1
 have hFN := fn_apps L T hv
 have hAV := app_valid hv
 have hTV := app_valid hTv
 rw [hFN.2, ← hA] at hAV
 rw [← hG, ← hA] at hTV
 rw [← hX, ← hG, ← hA] at hFN
 rw [← hX] at hv
 have HIM : Hid (∀ (w : World) (v tv : Value), SlIn w 0 L v → TmIn w 0 T tv → Calls Try.prog 7 #[tv, v] w (PairPost w X true)) := fun w v tv h1 h2 => by
  have h3 := appsI_p w v tv h1 h2; rwa [orZero_yes hP, tr_of hP, ← hX] at h3
 have HSP : Hid (∀ (w : World) (v tv : Value), SlIn w 0 L v → TmIn w 0 T tv → Calls Try.prog 8 #[tv, v] w (PairPost w X true)) := fun w v tv h1 h2 => by
  have h3 := appsS_p w v tv h1 h2; rwa [orZero_yes hP, tr_of hP, ← hX] at h3
 have HSX : Hid (∀ (w : World) (v : Value), TmIn w 0 X v → Calls Try.prog 10 #[v] w (SplPost w G (A ++ L) true)) := fun w v h1 => by
  have h3 := splitI_p X w v h1; rwa [orZero_yes hv, orNil_yes hv, tr_of hv, hFN.1, hFN.2] at h3
 have HST : Hid (∀ (w : World) (v : Value), TmIn w 0 T v → Calls Try.prog 10 #[v] w (SplPost w G A true)) := fun w v h1 => by
  have h3 := splitI_p T w v h1; rwa [orZero_yes hTv, orNil_yes hTv, tr_of hTv, ← hG, ← hA] at h3
 have HTS : Hid (∀ (w : World) (v1 v2 : Value), TmIn w 0 X v1 → TmIn w 0 X v2 → Calls Try.prog 9 #[v1, v2] w (BoolPost w true)) := same_v hv
 have HTG : Hid (∀ (w : World) (v1 v2 : Value), TmIn w 0 G v1 → TmIn w 0 G v2 → Calls Try.prog 9 #[v1, v2] w (BoolPost w true)) := same_v hTV.2.1
 have HDK : Hid (∀ (w : World) (v1 v2 : Value), SlIn w 0 (A ++ L) v1 → SlIn w 0 (A ++ L) v2 → Calls Try.prog 11 #[v1, v2] w (BoolPost w true)) := fun w v1 v2 h1 h2 => dkTerms_any (A ++ L) hAV.1 w v1 v2 h1 h2
 have HLA : Hid (A.length ≤ 29) := tuck hTV.2.2
 obtain ⟨M, hM⟩ : ∃ M, M = A ++ L := ⟨_, rfl⟩
 have HM := tuck hM
 rw [← hM] at HSX HDK
 clear hX hG hA hv hTv hFN hAV hTV hP hM
 refine (HIM.out _ _ _ SL.out V.out.tm).mono ?_
 rintro e u1 ⟨hb, vv, rfl, ss, rfl, hin⟩
 obtain ⟨aVX, cVX, rfl⟩ := hin.form
 replace V := tuck (V.out.below hb)
 replace SL := tuck (SL.out.below hb)
 replace HB := tuck (bAfter HB.out hb)
 have HNVX := tuck hin
 clear hb hin
 obtain ⟨zV, c0V, c1V, c2V, cfV⟩ := V.out.facts
 go_wp2_with fail
 clear zV c0V c1V c2V cfV
 have VX := tuck (TV.new HNVX.out)
 have hb := below1 u1 (.cells #[.int .i64 X.kind, .int .i64 X.num, .slice aVX X.kids.length cVX] 25)
 replace V := tuck (V.out.below hb)
 replace SL := tuck (SL.out.below hb)
 replace HB := tuck (bAfter HB.out hb)
 clear hb HNVX
 generalize u1.alloc (.cells #[.int .i64 X.kind, .int .i64 X.num, .slice aVX X.kids.length cVX] 25) = U1 at *
 generalize u1.heap.size = gVX at *
 refine (HSP.out _ _ _ SL.out V.out.tm).mono ?_
 rintro e u2 ⟨hb, vv, rfl, ss, rfl, hin⟩
 obtain ⟨aVW, cVW, rfl⟩ := hin.form
 replace V := tuck (V.out.below hb)
 replace VX := tuck (VX.out.below hb)
 replace SL := tuck (SL.out.below hb)
 replace HB := tuck (bAfter HB.out hb)
 have HNVW := tuck hin
 clear hb hin
 obtain ⟨zV, c0V, c1V, c2V, cfV⟩ := V.out.facts
 obtain ⟨zVX, c0VX, c1VX, c2VX, cfVX⟩ := VX.out.facts
 go_wp2_with fail
 clear zV c0V c1V c2V cfV zVX c0VX c1VX c2VX cfVX
 have VW := tuck (TV.new HNVW.out)
 have hb := below1 u2 (.cells #[.int .i64 X.kind, .int .i64 X.num, .slice aVW X.kids.length cVW] 25)
 replace V := tuck (V.out.below hb)
 replace VX := tuck (VX.out.below hb)
 replace SL := tuck (SL.out.below hb)
 replace HB := tuck (bAfter HB.out hb)
 clear hb HNVW
 generalize u2.alloc (.cells #[.int .i64 X.kind, .int .i64 X.num, .slice aVW X.kids.length cVW] 25) = U2 at *
 generalize u2.heap.size = gVW at *
 refine (HTS.out _ _ _ VX.out.tm VW.out.tm).mono ?_
 rintro e u3 ⟨rfl, hb⟩
 replace V := tuck (V.out.below hb)
 replace VX := tuck (VX.out.below hb)
 replace VW := tuck (VW.out.below hb)
 replace SL := tuck (SL.out.below hb)
 replace HB := tuck (bAfter HB.out hb)
 clear hb
 obtain ⟨zV, c0V, c1V, c2V, cfV⟩ := V.out.facts
 obtain ⟨zVX, c0VX, c1VX, c2VX, cfVX⟩ := VX.out.facts
 obtain ⟨zVW, c0VW, c1VW, c2VW, cfVW⟩ := VW.out.facts
 go_wp2_with fail
 refine (HSX.out _ _ VX.out.tm).mono ?_
 rintro e u4 ⟨hb, aVG, cVG, aSG, cSG, rfl, hin, hil⟩
 clear zV c0V c1V c2V cfV zVX c0VX c1VX c2VX cfVX zVW c0VW c1VW c2VW cfVW
 replace V := tuck (V.out.below hb)
 replace VX := tuck (VX.out.below hb)
 replace VW := tuck (VW.out.below hb)
 replace SL := tuck (SL.out.below hb)
 replace HB := tuck (bAfter HB.out hb)
 have HNVG := tuck hin
 have SG := tuck (hil.below (below1 u4 (.cells #[.int .i64 G.kind, .int .i64 G.num, .slice aVG G.kids.length cVG] 25)))
 clear hb hin hil
 obtain ⟨zV, c0V, c1V, c2V, cfV⟩ := V.out.facts
 obtain ⟨zVX, c0VX, c1VX, c2VX, cfVX⟩ := VX.out.facts
 obtain ⟨zVW, c0VW, c1VW, c2VW, cfVW⟩ := VW.out.facts
 go_wp2_with fail
 clear zV c0V c1V c2V cfV zVX c0VX c1VX c2VX cfVX zVW c0VW c1VW c2VW cfVW
 have VG := tuck (TV.new HNVG.out)
 have hb := below1 u4 (.cells #[.int .i64 G.kind, .int .i64 G.num, .slice aVG G.kids.length cVG] 25)
 replace V := tuck (V.out.below hb)
 replace VX := tuck (VX.out.below hb)
 replace VW := tuck (VW.out.below hb)
 replace SL := tuck (SL.out.below hb)
 replace HB := tuck (bAfter HB.out hb)
 clear hb HNVG
 generalize u4.alloc (.cells #[.int .i64 G.kind, .int .i64 G.num, .slice aVG G.kids.length cVG] 25) = U4 at *
 generalize u4.heap.size = gVG at *
 refine (HST.out _ _ V.out.tm).mono ?_
 rintro e u5 ⟨hb, aVH, cVH, aSH, cSH, rfl, hin, hil⟩
 replace V := tuck (V.out.below hb)
 replace VX := tuck (VX.out.below hb)
 replace VW := tuck (VW.out.below hb)
 replace VG := tuck (VG.out.below hb)
 replace SL := tuck (SL.out.below hb)
 replace SG := tuck (SG.out.below hb)
 replace HB := tuck (bAfter HB.out hb)
 have HNVH := tuck hin
 have SH := tuck (hil.below (below1 u5 (.cells #[.int .i64 G.kind, .int .i64 G.num, .slice aVH G.kids.length cVH] 25)))
 clear hb hin hil
 obtain ⟨zV, c0V, c1V, c2V, cfV⟩ := V.out.facts
 obtain ⟨zVX, c0VX, c1VX, c2VX, cfVX⟩ := VX.out.facts
 obtain ⟨zVW, c0VW, c1VW, c2VW, cfVW⟩ := VW.out.facts
 obtain ⟨zVG, c0VG, c1VG, c2VG, cfVG⟩ := VG.out.facts
 go_wp2_with fail
 clear zV c0V c1V c2V cfV zVX c0VX c1VX c2VX cfVX zVW c0VW c1VW c2VW cfVW zVG c0VG c1VG c2VG cfVG
 have VH := tuck (TV.new HNVH.out)
 have hb := below1 u5 (.cells #[.int .i64 G.kind, .int .i64 G.num, .slice aVH G.kids.length cVH] 25)
 replace V := tuck (V.out.below hb)
 replace VX := tuck (VX.out.below hb)
 replace VW := tuck (VW.out.below hb)
 replace VG := tuck (VG.out.below hb)
 replace SL := tuck (SL.out.below hb)
 replace SG := tuck (SG.out.below hb)
 replace HB := tuck (bAfter HB.out hb)
 clear hb HNVH
 generalize u5.alloc (.cells #[.int .i64 G.kind, .int .i64 G.num, .slice aVH G.kids.length cVH] 25) = U5 at *
 generalize u5.heap.size = gVH at *
 refine (HTG.out _ _ _ VG.out.tm VH.out.tm).mono ?_
 rintro e u6 ⟨rfl, hb⟩
 replace V := tuck (V.out.below hb)
 replace VX := tuck (VX.out.below hb)
 replace VW := tuck (VW.out.below hb)
 replace VG := tuck (VG.out.below hb)
 replace VH := tuck (VH.out.below hb)
 replace SL := tuck (SL.out.below hb)
 replace SG := tuck (SG.out.below hb)
 replace SH := tuck (SH.out.below hb)
 replace HB := tuck (bAfter HB.out hb)
 clear hb
 have hl2 := HN.out
 have hla := HLA.out
 have hap := append_two (W := u6) (l1 := A) (l2 := L) (c1 := cSH) (a1 := aSH) (a2 := some ⟨q, 0, none⟩) (c2 := cq) SH.out (by rw [hl2]; exact SL.out) (by omega)
 rw [hl2] at hap
 obtain ⟨x1, W1, x2, W2, hr1, hr2, hsl, hbw⟩ := hap
 rw [← HM.out] at hsl
 have HR1 := tuck hr1
 have HR2 := tuck hr2
 have HSL2 := tuck hsl
 have HBW := tuck hbw
 clear hl2 hla hr1 hr2 hsl hbw
 go_wp2_with (at_builtin; (first | refine wpList_append_run_g _ (by go_simp) _ _ _ _ rfl _ _ rfl rfl _ _ HR1.out ?_ | refine wpList_append_run_g _ (by go_simp) _ _ _ _ rfl _ _ rfl rfl _ _ HR2.out ?_))
 refine (HDK.out _ _ _ (SG.out.below HBW.out) HSL2.out).mono ?_
 rintro e w9 ⟨rfl, hb9⟩
 replace HB := tuck (bAfter HB.out (HBW.out.trans (hb9.mono HBW.out.size)))
 clear hb9
 go_wp2_with fail
 go_ret
 exact ⟨rfl, HB.out⟩
set_option maxRecDepth 100000 in
theorem lifted (os : Os) (started : os.Started) (H : Type) (enc : TypeId × Value → H) :
  ReturnsInHanded {} Try.checked os 3 .any (Rows.fnApplyAllSpec.pre6 enc Try.prog Try.f3 Rows.fnApplyAllRow.domain false) (Rows.fnApplyAllSpec.post enc Try.prog Try.f3 false true false false) := by
 refine returnsInHanded_of_change (C := Try.checked) own started (by kernel_rfl) Try.func3
  (ChangeSpec.witness6 (enc := enc) (C := Try.checked) false ⟨#[], #[.slice none 0 0], []⟩ 8 (by kernel_rfl) (by kernel_rfl) (by kernel_rfl) (by kernel_rfl)) ?_
 intro W base args ds gs before hval0 hW hcnd _
 have hval : ∀ (j : Nat) t v, Try.f3.params[j]? = some t → args[j]? = some v → Value.okWide Try.prog W .any base t v := hval0
 have hW' := hW
 obtain ⟨p, q, hA0, hV, rfl, hfz, hnd⟩ := hW
 have hA : DataW.TrodAll enc Try.prog W 0 (fun _ => true) true Try.f3.params.toList args.toList ds p := hA0
 rw [Try.params3] at hA hval
 obtain ⟨v0, vs0, d0, ds0, p0, q0, hargs, rfl, rfl, h0, r0⟩ := trodAll_cons hA
 obtain ⟨rfl, rfl, rfl⟩ := trodAll_nil r0
 obtain rfl : args = #[v0] := by cases args; simp_all
 obtain ⟨U0, ad0, bb0, oo0, len0, cap0, rfl, hlc0, hcm0, hbl0, hby0⟩ := open_bytes (hval 0 22 v0 rfl rfl) h0
 refine (walk U0 ad0 bb0 oo0 len0 cap0 W hlc0 hcm0 hby0).mono fun e W' ⟨he, hb⟩ => ?_
 subst he
 exact ⟨_, rfl, law_post rfl rfl (fun gs h => by subst h; rfl) (by rw [Try.params3]; exact readable_FnApplyAll) laid hW' hb⟩
theorem over : Rows.fnApplyAllRow.holds Try.pinned (OpenSpec.ofChange Rows.fnApplyAllSpec) :=
 OpenClaim.holds_of_wide 3 Try.f3 rfl rfl rfl rfl rfl rfl rfl ⟨rfl, rfl, rfl, rfl, rfl⟩ rfl rfl rfl rfl rfl (by kernel_rfl) Try.func3 (by kernel_rfl)
  (of_decide_eq_true (by kernel_rfl)) (by unfold Func.isWrapper; first | (rw [if_pos (by decide +kernel)]; kernel_rfl) | (rw [if_neg (by decide +kernel)]; exact ⟨rfl, rfl⟩))
  (fun os started H enc _ => lifted os started H enc)
theorem proved : Rows.FnApplyAllSaid :=
 over
end Go.Proofs.Ytkjfdhdmkaofeaa.fnApplyAll
