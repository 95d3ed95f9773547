/-
  The law FnPutAt: whatever the bytes, a part that was replaced is read back, the old part put back gives the old term, and the nodes add up.
-/
import Derived.Test.YtihlbbbajaepoaaGreatR04
import Derived.Test.YtihlbbbajaepoaaGreatR08
import Derived.Test.YtihlbbbajaepoaaGreatR27
import Derived.Test.YtihlbbbajaepoaaGreatR41
import Derived.Test.YtihlbbbajaepoaaGreatR54
import Derived.IntWalk
namespace Go.Proofs.YtihlbbbajaepoaaGreat.fnPutAt
open Go.ChangeShapes Go.WideShapes Go.ChangeAt Go.RowKit Go.Deep
set_option linter.unusedVariables false
theorem readable_FnPutAt : ∀ t ∈ (#[43] : Array TypeId).toList, Tryz.prog.readableRec t = true ∧ t < Tryz.prog.types.size := by
 intro t ht
 simp at ht
 subst ht
 exact ⟨by kernel_rfl, of_decide_eq_true (by kernel_rfl)⟩
theorem laid : laidOutB Tryz.prog = true := by kernel_rfl
set_option maxRecDepth 100000 in
set_option maxHeartbeats 16000000 in
theorem walk (U : Nat → Int) (a : Option Addr) (b o len cap : Nat) (w : World) (hlc : len ≤ cap) (hcm : cap ≤ maxLen) (hby : Bytes U a b o len w) : Calls Tryz.prog 5 #[.slice a len cap] w fun e w' => e = .returned (.bool true) ∧ Below w.heap.size w w' := by
 unfold maxLen at hcm
 by_cases hl : 1048576 < len
 ·have hl' : (1048576 : Int) < (len : Int) := by omega
  clear hby
  go_enter Tryz.func5, Tryz.ntmps5
  go_wp2
  go_ret
  exact ⟨rfl, Below.refl _ _⟩
 have hl' : ¬ (1048576 : Int) < (len : Int) := by omega
 have HD := tuck (dPutAt_any w (by omega) hlc hby)
 clear hby
 go_enter Tryz.func5, Tryz.ntmps5
 go_wp2_with fail
 refine HD.out.mono ?_
 rintro e w1 ⟨T, v, N, n, vb, vo, vc, S, uu, rfl, ⟨s, rfl, hin⟩, hil, ⟨s2, rfl, hin2⟩, hn9, hsz, hsz2, hb⟩
 obtain ⟨aV, cV, rfl⟩ := hin.form
 obtain ⟨aU, cU, rfl⟩ := hin2.form
 have hbx := below2 w1 (.cells #[.int .i64 T.kind, .int .i64 T.num, .slice aV T.kids.length cV] 34) (.cells #[.int .i64 S.kind, .int .i64 S.num, .slice aU S.kids.length cU] 34)
 have V := tuck ((TV.new (hin.mono (Nat.zero_le _))).below (below1 _ (.cells #[.int .i64 S.kind, .int .i64 S.num, .slice aU S.kids.length cU] 34)))
 have U_ := tuck (TV.new ((hin2.mono (Nat.zero_le _)).below (below1 w1 (.cells #[.int .i64 T.kind, .int .i64 T.num, .slice aV T.kids.length cV] 34))))
 have HB := tuck (bAfter hb hbx)
 have SL := tuck ((hil.mono (Nat.zero_le _)).below hbx)
 have HN := tuck hn9
 clear hin hin2 hb hbx HD hsz hsz2 hil hn9
 go_wp2_with fail
 have hzz : (w1.alloc (.cells #[.int .i64 T.kind, .int .i64 T.num, .slice aV T.kids.length cV] 34)).heap.size = w1.heap.size + 1 := by simp
 rw [hzz] at U_
 generalize (w1.alloc (.cells #[.int .i64 T.kind, .int .i64 T.num, .slice aV T.kids.length cV] 34)).alloc (.cells #[.int .i64 S.kind, .int .i64 S.num, .slice aU S.kids.length cU] 34) = U0 at *
 generalize w1.heap.size + 1 = gU_ at *
 generalize w1.heap.size = gV at *
 clear hzz
 have aU_e : ∃ a c, a = aU ∧ c = cU := ⟨_, _, rfl, rfl⟩
 obtain ⟨aU_, cU_, h1, h2⟩ := aU_e
 subst h1
 subst h2
 by_cases hP : PutOk T N n S
 rotate_left
 ·skip
  obtain ⟨X, hX⟩ : ∃ X, X = zeroT := ⟨_, rfl⟩
  have HIM : Hid (∀ (w : World) (v tv uv : Value), IntsC w 0 N n v → TmIn w 0 T tv → TmIn w 0 S uv → Calls Tryz.prog 28 #[tv, v, uv] w (PairPost w X false)) := fun w v tv uv h1 h2 h4 => by
   have h3 := putAtI_p HN.out w v tv uv h1 h2 h4; rwa [orZero_no hP, tr_not hP, ← hX] at h3
  have HSP : Hid (∀ (w : World) (v tv uv : Value), IntsC w 0 N n v → TmIn w 0 T tv → TmIn w 0 S uv → Calls Tryz.prog 29 #[tv, v, uv] w (PairPost w X false)) := fun w v tv uv h1 h2 h4 => by
   have h3 := putAtS_p HN.out w v tv uv h1 h2 h4; rwa [orZero_no hP, tr_not hP, ← hX] at h3
  have HTS : Hid (∀ (w : World) (v1 v2 : Value), TmIn w 0 X v1 → TmIn w 0 X v2 → Calls Tryz.prog 25 #[v1, v2] w (BoolPost w true)) := fun w v1 v2 h1 h2 => by rw [hX] at h1 h2; exact same_z w v1 v2 h1 h2
  clear hX hP
  refine (HIM.out _ _ _ _ SL.out V.out.tm U_.out.tm).mono ?_
  rintro e u21 ⟨hb, vv, rfl, ss, rfl, hin⟩
  obtain ⟨aVX, cVX, rfl⟩ := hin.form
  replace V := tuck (V.out.below hb)
  replace U_ := tuck (U_.out.below hb)
  replace SL := tuck (SL.out.below hb)
  replace HB := tuck (bAfter HB.out hb)
  have HNVX := tuck hin
  clear hb hin
  obtain ⟨zV, c0V, c1V, c2V, cfV⟩ := V.out.facts
  obtain ⟨zU_, c0U_, c1U_, c2U_, cfU_⟩ := U_.out.facts
  go_wp2_with fail
  clear zV c0V c1V c2V cfV zU_ c0U_ c1U_ c2U_ cfU_
  have VX := tuck (TV.new HNVX.out)
  have hb := below1 u21 (.cells #[.int .i64 X.kind, .int .i64 X.num, .slice aVX X.kids.length cVX] 34)
  replace V := tuck (V.out.below hb)
  replace U_ := tuck (U_.out.below hb)
  replace SL := tuck (SL.out.below hb)
  replace HB := tuck (bAfter HB.out hb)
  clear hb HNVX
  generalize u21.alloc (.cells #[.int .i64 X.kind, .int .i64 X.num, .slice aVX X.kids.length cVX] 34) = U21 at *
  generalize u21.heap.size = gVX at *
  refine (HSP.out _ _ _ _ SL.out V.out.tm U_.out.tm).mono ?_
  rintro e u22 ⟨hb, vv, rfl, ss, rfl, hin⟩
  obtain ⟨aVW, cVW, rfl⟩ := hin.form
  replace V := tuck (V.out.below hb)
  replace U_ := tuck (U_.out.below hb)
  replace VX := tuck (VX.out.below hb)
  replace SL := tuck (SL.out.below hb)
  replace HB := tuck (bAfter HB.out hb)
  have HNVW := tuck hin
  clear hb hin
  obtain ⟨zV, c0V, c1V, c2V, cfV⟩ := V.out.facts
  obtain ⟨zU_, c0U_, c1U_, c2U_, cfU_⟩ := U_.out.facts
  obtain ⟨zVX, c0VX, c1VX, c2VX, cfVX⟩ := VX.out.facts
  go_wp2_with fail
  clear zV c0V c1V c2V cfV zU_ c0U_ c1U_ c2U_ cfU_ zVX c0VX c1VX c2VX cfVX
  have VW := tuck (TV.new HNVW.out)
  have hb := below1 u22 (.cells #[.int .i64 X.kind, .int .i64 X.num, .slice aVW X.kids.length cVW] 34)
  replace V := tuck (V.out.below hb)
  replace U_ := tuck (U_.out.below hb)
  replace VX := tuck (VX.out.below hb)
  replace SL := tuck (SL.out.below hb)
  replace HB := tuck (bAfter HB.out hb)
  clear hb HNVW
  generalize u22.alloc (.cells #[.int .i64 X.kind, .int .i64 X.num, .slice aVW X.kids.length cVW] 34) = U22 at *
  generalize u22.heap.size = gVW at *
  refine (HTS.out _ _ _ VX.out.tm VW.out.tm).mono ?_
  rintro e u23 ⟨rfl, hb⟩
  replace V := tuck (V.out.below hb)
  replace U_ := tuck (U_.out.below hb)
  replace VX := tuck (VX.out.below hb)
  replace VW := tuck (VW.out.below hb)
  replace SL := tuck (SL.out.below hb)
  replace HB := tuck (bAfter HB.out hb)
  clear hb
  obtain ⟨zV, c0V, c1V, c2V, cfV⟩ := V.out.facts
  obtain ⟨zU_, c0U_, c1U_, c2U_, cfU_⟩ := U_.out.facts
  obtain ⟨zVX, c0VX, c1VX, c2VX, cfVX⟩ := VX.out.facts
  obtain ⟨zVW, c0VW, c1VW, c2VW, cfVW⟩ := VW.out.facts
  go_wp2_with fail
  refine (HTS.out _ _ _ VX.out.tm VW.out.tm).mono ?_
  rintro e u24 ⟨rfl, hb⟩
  clear zV c0V c1V c2V cfV zU_ c0U_ c1U_ c2U_ cfU_ zVX c0VX c1VX c2VX cfVX zVW c0VW c1VW c2VW cfVW
  replace V := tuck (V.out.below hb)
  replace U_ := tuck (U_.out.below hb)
  replace VX := tuck (VX.out.below hb)
  replace VW := tuck (VW.out.below hb)
  replace SL := tuck (SL.out.below hb)
  replace HB := tuck (bAfter HB.out hb)
  clear hb
  obtain ⟨zV, c0V, c1V, c2V, cfV⟩ := V.out.facts
  obtain ⟨zU_, c0U_, c1U_, c2U_, cfU_⟩ := U_.out.facts
  obtain ⟨zVX, c0VX, c1VX, c2VX, cfVX⟩ := VX.out.facts
  obtain ⟨zVW, c0VW, c1VW, c2VW, cfVW⟩ := VW.out.facts
  go_wp2_with fail
  go_ret
  exact ⟨rfl, HB.out⟩
 obtain ⟨hK1, hK2, hK3, hK4, hSV, hsum⟩ := hP.known
 obtain ⟨X, hX⟩ : ∃ X, X = around (wayP T N n) S := ⟨_, rfl⟩
 obtain ⟨O, hO⟩ : ∃ O, O = wayT T N n := ⟨_, rfl⟩
 rw [← hX] at hK1 hK2 hK3 hK4 hsum
 rw [← hO] at hK3 hK4 hsum
 have hXV : X.Valid := hX ▸ hP.2
 have hTV : T.Valid := hP.1.1
 have hOV : O.Valid := hO ▸ hP.1.ok.valid
 have hQ := hP.1
 have HIM : Hid (∀ (w : World) (v tv uv : Value), IntsC w 0 N n v → TmIn w 0 T tv → TmIn w 0 S uv → Calls Tryz.prog 28 #[tv, v, uv] w (PairPost w X true)) := fun w v tv uv h1 h2 h4 => by
  have h3 := putAtI_p HN.out w v tv uv h1 h2 h4; rwa [orZero_yes hP, tr_of hP, ← hX] at h3
 have HSP : Hid (∀ (w : World) (v tv uv : Value), IntsC w 0 N n v → TmIn w 0 T tv → TmIn w 0 S uv → Calls Tryz.prog 29 #[tv, v, uv] w (PairPost w X true)) := fun w v tv uv h1 h2 h4 => by
  have h3 := putAtS_p HN.out w v tv uv h1 h2 h4; rwa [orZero_yes hP, tr_of hP, ← hX] at h3
 have HTS : Hid (∀ (w : World) (v1 v2 : Value), TmIn w 0 X v1 → TmIn w 0 X v2 → Calls Tryz.prog 25 #[v1, v2] w (BoolPost w true)) := same_v hXV
 have HTT : Hid (∀ (w : World) (v1 v2 : Value), TmIn w 0 T v1 → TmIn w 0 T v2 → Calls Tryz.prog 25 #[v1, v2] w (BoolPost w true)) := same_v hTV
 have HTU : Hid (∀ (w : World) (v1 v2 : Value), TmIn w 0 S v1 → TmIn w 0 S v2 → Calls Tryz.prog 25 #[v1, v2] w (BoolPost w true)) := same_v hSV
 have HTA : Hid (∀ (w : World) (v tv : Value), Ints w 0 N n v → TmIn w 0 X tv → Calls Tryz.prog 23 #[tv, v] w (PairPost w S true)) := fun w v tv h1 h2 => by
  have h3 := termAtI_p (N := N) HN.out w v tv h1 h2; rwa [orZero_yes hK1, tr_of hK1, hK2] at h3
 have HTO : Hid (∀ (w : World) (v tv : Value), Ints w 0 N n v → TmIn w 0 T tv → Calls Tryz.prog 23 #[tv, v] w (PairPost w O true)) := fun w v tv h1 h2 => by
  have h3 := termAtI_p (N := N) HN.out w v tv h1 h2; rwa [orZero_yes hQ, tr_of hQ, ← hO] at h3
 have HPB : Hid (∀ (w : World) (v tv uv : Value), IntsC w 0 N n v → TmIn w 0 X tv → TmIn w 0 O uv → Calls Tryz.prog 28 #[tv, v, uv] w (PairPost w T true)) := fun w v tv uv h1 h2 h4 => by
  have h3 := putAtI_p HN.out w v tv uv h1 h2 h4; rwa [orZero_yes hK3, tr_of hK3, hK4] at h3
 obtain ⟨sX, hsX⟩ : ∃ sX : Int, sX = (X.size : Int) := ⟨_, rfl⟩
 have HCX : Hid (∀ (w : World) (v : Value), TmIn w 0 X v → Calls Tryz.prog 30 #[v] w (IntPost w sX)) := tuck fun w v h => by
  have h2 := nodesI_any X w v h; rwa [show nodesOf X = sX by unfold nodesOf; rw [if_pos hXV, hsX]] at h2
 obtain ⟨sT, hsT⟩ : ∃ sT : Int, sT = (T.size : Int) := ⟨_, rfl⟩
 have HCT : Hid (∀ (w : World) (v : Value), TmIn w 0 T v → Calls Tryz.prog 30 #[v] w (IntPost w sT)) := tuck fun w v h => by
  have h2 := nodesI_any T w v h; rwa [show nodesOf T = sT by unfold nodesOf; rw [if_pos hTV, hsT]] at h2
 obtain ⟨sO, hsO⟩ : ∃ sO : Int, sO = (O.size : Int) := ⟨_, rfl⟩
 have HCO : Hid (∀ (w : World) (v : Value), TmIn w 0 O v → Calls Tryz.prog 30 #[v] w (IntPost w sO)) := tuck fun w v h => by
  have h2 := nodesI_any O w v h; rwa [show nodesOf O = sO by unfold nodesOf; rw [if_pos hOV, hsO]] at h2
 obtain ⟨sS, hsS⟩ : ∃ sS : Int, sS = (S.size : Int) := ⟨_, rfl⟩
 have HCS : Hid (∀ (w : World) (v : Value), TmIn w 0 S v → Calls Tryz.prog 30 #[v] w (IntPost w sS)) := tuck fun w v h => by
  have h2 := nodesI_any S w v h; rwa [show nodesOf S = sS by unfold nodesOf; rw [if_pos hSV, hsS]] at h2
 have hbd : sX ≤ 400 ∧ sT ≤ 400 ∧ sO ≤ 400 ∧ sS ≤ 400 ∧ 0 ≤ sX ∧ 0 ≤ sT ∧ 0 ≤ sO ∧ 0 ≤ sS := by
  have := hXV.2.2
  have := hTV.2.2
  have := hOV.2.2
  have := hSV.2.2
  omega
 have HW1 : Hid (IntKind.i64.wrap (sT - sO) = sT - sO) := tuck (IntWalk.i64_in _ (by omega))
 have HW2 : Hid (IntKind.i64.wrap (sT - sO + sS) = sT - sO + sS) := tuck (IntWalk.i64_in _ (by omega))
 have HEQ : Hid (sX = sT - sO + sS) := tuck (by omega)
 clear hbd hsX hsT hsO hsS hK1 hK2 hK3 hK4 hSV hsum hX hO hXV hTV hOV hQ hP
 refine (HIM.out _ _ _ _ SL.out V.out.tm U_.out.tm).mono ?_
 rintro e u1 ⟨hb, vv, rfl, ss, rfl, hin⟩
 obtain ⟨aVX, cVX, rfl⟩ := hin.form
 replace V := tuck (V.out.below hb)
 replace U_ := tuck (U_.out.below hb)
 replace SL := tuck (SL.out.below hb)
 replace HB := tuck (bAfter HB.out hb)
 have HNVX := tuck hin
 clear hb hin
 obtain ⟨zV, c0V, c1V, c2V, cfV⟩ := V.out.facts
 obtain ⟨zU_, c0U_, c1U_, c2U_, cfU_⟩ := U_.out.facts
 go_wp2_with fail
 clear zV c0V c1V c2V cfV zU_ c0U_ c1U_ c2U_ cfU_
 have VX := tuck (TV.new HNVX.out)
 have hb := below1 u1 (.cells #[.int .i64 X.kind, .int .i64 X.num, .slice aVX X.kids.length cVX] 34)
 replace V := tuck (V.out.below hb)
 replace U_ := tuck (U_.out.below hb)
 replace SL := tuck (SL.out.below hb)
 replace HB := tuck (bAfter HB.out hb)
 clear hb HNVX
 generalize u1.alloc (.cells #[.int .i64 X.kind, .int .i64 X.num, .slice aVX X.kids.length cVX] 34) = U1 at *
 generalize u1.heap.size = gVX at *
 refine (HSP.out _ _ _ _ SL.out V.out.tm U_.out.tm).mono ?_
 rintro e u2 ⟨hb, vv, rfl, ss, rfl, hin⟩
 obtain ⟨aVW, cVW, rfl⟩ := hin.form
 replace V := tuck (V.out.below hb)
 replace U_ := tuck (U_.out.below hb)
 replace VX := tuck (VX.out.below hb)
 replace SL := tuck (SL.out.below hb)
 replace HB := tuck (bAfter HB.out hb)
 have HNVW := tuck hin
 clear hb hin
 obtain ⟨zV, c0V, c1V, c2V, cfV⟩ := V.out.facts
 obtain ⟨zU_, c0U_, c1U_, c2U_, cfU_⟩ := U_.out.facts
 obtain ⟨zVX, c0VX, c1VX, c2VX, cfVX⟩ := VX.out.facts
 go_wp2_with fail
 clear zV c0V c1V c2V cfV zU_ c0U_ c1U_ c2U_ cfU_ zVX c0VX c1VX c2VX cfVX
 have VW := tuck (TV.new HNVW.out)
 have hb := below1 u2 (.cells #[.int .i64 X.kind, .int .i64 X.num, .slice aVW X.kids.length cVW] 34)
 replace V := tuck (V.out.below hb)
 replace U_ := tuck (U_.out.below hb)
 replace VX := tuck (VX.out.below hb)
 replace SL := tuck (SL.out.below hb)
 replace HB := tuck (bAfter HB.out hb)
 clear hb HNVW
 generalize u2.alloc (.cells #[.int .i64 X.kind, .int .i64 X.num, .slice aVW X.kids.length cVW] 34) = U2 at *
 generalize u2.heap.size = gVW at *
 refine (HTS.out _ _ _ VX.out.tm VW.out.tm).mono ?_
 rintro e u3 ⟨rfl, hb⟩
 replace V := tuck (V.out.below hb)
 replace U_ := tuck (U_.out.below hb)
 replace VX := tuck (VX.out.below hb)
 replace VW := tuck (VW.out.below hb)
 replace SL := tuck (SL.out.below hb)
 replace HB := tuck (bAfter HB.out hb)
 clear hb
 obtain ⟨zV, c0V, c1V, c2V, cfV⟩ := V.out.facts
 obtain ⟨zU_, c0U_, c1U_, c2U_, cfU_⟩ := U_.out.facts
 obtain ⟨zVX, c0VX, c1VX, c2VX, cfVX⟩ := VX.out.facts
 obtain ⟨zVW, c0VW, c1VW, c2VW, cfVW⟩ := VW.out.facts
 go_wp2_with fail
 refine (HTA.out _ _ _ SL.out.ints VX.out.tm).mono ?_
 rintro e u4 ⟨hb, vv, rfl, ss, rfl, hin⟩
 obtain ⟨aVA, cVA, rfl⟩ := hin.form
 clear zV c0V c1V c2V cfV zU_ c0U_ c1U_ c2U_ cfU_ zVX c0VX c1VX c2VX cfVX zVW c0VW c1VW c2VW cfVW
 replace V := tuck (V.out.below hb)
 replace U_ := tuck (U_.out.below hb)
 replace VX := tuck (VX.out.below hb)
 replace VW := tuck (VW.out.below hb)
 replace SL := tuck (SL.out.below hb)
 replace HB := tuck (bAfter HB.out hb)
 have HNVA := tuck hin
 clear hb hin
 obtain ⟨zV, c0V, c1V, c2V, cfV⟩ := V.out.facts
 obtain ⟨zU_, c0U_, c1U_, c2U_, cfU_⟩ := U_.out.facts
 obtain ⟨zVX, c0VX, c1VX, c2VX, cfVX⟩ := VX.out.facts
 obtain ⟨zVW, c0VW, c1VW, c2VW, cfVW⟩ := VW.out.facts
 go_wp2_with fail
 clear zV c0V c1V c2V cfV zU_ c0U_ c1U_ c2U_ cfU_ zVX c0VX c1VX c2VX cfVX zVW c0VW c1VW c2VW cfVW
 have VA := tuck (TV.new HNVA.out)
 have hb := below1 u4 (.cells #[.int .i64 S.kind, .int .i64 S.num, .slice aVA S.kids.length cVA] 34)
 replace V := tuck (V.out.below hb)
 replace U_ := tuck (U_.out.below hb)
 replace VX := tuck (VX.out.below hb)
 replace VW := tuck (VW.out.below hb)
 replace SL := tuck (SL.out.below hb)
 replace HB := tuck (bAfter HB.out hb)
 clear hb HNVA
 generalize u4.alloc (.cells #[.int .i64 S.kind, .int .i64 S.num, .slice aVA S.kids.length cVA] 34) = U4 at *
 generalize u4.heap.size = gVA at *
 refine (HTO.out _ _ _ SL.out.ints V.out.tm).mono ?_
 rintro e u5 ⟨hb, vv, rfl, ss, rfl, hin⟩
 obtain ⟨aVO, cVO, rfl⟩ := hin.form
 replace V := tuck (V.out.below hb)
 replace U_ := tuck (U_.out.below hb)
 replace VX := tuck (VX.out.below hb)
 replace VW := tuck (VW.out.below hb)
 replace VA := tuck (VA.out.below hb)
 replace SL := tuck (SL.out.below hb)
 replace HB := tuck (bAfter HB.out hb)
 have HNVO := tuck hin
 clear hb hin
 obtain ⟨zV, c0V, c1V, c2V, cfV⟩ := V.out.facts
 obtain ⟨zU_, c0U_, c1U_, c2U_, cfU_⟩ := U_.out.facts
 obtain ⟨zVX, c0VX, c1VX, c2VX, cfVX⟩ := VX.out.facts
 obtain ⟨zVW, c0VW, c1VW, c2VW, cfVW⟩ := VW.out.facts
 obtain ⟨zVA, c0VA, c1VA, c2VA, cfVA⟩ := VA.out.facts
 go_wp2_with fail
 clear zV c0V c1V c2V cfV zU_ c0U_ c1U_ c2U_ cfU_ zVX c0VX c1VX c2VX cfVX zVW c0VW c1VW c2VW cfVW zVA c0VA c1VA c2VA cfVA
 have VO := tuck (TV.new HNVO.out)
 have hb := below1 u5 (.cells #[.int .i64 O.kind, .int .i64 O.num, .slice aVO O.kids.length cVO] 34)
 replace V := tuck (V.out.below hb)
 replace U_ := tuck (U_.out.below hb)
 replace VX := tuck (VX.out.below hb)
 replace VW := tuck (VW.out.below hb)
 replace VA := tuck (VA.out.below hb)
 replace SL := tuck (SL.out.below hb)
 replace HB := tuck (bAfter HB.out hb)
 clear hb HNVO
 generalize u5.alloc (.cells #[.int .i64 O.kind, .int .i64 O.num, .slice aVO O.kids.length cVO] 34) = U5 at *
 generalize u5.heap.size = gVO at *
 refine (HPB.out _ _ _ _ SL.out VX.out.tm VO.out.tm).mono ?_
 rintro e u6 ⟨hb, vv, rfl, ss, rfl, hin⟩
 obtain ⟨aVY, cVY, rfl⟩ := hin.form
 replace V := tuck (V.out.below hb)
 replace U_ := tuck (U_.out.below hb)
 replace VX := tuck (VX.out.below hb)
 replace VW := tuck (VW.out.below hb)
 replace VA := tuck (VA.out.below hb)
 replace VO := tuck (VO.out.below hb)
 replace SL := tuck (SL.out.below hb)
 replace HB := tuck (bAfter HB.out hb)
 have HNVY := tuck hin
 clear hb hin
 obtain ⟨zV, c0V, c1V, c2V, cfV⟩ := V.out.facts
 obtain ⟨zU_, c0U_, c1U_, c2U_, cfU_⟩ := U_.out.facts
 obtain ⟨zVX, c0VX, c1VX, c2VX, cfVX⟩ := VX.out.facts
 obtain ⟨zVW, c0VW, c1VW, c2VW, cfVW⟩ := VW.out.facts
 obtain ⟨zVA, c0VA, c1VA, c2VA, cfVA⟩ := VA.out.facts
 obtain ⟨zVO, c0VO, c1VO, c2VO, cfVO⟩ := VO.out.facts
 go_wp2_with fail
 clear zV c0V c1V c2V cfV zU_ c0U_ c1U_ c2U_ cfU_ zVX c0VX c1VX c2VX cfVX zVW c0VW c1VW c2VW cfVW zVA c0VA c1VA c2VA cfVA zVO c0VO c1VO c2VO cfVO
 have VY := tuck (TV.new HNVY.out)
 have hb := below1 u6 (.cells #[.int .i64 T.kind, .int .i64 T.num, .slice aVY T.kids.length cVY] 34)
 replace V := tuck (V.out.below hb)
 replace U_ := tuck (U_.out.below hb)
 replace VX := tuck (VX.out.below hb)
 replace VW := tuck (VW.out.below hb)
 replace VA := tuck (VA.out.below hb)
 replace VO := tuck (VO.out.below hb)
 replace SL := tuck (SL.out.below hb)
 replace HB := tuck (bAfter HB.out hb)
 clear hb HNVY
 generalize u6.alloc (.cells #[.int .i64 T.kind, .int .i64 T.num, .slice aVY T.kids.length cVY] 34) = U6 at *
 generalize u6.heap.size = gVY at *
 go_upto_region 11 with fail
 have HT12 : ∀ w' : World, ((fun w' => Below U6.heap.size U6 w' ∧ VarAt gVA S.kind S.num (.slice aVA S.kids.length cVA) w' ∧ VarAt gU_ S.kind S.num (.slice aU_ S.kids.length cU_) w' ∧ VarAt gVY T.kind T.num (.slice aVY T.kids.length cVY) w' ∧ VarAt gV T.kind T.num (.slice aV T.kids.length cV) w' ∧ VarAt gVX X.kind X.num (.slice aVX X.kids.length cVX) w' ∧ VarAt gVO O.kind O.num (.slice aVO O.kids.length cVO) w')) w' → ((fun w' => Below U6.heap.size U6 w' ∧ VarAt gVA S.kind S.num (.slice aVA S.kids.length cVA) w' ∧ VarAt gU_ S.kind S.num (.slice aU_ S.kids.length cU_) w' ∧ VarAt gVY T.kind T.num (.slice aVY T.kids.length cVY) w' ∧ VarAt gV T.kind T.num (.slice aV T.kids.length cV) w' ∧ VarAt gVX X.kind X.num (.slice aVX X.kids.length cVX) w' ∧ VarAt gVO O.kind O.num (.slice aVO O.kids.length cVO) w')) w' := fun w' h => h
 refine AnyTwo.begin ((fun w' => Below U6.heap.size U6 w' ∧ VarAt gVA S.kind S.num (.slice aVA S.kids.length cVA) w' ∧ VarAt gU_ S.kind S.num (.slice aU_ S.kids.length cU_) w' ∧ VarAt gVY T.kind T.num (.slice aVY T.kids.length cVY) w' ∧ VarAt gV T.kind T.num (.slice aV T.kids.length cV) w' ∧ VarAt gVX X.kind X.num (.slice aVX X.kids.length cVX) w' ∧ VarAt gVO O.kind O.num (.slice aVO O.kids.length cVO) w')) ((fun w' => Below U6.heap.size U6 w' ∧ VarAt gVA S.kind S.num (.slice aVA S.kids.length cVA) w' ∧ VarAt gU_ S.kind S.num (.slice aU_ S.kids.length cU_) w' ∧ VarAt gVY T.kind T.num (.slice aVY T.kids.length cVY) w' ∧ VarAt gV T.kind T.num (.slice aV T.kids.length cV) w' ∧ VarAt gVX X.kind X.num (.slice aVX X.kids.length cVX) w' ∧ VarAt gVO O.kind O.num (.slice aVO O.kids.length cVO) w')) 30 (by kernel_rfl) ?_
 have hS1 : ((fun w' => Below U6.heap.size U6 w' ∧ VarAt gVA S.kind S.num (.slice aVA S.kids.length cVA) w' ∧ VarAt gU_ S.kind S.num (.slice aU_ S.kids.length cU_) w' ∧ VarAt gVY T.kind T.num (.slice aVY T.kids.length cVY) w' ∧ VarAt gV T.kind T.num (.slice aV T.kids.length cV) w' ∧ VarAt gVX X.kind X.num (.slice aVX X.kids.length cVX) w' ∧ VarAt gVO O.kind O.num (.slice aVO O.kids.length cVO) w')) _ := ⟨(Below.refl _ _).drew, VA.out.var, U_.out.var, VY.out.var, V.out.var, VX.out.var, VO.out.var⟩
 refine AnyTwo.takeAny HT12 (i := 0) (oi := { dst := some 79, op := _, type := _, pos := _, after := _, guard := _ }) (v := ?vz1) rfl (by kernel_rfl) (by kernel_rfl) (by decide +kernel) (by rfl) (fun _ _ _ h => h) (Or.inl ⟨by rfl, ?yz1⟩) (ph_one (by kernel_rfl) hS1) ?rz1
 case yz1 => (intro w hSw; (try dsimp only at hSw); go_simp; try (with_reducible rfl))
 try simp only [Act.put, List.setIfInBounds_toArray, List.set_cons_zero, List.set_cons_succ]
 refine AnyTwo.takeAny HT12 (i := 1) (oi := { dst := some 80, op := _, type := _, pos := _, after := _, guard := _ }) (v := ?vz2) rfl (by kernel_rfl) (by kernel_rfl) (by decide +kernel) (by rfl) (fun _ _ _ h => h) (Or.inl ⟨by rfl, ?yz2⟩) (ph_one (by kernel_rfl) hS1) ?rz2
 case yz2 => (intro w hSw; (try dsimp only at hSw); go_simp; try (with_reducible rfl))
 try simp only [Act.put, List.setIfInBounds_toArray, List.set_cons_zero, List.set_cons_succ]
 refine AnyTwo.takeAny HT12 (i := 2) (oi := { dst := some 81, op := _, type := _, pos := _, after := _, guard := _ }) (v := ?vz3) rfl (by kernel_rfl) (by kernel_rfl) (by decide +kernel) (by rfl) (fun _ _ _ h => h) (Or.inl ⟨by rfl, ?yz3⟩) (ph_one (by kernel_rfl) hS1) ?rz3
 case yz3 => (intro w hSw; (try dsimp only at hSw); go_simp; try (with_reducible rfl))
 try simp only [Act.put, List.setIfInBounds_toArray, List.set_cons_zero, List.set_cons_succ]
 refine AnyTwo.takeAny HT12 (i := 3) (oi := { dst := some 82, op := _, type := _, pos := _, after := _, guard := _ }) (v := ?vz4) rfl (by kernel_rfl) (by kernel_rfl) (by decide +kernel) (by rfl) (fun _ _ _ h => h) (Or.inl ⟨by rfl, ?yz4⟩) (ph_one (by kernel_rfl) hS1) ?rz4
 case yz4 => (intro w hSw; (try dsimp only at hSw); go_simp; try (with_reducible rfl))
 try simp only [Act.put, List.setIfInBounds_toArray, List.set_cons_zero, List.set_cons_succ]
 refine AnyTwo.takeAny HT12 (i := 4) (oi := { dst := some 83, op := _, type := _, pos := _, after := _, guard := _ }) (v := ?vz5) rfl (by kernel_rfl) (by kernel_rfl) (by decide +kernel) (by rfl) (fun _ _ _ h => h) (Or.inl ⟨by rfl, ?yz5⟩) (ph_one (by kernel_rfl) hS1) ?rz5
 case yz5 => (intro w hSw; (try dsimp only at hSw); go_simp; try (with_reducible rfl))
 try simp only [Act.put, List.setIfInBounds_toArray, List.set_cons_zero, List.set_cons_succ]
 refine AnyTwo.takeAny HT12 (i := 5) (oi := { dst := some 84, op := _, type := _, pos := _, after := _, guard := _ }) (v := ?vz6) rfl (by kernel_rfl) (by kernel_rfl) (by decide +kernel) (by rfl) (fun _ _ _ h => h) (Or.inl ⟨by rfl, ?yz6⟩) (ph_one (by kernel_rfl) hS1) ?rz6
 case yz6 => (intro w hSw; (try dsimp only at hSw); go_simp; try (with_reducible rfl))
 try simp only [Act.put, List.setIfInBounds_toArray, List.set_cons_zero, List.set_cons_succ]
 refine AnyTwo.takeAny HT12 (i := 6) (oi := { dst := some 85, op := _, type := _, pos := _, after := _, guard := _ }) (v := ?vz7) rfl (by kernel_rfl) (by kernel_rfl) (by decide +kernel) (by rfl) (fun _ _ _ h => h) (Or.inl ⟨by rfl, ?yz7⟩) (ph_one (by kernel_rfl) hS1) ?rz7
 case yz7 => (intro w hSw; (try dsimp only at hSw); go_simp; try (with_reducible rfl))
 try simp only [Act.put, List.setIfInBounds_toArray, List.set_cons_zero, List.set_cons_succ]
 refine AnyTwo.takeAny HT12 (i := 7) (oi := { dst := some 86, op := _, type := _, pos := _, after := _, guard := _ }) (v := ?vz8) rfl (by kernel_rfl) (by kernel_rfl) (by decide +kernel) (by rfl) (fun _ _ _ h => h) (Or.inl ⟨by rfl, ?yz8⟩) (ph_one (by kernel_rfl) hS1) ?rz8
 case yz8 => (intro w hSw; (try dsimp only at hSw); go_simp; try (with_reducible rfl))
 try simp only [Act.put, List.setIfInBounds_toArray, List.set_cons_zero, List.set_cons_succ]
 refine AnyTwo.takeAny HT12 (i := 8) (oi := { dst := some 87, op := _, type := _, pos := _, after := _, guard := _ }) (v := ?vz9) rfl (by kernel_rfl) (by kernel_rfl) (by decide +kernel) (by rfl) (fun _ _ _ h => h) (Or.inl ⟨by rfl, ?yz9⟩) (ph_one (by kernel_rfl) hS1) ?rz9
 case yz9 => (intro w hSw; (try dsimp only at hSw); obtain ⟨z9, y0, y1, y2, yf⟩ := VarAt.facts hSw.2.1; clear hSw; go_simp; try (with_reducible rfl))
 try simp only [Act.put, List.setIfInBounds_toArray, List.set_cons_zero, List.set_cons_succ]
 refine AnyTwo.takeAny HT12 (i := 9) (oi := { dst := some 88, op := _, type := _, pos := _, after := _, guard := _ }) (v := ?vz10) rfl (by kernel_rfl) (by kernel_rfl) (by decide +kernel) (by rfl) (fun _ _ _ h => h) (Or.inl ⟨by rfl, ?yz10⟩) (ph_one (by kernel_rfl) hS1) ?rz10
 case yz10 => (intro w hSw; (try dsimp only at hSw); obtain ⟨z9, y0, y1, y2, yf⟩ := VarAt.facts hSw.2.2.1; clear hSw; go_simp; try (with_reducible rfl))
 try simp only [Act.put, List.setIfInBounds_toArray, List.set_cons_zero, List.set_cons_succ]
 refine AnyTwo.step (i := 10) (o := { dst := some 89, op := _, type := _, pos := _, after := _, guard := _ }) (by kernel_rfl) rfl (fun K hK => ?_)
 go_simp
 refine (HTU.out _ _ _ ⟨_, rfl, VA.out.sl.below hS1.1⟩ ⟨_, rfl, U_.out.sl.below hS1.1⟩).mono ?_
 rintro e w7 ⟨rfl, hb7⟩
 have hS1' : ((fun w' => Below U6.heap.size U6 w' ∧ VarAt gVA S.kind S.num (.slice aVA S.kids.length cVA) w' ∧ VarAt gU_ S.kind S.num (.slice aU_ S.kids.length cU_) w' ∧ VarAt gVY T.kind T.num (.slice aVY T.kids.length cVY) w' ∧ VarAt gV T.kind T.num (.slice aV T.kids.length cV) w' ∧ VarAt gVX X.kind X.num (.slice aVX X.kids.length cVX) w' ∧ VarAt gVO O.kind O.num (.slice aVO O.kids.length cVO) w')) _ := ⟨bAfter hS1.1 hb7, VarAt.below hS1.2.1 hb7, VarAt.below hS1.2.2.1 hb7, VarAt.below hS1.2.2.2.1 hb7, VarAt.below hS1.2.2.2.2.1 hb7, VarAt.below hS1.2.2.2.2.2.1 hb7, VarAt.below hS1.2.2.2.2.2.2 hb7⟩
 refine hK.out _ _ (ph_one (by kernel_rfl) hS1') ?_
 clear hK K hS1
 have hS1 := hS1'
 clear hS1'
 try simp only [Act.put, List.setIfInBounds_toArray, List.set_cons_zero, List.set_cons_succ]
 refine AnyTwo.takeAny HT12 (i := 11) (oi := { dst := some 90, op := _, type := _, pos := _, after := _, guard := _ }) (v := ?vz11) rfl (by kernel_rfl) (by kernel_rfl) (by decide +kernel) (by rfl) (fun _ _ _ h => h) (Or.inl ⟨by rfl, ?yz11⟩) (ph_one (by kernel_rfl) hS1) ?rz11
 case yz11 => (intro w hSw; (try dsimp only at hSw); go_simp; try (with_reducible rfl))
 try simp only [Act.put, List.setIfInBounds_toArray, List.set_cons_zero, List.set_cons_succ]
 refine AnyTwo.takeAny HT12 (i := 12) (oi := { dst := some 91, op := _, type := _, pos := _, after := _, guard := _ }) (v := ?vz12) rfl (by kernel_rfl) (by kernel_rfl) (by decide +kernel) (by rfl) (fun _ _ _ h => h) (Or.inl ⟨by rfl, ?yz12⟩) (ph_one (by kernel_rfl) hS1) ?rz12
 case yz12 => (intro w hSw; (try dsimp only at hSw); go_simp; try (with_reducible rfl))
 try simp only [Act.put, List.setIfInBounds_toArray, List.set_cons_zero, List.set_cons_succ]
 refine AnyTwo.takeAny HT12 (i := 13) (oi := { dst := some 92, op := _, type := _, pos := _, after := _, guard := _ }) (v := ?vz13) rfl (by kernel_rfl) (by kernel_rfl) (by decide +kernel) (by rfl) (fun _ _ _ h => h) (Or.inl ⟨by rfl, ?yz13⟩) (ph_one (by kernel_rfl) hS1) ?rz13
 case yz13 => (intro w hSw; (try dsimp only at hSw); obtain ⟨z9, y0, y1, y2, yf⟩ := VarAt.facts hSw.2.2.2.1; clear hSw; go_simp; try (with_reducible rfl))
 try simp only [Act.put, List.setIfInBounds_toArray, List.set_cons_zero, List.set_cons_succ]
 refine AnyTwo.takeAny HT12 (i := 14) (oi := { dst := some 93, op := _, type := _, pos := _, after := _, guard := _ }) (v := ?vz14) rfl (by kernel_rfl) (by kernel_rfl) (by decide +kernel) (by rfl) (fun _ _ _ h => h) (Or.inl ⟨by rfl, ?yz14⟩) (ph_one (by kernel_rfl) hS1) ?rz14
 case yz14 => (intro w hSw; (try dsimp only at hSw); obtain ⟨z9, y0, y1, y2, yf⟩ := VarAt.facts hSw.2.2.2.2.1; clear hSw; go_simp; try (with_reducible rfl))
 try simp only [Act.put, List.setIfInBounds_toArray, List.set_cons_zero, List.set_cons_succ]
 refine AnyTwo.step (i := 15) (o := { dst := some 94, op := _, type := _, pos := _, after := _, guard := _ }) (by kernel_rfl) rfl (fun K hK => ?_)
 go_simp
 refine (HTT.out _ _ _ ⟨_, rfl, VY.out.sl.below hS1.1⟩ ⟨_, rfl, V.out.sl.below hS1.1⟩).mono ?_
 rintro e w7 ⟨rfl, hb7⟩
 have hS1' : ((fun w' => Below U6.heap.size U6 w' ∧ VarAt gVA S.kind S.num (.slice aVA S.kids.length cVA) w' ∧ VarAt gU_ S.kind S.num (.slice aU_ S.kids.length cU_) w' ∧ VarAt gVY T.kind T.num (.slice aVY T.kids.length cVY) w' ∧ VarAt gV T.kind T.num (.slice aV T.kids.length cV) w' ∧ VarAt gVX X.kind X.num (.slice aVX X.kids.length cVX) w' ∧ VarAt gVO O.kind O.num (.slice aVO O.kids.length cVO) w')) _ := ⟨bAfter hS1.1 hb7, VarAt.below hS1.2.1 hb7, VarAt.below hS1.2.2.1 hb7, VarAt.below hS1.2.2.2.1 hb7, VarAt.below hS1.2.2.2.2.1 hb7, VarAt.below hS1.2.2.2.2.2.1 hb7, VarAt.below hS1.2.2.2.2.2.2 hb7⟩
 refine hK.out _ _ (ph_one (by kernel_rfl) hS1') ?_
 clear hK K hS1
 have hS1 := hS1'
 clear hS1'
 try simp only [Act.put, List.setIfInBounds_toArray, List.set_cons_zero, List.set_cons_succ]
 refine AnyTwo.takeAny HT12 (i := 16) (oi := { dst := some 95, op := _, type := _, pos := _, after := _, guard := _ }) (v := ?vz15) rfl (by kernel_rfl) (by kernel_rfl) (by decide +kernel) (by rfl) (fun _ _ _ h => h) (Or.inl ⟨by rfl, ?yz15⟩) (ph_one (by kernel_rfl) hS1) ?rz15
 case yz15 => (intro w hSw; (try dsimp only at hSw); go_simp; try (with_reducible rfl))
 try simp only [Act.put, List.setIfInBounds_toArray, List.set_cons_zero, List.set_cons_succ]
 refine AnyTwo.takeAny HT12 (i := 17) (oi := { dst := some 96, op := _, type := _, pos := _, after := _, guard := _ }) (v := ?vz16) rfl (by kernel_rfl) (by kernel_rfl) (by decide +kernel) (by rfl) (fun _ _ _ h => h) (Or.inl ⟨by rfl, ?yz16⟩) (ph_one (by kernel_rfl) hS1) ?rz16
 case yz16 => (intro w hSw; (try dsimp only at hSw); go_simp; try (with_reducible rfl))
 try simp only [Act.put, List.setIfInBounds_toArray, List.set_cons_zero, List.set_cons_succ]
 refine AnyTwo.takeAny HT12 (i := 18) (oi := { dst := some 97, op := _, type := _, pos := _, after := _, guard := _ }) (v := ?vz17) rfl (by kernel_rfl) (by kernel_rfl) (by decide +kernel) (by rfl) (fun _ _ _ h => h) (Or.inl ⟨by rfl, ?yz17⟩) (ph_one (by kernel_rfl) hS1) ?rz17
 case yz17 => (intro w hSw; (try dsimp only at hSw); obtain ⟨z9, y0, y1, y2, yf⟩ := VarAt.facts hSw.2.2.2.2.2.1; clear hSw; go_simp; try (with_reducible rfl))
 try simp only [Act.put, List.setIfInBounds_toArray, List.set_cons_zero, List.set_cons_succ]
 refine AnyTwo.takeAny HT12 (i := 20) (oi := { dst := some 99, op := _, type := _, pos := _, after := _, guard := _ }) (v := ?vz18) rfl (by kernel_rfl) (by kernel_rfl) (by decide +kernel) (by rfl) (fun _ _ _ h => h) (Or.inl ⟨by rfl, ?yz18⟩) (ph_one (by kernel_rfl) hS1) ?rz18
 case yz18 => (intro w hSw; (try dsimp only at hSw); obtain ⟨z9, y0, y1, y2, yf⟩ := VarAt.facts hSw.2.2.2.2.1; clear hSw; go_simp; try (with_reducible rfl))
 try simp only [Act.put, List.setIfInBounds_toArray, List.set_cons_zero, List.set_cons_succ]
 refine AnyTwo.takeAny HT12 (i := 22) (oi := { dst := some 101, op := _, type := _, pos := _, after := _, guard := _ }) (v := ?vz19) rfl (by kernel_rfl) (by kernel_rfl) (by decide +kernel) (by rfl) (fun _ _ _ h => h) (Or.inl ⟨by rfl, ?yz19⟩) (ph_one (by kernel_rfl) hS1) ?rz19
 case yz19 => (intro w hSw; (try dsimp only at hSw); obtain ⟨z9, y0, y1, y2, yf⟩ := VarAt.facts hSw.2.2.2.2.2.2; clear hSw; go_simp; try (with_reducible rfl))
 try simp only [Act.put, List.setIfInBounds_toArray, List.set_cons_zero, List.set_cons_succ]
 refine AnyTwo.takeAny HT12 (i := 25) (oi := { dst := some 104, op := _, type := _, pos := _, after := _, guard := _ }) (v := ?vz20) rfl (by kernel_rfl) (by kernel_rfl) (by decide +kernel) (by rfl) (fun _ _ _ h => h) (Or.inl ⟨by rfl, ?yz20⟩) (ph_one (by kernel_rfl) hS1) ?rz20
 case yz20 => (intro w hSw; (try dsimp only at hSw); obtain ⟨z9, y0, y1, y2, yf⟩ := VarAt.facts hSw.2.2.1; clear hSw; go_simp; try (with_reducible rfl))
 try simp only [Act.put, List.setIfInBounds_toArray, List.set_cons_zero, List.set_cons_succ]
 refine AnyTwo.step (i := 19) (o := { dst := some 98, op := _, type := _, pos := _, after := _, guard := _ }) (by kernel_rfl) rfl (fun K hK => ?_)
 go_simp
 refine (HCX.out _ _ ⟨_, rfl, VX.out.sl.below hS1.1⟩).mono ?_
 rintro e w7 ⟨rfl, hb7⟩
 have hS1' : ((fun w' => Below U6.heap.size U6 w' ∧ VarAt gVA S.kind S.num (.slice aVA S.kids.length cVA) w' ∧ VarAt gU_ S.kind S.num (.slice aU_ S.kids.length cU_) w' ∧ VarAt gVY T.kind T.num (.slice aVY T.kids.length cVY) w' ∧ VarAt gV T.kind T.num (.slice aV T.kids.length cV) w' ∧ VarAt gVX X.kind X.num (.slice aVX X.kids.length cVX) w' ∧ VarAt gVO O.kind O.num (.slice aVO O.kids.length cVO) w')) _ := ⟨bAfter hS1.1 hb7, VarAt.below hS1.2.1 hb7, VarAt.below hS1.2.2.1 hb7, VarAt.below hS1.2.2.2.1 hb7, VarAt.below hS1.2.2.2.2.1 hb7, VarAt.below hS1.2.2.2.2.2.1 hb7, VarAt.below hS1.2.2.2.2.2.2 hb7⟩
 refine hK.out _ _ (ph_one (by kernel_rfl) hS1') ?_
 clear hK K hS1
 have hS1 := hS1'
 clear hS1'
 try simp only [Act.put, List.setIfInBounds_toArray, List.set_cons_zero, List.set_cons_succ]
 refine AnyTwo.step (i := 21) (o := { dst := some 100, op := _, type := _, pos := _, after := _, guard := _ }) (by kernel_rfl) rfl (fun K hK => ?_)
 go_simp
 refine (HCT.out _ _ ⟨_, rfl, V.out.sl.below hS1.1⟩).mono ?_
 rintro e w7 ⟨rfl, hb7⟩
 have hS1' : ((fun w' => Below U6.heap.size U6 w' ∧ VarAt gVA S.kind S.num (.slice aVA S.kids.length cVA) w' ∧ VarAt gU_ S.kind S.num (.slice aU_ S.kids.length cU_) w' ∧ VarAt gVY T.kind T.num (.slice aVY T.kids.length cVY) w' ∧ VarAt gV T.kind T.num (.slice aV T.kids.length cV) w' ∧ VarAt gVX X.kind X.num (.slice aVX X.kids.length cVX) w' ∧ VarAt gVO O.kind O.num (.slice aVO O.kids.length cVO) w')) _ := ⟨bAfter hS1.1 hb7, VarAt.below hS1.2.1 hb7, VarAt.below hS1.2.2.1 hb7, VarAt.below hS1.2.2.2.1 hb7, VarAt.below hS1.2.2.2.2.1 hb7, VarAt.below hS1.2.2.2.2.2.1 hb7, VarAt.below hS1.2.2.2.2.2.2 hb7⟩
 refine hK.out _ _ (ph_one (by kernel_rfl) hS1') ?_
 clear hK K hS1
 have hS1 := hS1'
 clear hS1'
 try simp only [Act.put, List.setIfInBounds_toArray, List.set_cons_zero, List.set_cons_succ]
 refine AnyTwo.step (i := 23) (o := { dst := some 102, op := _, type := _, pos := _, after := _, guard := _ }) (by kernel_rfl) rfl (fun K hK => ?_)
 go_simp
 refine (HCO.out _ _ ⟨_, rfl, VO.out.sl.below hS1.1⟩).mono ?_
 rintro e w7 ⟨rfl, hb7⟩
 have hS1' : ((fun w' => Below U6.heap.size U6 w' ∧ VarAt gVA S.kind S.num (.slice aVA S.kids.length cVA) w' ∧ VarAt gU_ S.kind S.num (.slice aU_ S.kids.length cU_) w' ∧ VarAt gVY T.kind T.num (.slice aVY T.kids.length cVY) w' ∧ VarAt gV T.kind T.num (.slice aV T.kids.length cV) w' ∧ VarAt gVX X.kind X.num (.slice aVX X.kids.length cVX) w' ∧ VarAt gVO O.kind O.num (.slice aVO O.kids.length cVO) w')) _ := ⟨bAfter hS1.1 hb7, VarAt.below hS1.2.1 hb7, VarAt.below hS1.2.2.1 hb7, VarAt.below hS1.2.2.2.1 hb7, VarAt.below hS1.2.2.2.2.1 hb7, VarAt.below hS1.2.2.2.2.2.1 hb7, VarAt.below hS1.2.2.2.2.2.2 hb7⟩
 refine hK.out _ _ (ph_one (by kernel_rfl) hS1') ?_
 clear hK K hS1
 have hS1 := hS1'
 clear hS1'
 try simp only [Act.put, List.setIfInBounds_toArray, List.set_cons_zero, List.set_cons_succ]
 refine AnyTwo.takeAny HT12 (i := 24) (oi := { dst := some 103, op := _, type := _, pos := _, after := _, guard := _ }) (v := .int .i64 (sT - sO)) rfl (by kernel_rfl) (by kernel_rfl) (by decide +kernel) (by rfl) (fun _ _ _ h => h) (Or.inl ⟨by rfl, ?yz21⟩) (ph_one (by kernel_rfl) hS1) ?rz21
 case yz21 => (intro w hSw; (try dsimp only at hSw); go_simp; first | exact HW1.out | simp [HW1.out])
 try simp only [Act.put, List.setIfInBounds_toArray, List.set_cons_zero, List.set_cons_succ]
 refine AnyTwo.step (i := 26) (o := { dst := some 105, op := _, type := _, pos := _, after := _, guard := _ }) (by kernel_rfl) rfl (fun K hK => ?_)
 go_simp
 refine (HCS.out _ _ ⟨_, rfl, U_.out.sl.below hS1.1⟩).mono ?_
 rintro e w7 ⟨rfl, hb7⟩
 have hS1' : ((fun w' => Below U6.heap.size U6 w' ∧ VarAt gVA S.kind S.num (.slice aVA S.kids.length cVA) w' ∧ VarAt gU_ S.kind S.num (.slice aU_ S.kids.length cU_) w' ∧ VarAt gVY T.kind T.num (.slice aVY T.kids.length cVY) w' ∧ VarAt gV T.kind T.num (.slice aV T.kids.length cV) w' ∧ VarAt gVX X.kind X.num (.slice aVX X.kids.length cVX) w' ∧ VarAt gVO O.kind O.num (.slice aVO O.kids.length cVO) w')) _ := ⟨bAfter hS1.1 hb7, VarAt.below hS1.2.1 hb7, VarAt.below hS1.2.2.1 hb7, VarAt.below hS1.2.2.2.1 hb7, VarAt.below hS1.2.2.2.2.1 hb7, VarAt.below hS1.2.2.2.2.2.1 hb7, VarAt.below hS1.2.2.2.2.2.2 hb7⟩
 refine hK.out _ _ (ph_one (by kernel_rfl) hS1') ?_
 clear hK K hS1
 have hS1 := hS1'
 clear hS1'
 try simp only [Act.put, List.setIfInBounds_toArray, List.set_cons_zero, List.set_cons_succ]
 refine AnyTwo.takeAny HT12 (i := 27) (oi := { dst := some 106, op := _, type := _, pos := _, after := _, guard := _ }) (v := .int .i64 (sT - sO + sS)) rfl (by kernel_rfl) (by kernel_rfl) (by decide +kernel) (by rfl) (fun _ _ _ h => h) (Or.inl ⟨by rfl, ?yz22⟩) (ph_one (by kernel_rfl) hS1) ?rz22
 case yz22 => (intro w hSw; (try dsimp only at hSw); go_simp; first | exact HW2.out | simp [HW2.out])
 try simp only [Act.put, List.setIfInBounds_toArray, List.set_cons_zero, List.set_cons_succ]
 refine AnyTwo.takeAny HT12 (i := 28) (oi := { dst := some 107, op := _, type := _, pos := _, after := _, guard := _ }) (v := .bool true) rfl (by kernel_rfl) (by kernel_rfl) (by decide +kernel) (by rfl) (fun _ _ _ h => h) (Or.inl ⟨by rfl, ?yz23⟩) (ph_one (by kernel_rfl) hS1) ?rz23
 case yz23 => (intro w hSw; (try dsimp only at hSw); go_simp; first | exact HEQ.out | simp [HEQ.out])
 try simp only [Act.put, List.setIfInBounds_toArray, List.set_cons_zero, List.set_cons_succ]
 refine AnyTwo.takeAny HT12 (i := 29) (oi := { dst := some 108, op := _, type := _, pos := _, after := _, guard := _ }) (v := ?vz24) rfl (by kernel_rfl) (by kernel_rfl) (by decide +kernel) (by rfl) (fun _ _ _ h => h) (Or.inl ⟨by rfl, ?yz24⟩) (ph_one (by kernel_rfl) hS1) ?rz24
 case yz24 => (intro w hSw; (try dsimp only at hSw); go_simp; try (with_reducible rfl))
 try simp only [Act.put, List.setIfInBounds_toArray, List.set_cons_zero, List.set_cons_succ]
 refine AnyTwo.step (i := 30) (o := { dst := some 2, op := _, type := _, pos := _, after := _, guard := _ }) (by kernel_rfl) rfl (fun K hK => ?_)
 go_simp
 refine hK.out _ _ (ph_end (by kernel_rfl) hS1) ?_
 clear hK K
 try simp only [Act.put, List.setIfInBounds_toArray, List.set_cons_zero, List.set_cons_succ]
 refine AnyTwo.done (by kernel_rfl) ?_ _
 clear HT12
 have hb := hS1.1
 replace HB := tuck (bAfter HB.out hb)
 clear hb hS1
 go_wp2_with fail
 go_ret
 exact ⟨rfl, HB.out⟩
set_option maxRecDepth 100000 in
theorem lifted (os : Os) (started : os.Started) (H : Type) (enc : TypeId × Value → H) :
  ReturnsInHanded {} Tryz.checked os 5 .any (Rows.fnPutAtSpec.pre6 enc Tryz.prog Tryz.f5 Rows.fnPutAtRow.domain false) (Rows.fnPutAtSpec.post enc Tryz.prog Tryz.f5 false true false false) := by
 refine returnsInHanded_of_change (C := Tryz.checked) own started (by kernel_rfl) Tryz.func5
  (ChangeSpec.witness6 (enc := enc) (C := Tryz.checked) false ⟨#[], #[.slice none 0 0], []⟩ 8 (by kernel_rfl) (by kernel_rfl) (by kernel_rfl) (by kernel_rfl)) ?_
 intro W base args ds gs before hval0 hW hcnd _
 have hval : ∀ (j : Nat) t v, Tryz.f5.params[j]? = some t → args[j]? = some v → Value.okWide Tryz.prog W .any base t v := hval0
 have hW' := hW
 obtain ⟨p, q, hA0, hV, rfl, hfz, hnd⟩ := hW
 have hA : DataW.TrodAll enc Tryz.prog W 0 (fun _ => true) true Tryz.f5.params.toList args.toList ds p := hA0
 rw [Tryz.params5] at hA hval
 obtain ⟨v0, vs0, d0, ds0, p0, q0, hargs, rfl, rfl, h0, r0⟩ := trodAll_cons hA
 obtain ⟨rfl, rfl, rfl⟩ := trodAll_nil r0
 obtain rfl : args = #[v0] := by cases args; simp_all
 obtain ⟨U0, ad0, bb0, oo0, len0, cap0, rfl, hlc0, hcm0, hbl0, hby0⟩ := open_bytes (hval 0 43 v0 rfl rfl) h0
 refine (walk U0 ad0 bb0 oo0 len0 cap0 W hlc0 hcm0 hby0).mono fun e W' ⟨he, hb⟩ => ?_
 subst he
 exact ⟨_, rfl, law_post rfl rfl (fun gs h => by subst h; rfl) (by rw [Tryz.params5]; exact readable_FnPutAt) laid hW' hb⟩
theorem over : Rows.fnPutAtRow.holds Tryz.pinned (OpenSpec.ofChange Rows.fnPutAtSpec) :=
 OpenClaim.holds_of_wide 5 Tryz.f5 rfl rfl rfl rfl rfl rfl rfl ⟨rfl, rfl, rfl, rfl, rfl⟩ rfl rfl rfl rfl rfl (by kernel_rfl) Tryz.func5 (by kernel_rfl)
  (of_decide_eq_true (by kernel_rfl)) (by unfold Func.isWrapper; first | (rw [if_pos (by decide +kernel)]; kernel_rfl) | (rw [if_neg (by decide +kernel)]; exact ⟨rfl, rfl⟩))
  (fun os started H enc _ => lifted os started H enc)
theorem proved : Rows.FnPutAtSaid :=
 over
end Go.Proofs.YtihlbbbajaepoaaGreat.fnPutAt
