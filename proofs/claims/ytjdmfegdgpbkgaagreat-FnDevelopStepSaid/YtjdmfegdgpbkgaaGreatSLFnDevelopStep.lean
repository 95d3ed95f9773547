/-
  The law FnDevelopStep: whatever the bytes, a term and its step lead to the same normal term when they are developed.
-/
import Derived.Test.YtjdmfegdgpbkgaaGreatS17
import Derived.Test.YtjdmfegdgpbkgaaGreatS36
import Derived.Test.YtjdmfegdgpbkgaaGreatS54
import Derived.IntWalk
namespace Go.Proofs.YtjdmfegdgpbkgaaGreat.fnDevelopStep
open Go.ChangeShapes Go.WideShapes Go.ChangeAt Go.RowKit Go.Deep
set_option linter.unusedVariables false
theorem readable_FnDevelopStep : ∀ t ∈ (#[22] : Array TypeId).toList, Tryz.prog.readableRec t = true ∧ t < Tryz.prog.types.size := by
 intro t ht
 simp at ht
 subst ht
 exact ⟨by kernel_rfl, of_decide_eq_true (by kernel_rfl)⟩
theorem laid : laidOutB Tryz.prog = true := by kernel_rfl
set_option maxRecDepth 100000 in
set_option maxHeartbeats 1600000 in
theorem walk (U : Nat → Int) (a : Option Addr) (b o len cap : Nat) (w : World) (hlc : len ≤ cap) (hcm : cap ≤ maxLen) (hby : Bytes U a b o len w) : Calls Tryz.prog 3 #[.slice a len cap] w fun e w' => e = .returned (.bool true) ∧ Below w.heap.size w w' := by
 unfold maxLen at hcm
 by_cases hl : 1048576 < len
 ·have hl' : (1048576 : Int) < (len : Int) := by omega
  clear hby
  go_enter Tryz.func3, Tryz.ntmps3
  go_wp2
  go_ret
  exact ⟨rfl, Below.refl _ _⟩
 have hl' : ¬ (1048576 : Int) < (len : Int) := by omega
 have HD := tuck (dDevelopTerm_any w (by omega) hlc hby)
 clear hby
 go_enter Tryz.func3, Tryz.ntmps3
 go_wp2_with fail
 refine HD.out.mono ?_
 rintro e w1 ⟨T, v, rfl, ⟨s, rfl, hin⟩, hsz, hb⟩
 obtain ⟨aV, cV, rfl⟩ := hin.form
 have V := tuck (TV.new (hin.mono (Nat.zero_le _)))
 have HB := tuck (bAfter hb (below1 w1 (.cells #[.int .i64 T.kind, .int .i64 T.num, .slice aV T.kids.length cV] 25)))
 have HSZ : Hid (sizes T.kids ≤ 1048576) := tuck (by have := T.size_eq; omega)
 clear hin hb HD hsz
 go_wp2_with fail
 generalize w1.alloc (.cells #[.int .i64 T.kind, .int .i64 T.num, .slice aV T.kids.length cV] 25) = U0 at *
 generalize w1.heap.size = gV at *
 by_cases hP : DevOk T
 rotate_left
 ·obtain ⟨X, hX⟩ : ∃ X, X = zeroT := ⟨_, rfl⟩
  have HIM : Hid (∀ (w : World) (v : Value), TmIn w 0 T v → Calls Tryz.prog 6 #[v] w (PairPost w X false)) := fun w v h => by
   have h2 := (developI_any T w v h).mono fun _ _ h => h.pair; rwa [orZero_no hP, tr_not hP, ← hX] at h2
  have HSP : Hid (∀ (w : World) (v : Value), TmIn w 0 T v → Calls Tryz.prog 7 #[v] w (PairPost w X false)) := fun w v h => by
   have h2 := (developS_any T w v h).mono fun _ _ h => h.pair; rwa [orZero_no hP, tr_not hP, ← hX] at h2
  have HTS : Hid (∀ (w : World) (v1 v2 : Value), TmIn w 0 X v1 → TmIn w 0 X v2 → Calls Tryz.prog 9 #[v1, v2] w (BoolPost w true)) := fun w v1 v2 h1 h2 => by rw [hX] at h1 h2; exact same_z w v1 v2 h1 h2
  obtain ⟨k, hk⟩ : ∃ k, k = (stepOut true false T).2 := ⟨_, rfl⟩
  obtain ⟨S, hS⟩ : ∃ S, S = (stepOut true false T).1 := ⟨_, rfl⟩
  have HSI : Hid (∀ (w : World) (v : Value), TmIn w 0 T v → Calls Tryz.prog 8 #[v] w (SCodePost w k S)) := fun w v h => by
   have h2 := stepN_p T w v h; rwa [← hk, ← hS] at h2
  clear hX hP hk hS
  refine (HIM.out _ _ V.out.tm).mono ?_
  rintro e u21 ⟨hb, vv, rfl, ss, rfl, hin⟩
  obtain ⟨aVX, cVX, rfl⟩ := hin.form
  replace V := tuck (V.out.below hb)
  replace HB := tuck (bAfter HB.out hb)
  have HNVX := tuck hin
  clear hb hin
  obtain ⟨zV, c0V, c1V, c2V, cfV⟩ := V.out.facts
  go_wp2_with fail
  clear zV c0V c1V c2V cfV
  have VX := tuck (TV.new HNVX.out)
  have hb := below1 u21 (.cells #[.int .i64 X.kind, .int .i64 X.num, .slice aVX X.kids.length cVX] 25)
  replace V := tuck (V.out.below hb)
  replace HB := tuck (bAfter HB.out hb)
  clear hb HNVX
  generalize u21.alloc (.cells #[.int .i64 X.kind, .int .i64 X.num, .slice aVX X.kids.length cVX] 25) = U21 at *
  generalize u21.heap.size = gVX at *
  refine (HSP.out _ _ V.out.tm).mono ?_
  rintro e u22 ⟨hb, vv, rfl, ss, rfl, hin⟩
  obtain ⟨aVW, cVW, rfl⟩ := hin.form
  replace V := tuck (V.out.below hb)
  replace VX := tuck (VX.out.below hb)
  replace HB := tuck (bAfter HB.out hb)
  have HNVW := tuck hin
  clear hb hin
  obtain ⟨zV, c0V, c1V, c2V, cfV⟩ := V.out.facts
  obtain ⟨zVX, c0VX, c1VX, c2VX, cfVX⟩ := VX.out.facts
  go_wp2_with fail
  clear zV c0V c1V c2V cfV zVX c0VX c1VX c2VX cfVX
  have VW := tuck (TV.new HNVW.out)
  have hb := below1 u22 (.cells #[.int .i64 X.kind, .int .i64 X.num, .slice aVW X.kids.length cVW] 25)
  replace V := tuck (V.out.below hb)
  replace VX := tuck (VX.out.below hb)
  replace HB := tuck (bAfter HB.out hb)
  clear hb HNVW
  generalize u22.alloc (.cells #[.int .i64 X.kind, .int .i64 X.num, .slice aVW X.kids.length cVW] 25) = U22 at *
  generalize u22.heap.size = gVW at *
  refine (HSI.out _ _ V.out.tm).mono ?_
  rintro e u23 ⟨hb, vv, rfl, ss, rfl, hin⟩
  obtain ⟨aVS, cVS, rfl⟩ := hin.form
  replace V := tuck (V.out.below hb)
  replace VX := tuck (VX.out.below hb)
  replace VW := tuck (VW.out.below hb)
  replace HB := tuck (bAfter HB.out hb)
  have HNVS := tuck hin
  clear hb hin
  obtain ⟨zV, c0V, c1V, c2V, cfV⟩ := V.out.facts
  obtain ⟨zVX, c0VX, c1VX, c2VX, cfVX⟩ := VX.out.facts
  obtain ⟨zVW, c0VW, c1VW, c2VW, cfVW⟩ := VW.out.facts
  go_wp2_with fail
  clear zV c0V c1V c2V cfV zVX c0VX c1VX c2VX cfVX zVW c0VW c1VW c2VW cfVW
  have VS := tuck (TV.new HNVS.out)
  have hb := below1 u23 (.cells #[.int .i64 S.kind, .int .i64 S.num, .slice aVS S.kids.length cVS] 25)
  replace V := tuck (V.out.below hb)
  replace VX := tuck (VX.out.below hb)
  replace VW := tuck (VW.out.below hb)
  replace HB := tuck (bAfter HB.out hb)
  clear hb HNVS
  generalize u23.alloc (.cells #[.int .i64 S.kind, .int .i64 S.num, .slice aVS S.kids.length cVS] 25) = U23 at *
  generalize u23.heap.size = gVS at *
  refine (HTS.out _ _ _ VX.out.tm VW.out.tm).mono ?_
  rintro e u24 ⟨rfl, hb⟩
  replace V := tuck (V.out.below hb)
  replace VX := tuck (VX.out.below hb)
  replace VW := tuck (VW.out.below hb)
  replace VS := tuck (VS.out.below hb)
  replace HB := tuck (bAfter HB.out hb)
  clear hb
  obtain ⟨zV, c0V, c1V, c2V, cfV⟩ := V.out.facts
  obtain ⟨zVX, c0VX, c1VX, c2VX, cfVX⟩ := VX.out.facts
  obtain ⟨zVW, c0VW, c1VW, c2VW, cfVW⟩ := VW.out.facts
  obtain ⟨zVS, c0VS, c1VS, c2VS, cfVS⟩ := VS.out.facts
  go_wp2_with fail
  refine (HTS.out _ _ _ VX.out.tm VW.out.tm).mono ?_
  rintro e u25 ⟨rfl, hb⟩
  clear zV c0V c1V c2V cfV zVX c0VX c1VX c2VX cfVX zVW c0VW c1VW c2VW cfVW zVS c0VS c1VS c2VS cfVS
  replace V := tuck (V.out.below hb)
  replace VX := tuck (VX.out.below hb)
  replace VW := tuck (VW.out.below hb)
  replace VS := tuck (VS.out.below hb)
  replace HB := tuck (bAfter HB.out hb)
  clear hb
  obtain ⟨zV, c0V, c1V, c2V, cfV⟩ := V.out.facts
  obtain ⟨zVX, c0VX, c1VX, c2VX, cfVX⟩ := VX.out.facts
  obtain ⟨zVW, c0VW, c1VW, c2VW, cfVW⟩ := VW.out.facts
  obtain ⟨zVS, c0VS, c1VS, c2VS, cfVS⟩ := VS.out.facts
  go_wp2_with fail
  go_ret
  exact ⟨rfl, HB.out⟩
 obtain ⟨X, hX⟩ : ∃ X, X = T.dev := ⟨_, rfl⟩
 have hpar : T.par X := hX ▸ dev_par hP
 have hXV : X.Valid := hX ▸ dev_valid hP
 have hv := hP.1
 have HIM : Hid (∀ (w : World) (v : Value), TmIn w 0 T v → Calls Tryz.prog 6 #[v] w (PairPost w X true)) := fun w v h => by
  have h2 := (developI_any T w v h).mono fun _ _ h => h.pair; rwa [orZero_yes hP, tr_of hP, ← hX] at h2
 have HSP : Hid (∀ (w : World) (v : Value), TmIn w 0 T v → Calls Tryz.prog 7 #[v] w (PairPost w X true)) := fun w v h => by
  have h2 := (developS_any T w v h).mono fun _ _ h => h.pair; rwa [orZero_yes hP, tr_of hP, ← hX] at h2
 have HTS : Hid (∀ (w : World) (v1 v2 : Value), TmIn w 0 X v1 → TmIn w 0 X v2 → Calls Tryz.prog 9 #[v1, v2] w (BoolPost w true)) := same_v hXV
 cases hs : T.step true false with
 | none =>
  have HSI : Hid (∀ (w : World) (v : Value), TmIn w 0 T v → Calls Tryz.prog 8 #[v] w (SCodePost w 0 T)) := fun w v h => by
   have h2 := stepN_p T w v h; rwa [stepOut_none hv hs] at h2
  clear hs hpar hXV hX hP hv
  refine (HIM.out _ _ V.out.tm).mono ?_
  rintro e u21 ⟨hb, vv, rfl, ss, rfl, hin⟩
  obtain ⟨aVX, cVX, rfl⟩ := hin.form
  replace V := tuck (V.out.below hb)
  replace HB := tuck (bAfter HB.out hb)
  have HNVX := tuck hin
  clear hb hin
  obtain ⟨zV, c0V, c1V, c2V, cfV⟩ := V.out.facts
  go_wp2_with fail
  clear zV c0V c1V c2V cfV
  have VX := tuck (TV.new HNVX.out)
  have hb := below1 u21 (.cells #[.int .i64 X.kind, .int .i64 X.num, .slice aVX X.kids.length cVX] 25)
  replace V := tuck (V.out.below hb)
  replace HB := tuck (bAfter HB.out hb)
  clear hb HNVX
  generalize u21.alloc (.cells #[.int .i64 X.kind, .int .i64 X.num, .slice aVX X.kids.length cVX] 25) = U21 at *
  generalize u21.heap.size = gVX at *
  refine (HSP.out _ _ V.out.tm).mono ?_
  rintro e u22 ⟨hb, vv, rfl, ss, rfl, hin⟩
  obtain ⟨aVW, cVW, rfl⟩ := hin.form
  replace V := tuck (V.out.below hb)
  replace VX := tuck (VX.out.below hb)
  replace HB := tuck (bAfter HB.out hb)
  have HNVW := tuck hin
  clear hb hin
  obtain ⟨zV, c0V, c1V, c2V, cfV⟩ := V.out.facts
  obtain ⟨zVX, c0VX, c1VX, c2VX, cfVX⟩ := VX.out.facts
  go_wp2_with fail
  clear zV c0V c1V c2V cfV zVX c0VX c1VX c2VX cfVX
  have VW := tuck (TV.new HNVW.out)
  have hb := below1 u22 (.cells #[.int .i64 X.kind, .int .i64 X.num, .slice aVW X.kids.length cVW] 25)
  replace V := tuck (V.out.below hb)
  replace VX := tuck (VX.out.below hb)
  replace HB := tuck (bAfter HB.out hb)
  clear hb HNVW
  generalize u22.alloc (.cells #[.int .i64 X.kind, .int .i64 X.num, .slice aVW X.kids.length cVW] 25) = U22 at *
  generalize u22.heap.size = gVW at *
  refine (HSI.out _ _ V.out.tm).mono ?_
  rintro e u23 ⟨hb, vv, rfl, ss, rfl, hin⟩
  obtain ⟨aVS, cVS, rfl⟩ := hin.form
  replace V := tuck (V.out.below hb)
  replace VX := tuck (VX.out.below hb)
  replace VW := tuck (VW.out.below hb)
  replace HB := tuck (bAfter HB.out hb)
  have HNVS := tuck hin
  clear hb hin
  obtain ⟨zV, c0V, c1V, c2V, cfV⟩ := V.out.facts
  obtain ⟨zVX, c0VX, c1VX, c2VX, cfVX⟩ := VX.out.facts
  obtain ⟨zVW, c0VW, c1VW, c2VW, cfVW⟩ := VW.out.facts
  go_wp2_with fail
  clear zV c0V c1V c2V cfV zVX c0VX c1VX c2VX cfVX zVW c0VW c1VW c2VW cfVW
  have VS := tuck (TV.new HNVS.out)
  have hb := below1 u23 (.cells #[.int .i64 T.kind, .int .i64 T.num, .slice aVS T.kids.length cVS] 25)
  replace V := tuck (V.out.below hb)
  replace VX := tuck (VX.out.below hb)
  replace VW := tuck (VW.out.below hb)
  replace HB := tuck (bAfter HB.out hb)
  clear hb HNVS
  generalize u23.alloc (.cells #[.int .i64 T.kind, .int .i64 T.num, .slice aVS T.kids.length cVS] 25) = U23 at *
  generalize u23.heap.size = gVS at *
  refine (HTS.out _ _ _ VX.out.tm VW.out.tm).mono ?_
  rintro e u24 ⟨rfl, hb⟩
  replace V := tuck (V.out.below hb)
  replace VX := tuck (VX.out.below hb)
  replace VW := tuck (VW.out.below hb)
  replace VS := tuck (VS.out.below hb)
  replace HB := tuck (bAfter HB.out hb)
  clear hb
  obtain ⟨zV, c0V, c1V, c2V, cfV⟩ := V.out.facts
  obtain ⟨zVX, c0VX, c1VX, c2VX, cfVX⟩ := VX.out.facts
  obtain ⟨zVW, c0VW, c1VW, c2VW, cfVW⟩ := VW.out.facts
  obtain ⟨zVS, c0VS, c1VS, c2VS, cfVS⟩ := VS.out.facts
  go_wp2_with fail
  refine (HTS.out _ _ _ VX.out.tm VW.out.tm).mono ?_
  rintro e u25 ⟨rfl, hb⟩
  clear zV c0V c1V c2V cfV zVX c0VX c1VX c2VX cfVX zVW c0VW c1VW c2VW cfVW zVS c0VS c1VS c2VS cfVS
  replace V := tuck (V.out.below hb)
  replace VX := tuck (VX.out.below hb)
  replace VW := tuck (VW.out.below hb)
  replace VS := tuck (VS.out.below hb)
  replace HB := tuck (bAfter HB.out hb)
  clear hb
  obtain ⟨zV, c0V, c1V, c2V, cfV⟩ := V.out.facts
  obtain ⟨zVX, c0VX, c1VX, c2VX, cfVX⟩ := VX.out.facts
  obtain ⟨zVW, c0VW, c1VW, c2VW, cfVW⟩ := VW.out.facts
  obtain ⟨zVS, c0VS, c1VS, c2VS, cfVS⟩ := VS.out.facts
  go_wp2_with fail
  go_ret
  exact ⟨rfl, HB.out⟩
 | some S =>
  by_cases hl : S.Valid
  rotate_left
  ·obtain ⟨Z, hZ⟩ : ∃ Z, Z = zeroT := ⟨_, rfl⟩
   have HSI : Hid (∀ (w : World) (v : Value), TmIn w 0 T v → Calls Tryz.prog 8 #[v] w (SCodePost w 2 Z)) := fun w v h => by
    have h2 := stepN_p T w v h; rwa [stepOut_large hv hs hl, ← hZ] at h2
   clear hs hl hpar hXV hX hP hv hZ
   refine (HIM.out _ _ V.out.tm).mono ?_
   rintro e u21 ⟨hb, vv, rfl, ss, rfl, hin⟩
   obtain ⟨aVX, cVX, rfl⟩ := hin.form
   replace V := tuck (V.out.below hb)
   replace HB := tuck (bAfter HB.out hb)
   have HNVX := tuck hin
   clear hb hin
   obtain ⟨zV, c0V, c1V, c2V, cfV⟩ := V.out.facts
   go_wp2_with fail
   clear zV c0V c1V c2V cfV
   have VX := tuck (TV.new HNVX.out)
   have hb := below1 u21 (.cells #[.int .i64 X.kind, .int .i64 X.num, .slice aVX X.kids.length cVX] 25)
   replace V := tuck (V.out.below hb)
   replace HB := tuck (bAfter HB.out hb)
   clear hb HNVX
   generalize u21.alloc (.cells #[.int .i64 X.kind, .int .i64 X.num, .slice aVX X.kids.length cVX] 25) = U21 at *
   generalize u21.heap.size = gVX at *
   refine (HSP.out _ _ V.out.tm).mono ?_
   rintro e u22 ⟨hb, vv, rfl, ss, rfl, hin⟩
   obtain ⟨aVW, cVW, rfl⟩ := hin.form
   replace V := tuck (V.out.below hb)
   replace VX := tuck (VX.out.below hb)
   replace HB := tuck (bAfter HB.out hb)
   have HNVW := tuck hin
   clear hb hin
   obtain ⟨zV, c0V, c1V, c2V, cfV⟩ := V.out.facts
   obtain ⟨zVX, c0VX, c1VX, c2VX, cfVX⟩ := VX.out.facts
   go_wp2_with fail
   clear zV c0V c1V c2V cfV zVX c0VX c1VX c2VX cfVX
   have VW := tuck (TV.new HNVW.out)
   have hb := below1 u22 (.cells #[.int .i64 X.kind, .int .i64 X.num, .slice aVW X.kids.length cVW] 25)
   replace V := tuck (V.out.below hb)
   replace VX := tuck (VX.out.below hb)
   replace HB := tuck (bAfter HB.out hb)
   clear hb HNVW
   generalize u22.alloc (.cells #[.int .i64 X.kind, .int .i64 X.num, .slice aVW X.kids.length cVW] 25) = U22 at *
   generalize u22.heap.size = gVW at *
   refine (HSI.out _ _ V.out.tm).mono ?_
   rintro e u23 ⟨hb, vv, rfl, ss, rfl, hin⟩
   obtain ⟨aVS, cVS, rfl⟩ := hin.form
   replace V := tuck (V.out.below hb)
   replace VX := tuck (VX.out.below hb)
   replace VW := tuck (VW.out.below hb)
   replace HB := tuck (bAfter HB.out hb)
   have HNVS := tuck hin
   clear hb hin
   obtain ⟨zV, c0V, c1V, c2V, cfV⟩ := V.out.facts
   obtain ⟨zVX, c0VX, c1VX, c2VX, cfVX⟩ := VX.out.facts
   obtain ⟨zVW, c0VW, c1VW, c2VW, cfVW⟩ := VW.out.facts
   go_wp2_with fail
   clear zV c0V c1V c2V cfV zVX c0VX c1VX c2VX cfVX zVW c0VW c1VW c2VW cfVW
   have VS := tuck (TV.new HNVS.out)
   have hb := below1 u23 (.cells #[.int .i64 Z.kind, .int .i64 Z.num, .slice aVS Z.kids.length cVS] 25)
   replace V := tuck (V.out.below hb)
   replace VX := tuck (VX.out.below hb)
   replace VW := tuck (VW.out.below hb)
   replace HB := tuck (bAfter HB.out hb)
   clear hb HNVS
   generalize u23.alloc (.cells #[.int .i64 Z.kind, .int .i64 Z.num, .slice aVS Z.kids.length cVS] 25) = U23 at *
   generalize u23.heap.size = gVS at *
   refine (HTS.out _ _ _ VX.out.tm VW.out.tm).mono ?_
   rintro e u24 ⟨rfl, hb⟩
   replace V := tuck (V.out.below hb)
   replace VX := tuck (VX.out.below hb)
   replace VW := tuck (VW.out.below hb)
   replace VS := tuck (VS.out.below hb)
   replace HB := tuck (bAfter HB.out hb)
   clear hb
   obtain ⟨zV, c0V, c1V, c2V, cfV⟩ := V.out.facts
   obtain ⟨zVX, c0VX, c1VX, c2VX, cfVX⟩ := VX.out.facts
   obtain ⟨zVW, c0VW, c1VW, c2VW, cfVW⟩ := VW.out.facts
   obtain ⟨zVS, c0VS, c1VS, c2VS, cfVS⟩ := VS.out.facts
   go_wp2_with fail
   refine (HTS.out _ _ _ VX.out.tm VW.out.tm).mono ?_
   rintro e u25 ⟨rfl, hb⟩
   clear zV c0V c1V c2V cfV zVX c0VX c1VX c2VX cfVX zVW c0VW c1VW c2VW cfVW zVS c0VS c1VS c2VS cfVS
   replace V := tuck (V.out.below hb)
   replace VX := tuck (VX.out.below hb)
   replace VW := tuck (VW.out.below hb)
   replace VS := tuck (VS.out.below hb)
   replace HB := tuck (bAfter HB.out hb)
   clear hb
   obtain ⟨zV, c0V, c1V, c2V, cfV⟩ := V.out.facts
   obtain ⟨zVX, c0VX, c1VX, c2VX, cfVX⟩ := VX.out.facts
   obtain ⟨zVW, c0VW, c1VW, c2VW, cfVW⟩ := VW.out.facts
   obtain ⟨zVS, c0VS, c1VS, c2VS, cfVS⟩ := VS.out.facts
   go_wp2_with fail
   go_ret
   exact ⟨rfl, HB.out⟩
  have HSI : Hid (∀ (w : World) (v : Value), TmIn w 0 T v → Calls Tryz.prog 8 #[v] w (SCodePost w 1 S)) := fun w v h => by
   have h2 := stepN_p T w v h; rwa [stepOut_took hv hs hl] at h2
  have hst : T.par S := Tm.step_par T S hs
  obtain ⟨c1, hc1⟩ : ∃ q0, q0 = normC false false X 200 := ⟨_, rfl⟩
  obtain ⟨X1, hX1⟩ : ∃ Q, Q = normT false false X 200 := ⟨_, rfl⟩
  have H1 : Hid (∀ (w : World) (v : Value), TmIn w 0 X v → Calls Tryz.prog 10 #[v, .int .i64 200] w (SCodePost w c1 X1)) := fun w v h => by
   have h2 := normI_p X 200 w v h; rwa [← hc1, ← hX1] at h2
  by_cases hQ : DevOk S
  rotate_left
  ·obtain ⟨Y, hY⟩ : ∃ Y, Y = zeroT := ⟨_, rfl⟩
   have H3 : Hid (∀ (w : World) (v : Value), TmIn w 0 S v → Calls Tryz.prog 6 #[v] w (PairPost w Y false)) := fun w v h => by
    have h2 := (developI_any S w v h).mono fun _ _ h => h.pair; rwa [orZero_no hQ, tr_not hQ, ← hY] at h2
   obtain ⟨c2, hc2⟩ : ∃ q0, q0 = normC false false Y 200 := ⟨_, rfl⟩
   obtain ⟨X2, hX2⟩ : ∃ Q, Q = normT false false Y 200 := ⟨_, rfl⟩
   have H2 : Hid (∀ (w : World) (v : Value), TmIn w 0 Y v → Calls Tryz.prog 10 #[v, .int .i64 200] w (SCodePost w c2 X2)) := fun w v h => by
    have h2 := normI_p Y 200 w v h; rwa [← hc2, ← hX2] at h2
   clear hs hl hpar hXV hX hP hv hQ hY hst hc1 hX1 hc2 hX2
   refine (HIM.out _ _ V.out.tm).mono ?_
   rintro e u21 ⟨hb, vv, rfl, ss, rfl, hin⟩
   obtain ⟨aVX, cVX, rfl⟩ := hin.form
   replace V := tuck (V.out.below hb)
   replace HB := tuck (bAfter HB.out hb)
   have HNVX := tuck hin
   clear hb hin
   obtain ⟨zV, c0V, c1V, c2V, cfV⟩ := V.out.facts
   go_wp2_with fail
   clear zV c0V c1V c2V cfV
   have VX := tuck (TV.new HNVX.out)
   have hb := below1 u21 (.cells #[.int .i64 X.kind, .int .i64 X.num, .slice aVX X.kids.length cVX] 25)
   replace V := tuck (V.out.below hb)
   replace HB := tuck (bAfter HB.out hb)
   clear hb HNVX
   generalize u21.alloc (.cells #[.int .i64 X.kind, .int .i64 X.num, .slice aVX X.kids.length cVX] 25) = U21 at *
   generalize u21.heap.size = gVX at *
   refine (HSP.out _ _ V.out.tm).mono ?_
   rintro e u22 ⟨hb, vv, rfl, ss, rfl, hin⟩
   obtain ⟨aVW, cVW, rfl⟩ := hin.form
   replace V := tuck (V.out.below hb)
   replace VX := tuck (VX.out.below hb)
   replace HB := tuck (bAfter HB.out hb)
   have HNVW := tuck hin
   clear hb hin
   obtain ⟨zV, c0V, c1V, c2V, cfV⟩ := V.out.facts
   obtain ⟨zVX, c0VX, c1VX, c2VX, cfVX⟩ := VX.out.facts
   go_wp2_with fail
   clear zV c0V c1V c2V cfV zVX c0VX c1VX c2VX cfVX
   have VW := tuck (TV.new HNVW.out)
   have hb := below1 u22 (.cells #[.int .i64 X.kind, .int .i64 X.num, .slice aVW X.kids.length cVW] 25)
   replace V := tuck (V.out.below hb)
   replace VX := tuck (VX.out.below hb)
   replace HB := tuck (bAfter HB.out hb)
   clear hb HNVW
   generalize u22.alloc (.cells #[.int .i64 X.kind, .int .i64 X.num, .slice aVW X.kids.length cVW] 25) = U22 at *
   generalize u22.heap.size = gVW at *
   refine (HSI.out _ _ V.out.tm).mono ?_
   rintro e u23 ⟨hb, vv, rfl, ss, rfl, hin⟩
   obtain ⟨aVS, cVS, rfl⟩ := hin.form
   replace V := tuck (V.out.below hb)
   replace VX := tuck (VX.out.below hb)
   replace VW := tuck (VW.out.below hb)
   replace HB := tuck (bAfter HB.out hb)
   have HNVS := tuck hin
   clear hb hin
   obtain ⟨zV, c0V, c1V, c2V, cfV⟩ := V.out.facts
   obtain ⟨zVX, c0VX, c1VX, c2VX, cfVX⟩ := VX.out.facts
   obtain ⟨zVW, c0VW, c1VW, c2VW, cfVW⟩ := VW.out.facts
   go_wp2_with fail
   clear zV c0V c1V c2V cfV zVX c0VX c1VX c2VX cfVX zVW c0VW c1VW c2VW cfVW
   have VS := tuck (TV.new HNVS.out)
   have hb := below1 u23 (.cells #[.int .i64 S.kind, .int .i64 S.num, .slice aVS S.kids.length cVS] 25)
   replace V := tuck (V.out.below hb)
   replace VX := tuck (VX.out.below hb)
   replace VW := tuck (VW.out.below hb)
   replace HB := tuck (bAfter HB.out hb)
   clear hb HNVS
   generalize u23.alloc (.cells #[.int .i64 S.kind, .int .i64 S.num, .slice aVS S.kids.length cVS] 25) = U23 at *
   generalize u23.heap.size = gVS at *
   refine (HTS.out _ _ _ VX.out.tm VW.out.tm).mono ?_
   rintro e u24 ⟨rfl, hb⟩
   replace V := tuck (V.out.below hb)
   replace VX := tuck (VX.out.below hb)
   replace VW := tuck (VW.out.below hb)
   replace VS := tuck (VS.out.below hb)
   replace HB := tuck (bAfter HB.out hb)
   clear hb
   obtain ⟨zV, c0V, c1V, c2V, cfV⟩ := V.out.facts
   obtain ⟨zVX, c0VX, c1VX, c2VX, cfVX⟩ := VX.out.facts
   obtain ⟨zVW, c0VW, c1VW, c2VW, cfVW⟩ := VW.out.facts
   obtain ⟨zVS, c0VS, c1VS, c2VS, cfVS⟩ := VS.out.facts
   go_wp2_with fail
   refine (H3.out _ _ VS.out.tm).mono ?_
   rintro e u25 ⟨hb, vv, rfl, ss, rfl, hin⟩
   obtain ⟨aVY, cVY, rfl⟩ := hin.form
   clear zV c0V c1V c2V cfV zVX c0VX c1VX c2VX cfVX zVW c0VW c1VW c2VW cfVW zVS c0VS c1VS c2VS cfVS
   replace V := tuck (V.out.below hb)
   replace VX := tuck (VX.out.below hb)
   replace VW := tuck (VW.out.below hb)
   replace VS := tuck (VS.out.below hb)
   replace HB := tuck (bAfter HB.out hb)
   have HNVY := tuck hin
   clear hb hin
   obtain ⟨zV, c0V, c1V, c2V, cfV⟩ := V.out.facts
   obtain ⟨zVX, c0VX, c1VX, c2VX, cfVX⟩ := VX.out.facts
   obtain ⟨zVW, c0VW, c1VW, c2VW, cfVW⟩ := VW.out.facts
   obtain ⟨zVS, c0VS, c1VS, c2VS, cfVS⟩ := VS.out.facts
   go_wp2_with fail
   clear zV c0V c1V c2V cfV zVX c0VX c1VX c2VX cfVX zVW c0VW c1VW c2VW cfVW zVS c0VS c1VS c2VS cfVS
   have VY := tuck (TV.new HNVY.out)
   have hb := below1 u25 (.cells #[.int .i64 Y.kind, .int .i64 Y.num, .slice aVY Y.kids.length cVY] 25)
   replace V := tuck (V.out.below hb)
   replace VX := tuck (VX.out.below hb)
   replace VW := tuck (VW.out.below hb)
   replace VS := tuck (VS.out.below hb)
   replace HB := tuck (bAfter HB.out hb)
   clear hb HNVY
   generalize u25.alloc (.cells #[.int .i64 Y.kind, .int .i64 Y.num, .slice aVY Y.kids.length cVY] 25) = U25 at *
   generalize u25.heap.size = gVY at *
   refine (H1.out _ _ VX.out.tm).mono ?_
   rintro e u26 ⟨hb, vv, rfl, ss, rfl, hin⟩
   obtain ⟨aVA, cVA, rfl⟩ := hin.form
   replace V := tuck (V.out.below hb)
   replace VX := tuck (VX.out.below hb)
   replace VW := tuck (VW.out.below hb)
   replace VS := tuck (VS.out.below hb)
   replace VY := tuck (VY.out.below hb)
   replace HB := tuck (bAfter HB.out hb)
   have HNVA := tuck hin
   clear hb hin
   obtain ⟨zV, c0V, c1V, c2V, cfV⟩ := V.out.facts
   obtain ⟨zVX, c0VX, c1VX, c2VX, cfVX⟩ := VX.out.facts
   obtain ⟨zVW, c0VW, c1VW, c2VW, cfVW⟩ := VW.out.facts
   obtain ⟨zVS, c0VS, c1VS, c2VS, cfVS⟩ := VS.out.facts
   obtain ⟨zVY, c0VY, c1VY, c2VY, cfVY⟩ := VY.out.facts
   go_wp2_with fail
   clear zV c0V c1V c2V cfV zVX c0VX c1VX c2VX cfVX zVW c0VW c1VW c2VW cfVW zVS c0VS c1VS c2VS cfVS zVY c0VY c1VY c2VY cfVY
   have VA := tuck (TV.new HNVA.out)
   have hb := below1 u26 (.cells #[.int .i64 X1.kind, .int .i64 X1.num, .slice aVA X1.kids.length cVA] 25)
   replace V := tuck (V.out.below hb)
   replace VX := tuck (VX.out.below hb)
   replace VW := tuck (VW.out.below hb)
   replace VS := tuck (VS.out.below hb)
   replace VY := tuck (VY.out.below hb)
   replace HB := tuck (bAfter HB.out hb)
   clear hb HNVA
   generalize u26.alloc (.cells #[.int .i64 X1.kind, .int .i64 X1.num, .slice aVA X1.kids.length cVA] 25) = U26 at *
   generalize u26.heap.size = gVA at *
   refine (H2.out _ _ VY.out.tm).mono ?_
   rintro e u27 ⟨hb, vv, rfl, ss, rfl, hin⟩
   obtain ⟨aVB, cVB, rfl⟩ := hin.form
   replace V := tuck (V.out.below hb)
   replace VX := tuck (VX.out.below hb)
   replace VW := tuck (VW.out.below hb)
   replace VS := tuck (VS.out.below hb)
   replace VY := tuck (VY.out.below hb)
   replace VA := tuck (VA.out.below hb)
   replace HB := tuck (bAfter HB.out hb)
   have HNVB := tuck hin
   clear hb hin
   obtain ⟨zV, c0V, c1V, c2V, cfV⟩ := V.out.facts
   obtain ⟨zVX, c0VX, c1VX, c2VX, cfVX⟩ := VX.out.facts
   obtain ⟨zVW, c0VW, c1VW, c2VW, cfVW⟩ := VW.out.facts
   obtain ⟨zVS, c0VS, c1VS, c2VS, cfVS⟩ := VS.out.facts
   obtain ⟨zVY, c0VY, c1VY, c2VY, cfVY⟩ := VY.out.facts
   obtain ⟨zVA, c0VA, c1VA, c2VA, cfVA⟩ := VA.out.facts
   go_wp2_with fail
   clear zV c0V c1V c2V cfV zVX c0VX c1VX c2VX cfVX zVW c0VW c1VW c2VW cfVW zVS c0VS c1VS c2VS cfVS zVY c0VY c1VY c2VY cfVY zVA c0VA c1VA c2VA cfVA
   have VB := tuck (TV.new HNVB.out)
   have hb := below1 u27 (.cells #[.int .i64 X2.kind, .int .i64 X2.num, .slice aVB X2.kids.length cVB] 25)
   replace V := tuck (V.out.below hb)
   replace VX := tuck (VX.out.below hb)
   replace VW := tuck (VW.out.below hb)
   replace VS := tuck (VS.out.below hb)
   replace VY := tuck (VY.out.below hb)
   replace VA := tuck (VA.out.below hb)
   replace HB := tuck (bAfter HB.out hb)
   clear hb HNVB
   generalize u27.alloc (.cells #[.int .i64 X2.kind, .int .i64 X2.num, .slice aVB X2.kids.length cVB] 25) = U27 at *
   generalize u27.heap.size = gVB at *
   obtain ⟨zV, c0V, c1V, c2V, cfV⟩ := V.out.facts
   obtain ⟨zVX, c0VX, c1VX, c2VX, cfVX⟩ := VX.out.facts
   obtain ⟨zVW, c0VW, c1VW, c2VW, cfVW⟩ := VW.out.facts
   obtain ⟨zVS, c0VS, c1VS, c2VS, cfVS⟩ := VS.out.facts
   obtain ⟨zVY, c0VY, c1VY, c2VY, cfVY⟩ := VY.out.facts
   obtain ⟨zVA, c0VA, c1VA, c2VA, cfVA⟩ := VA.out.facts
   obtain ⟨zVB, c0VB, c1VB, c2VB, cfVB⟩ := VB.out.facts
   go_wp2_with fail
   go_ret
   exact ⟨rfl, HB.out⟩
  obtain ⟨Y, hY⟩ : ∃ Y, Y = S.dev := ⟨_, rfl⟩
  have hparS : S.par Y := hY ▸ dev_par hQ
  have H3 : Hid (∀ (w : World) (v : Value), TmIn w 0 S v → Calls Tryz.prog 6 #[v] w (PairPost w Y true)) := fun w v h => by
   have h2 := (developI_any S w v h).mono fun _ _ h => h.pair; rwa [orZero_yes hQ, tr_of hQ, ← hY] at h2
  obtain ⟨c2, hc2⟩ : ∃ q0, q0 = normC false false Y 200 := ⟨_, rfl⟩
  obtain ⟨X2, hX2⟩ : ∃ Q, Q = normT false false Y 200 := ⟨_, rfl⟩
  have H2 : Hid (∀ (w : World) (v : Value), TmIn w 0 Y v → Calls Tryz.prog 10 #[v, .int .i64 200] w (SCodePost w c2 X2)) := fun w v h => by
   have h2 := normI_p Y 200 w v h; rwa [← hc2, ← hX2] at h2
  have HEQ : Hid (c1 = 0 → c2 = 0 → X1.Valid ∧ X1 = X2) := tuck fun h1 h2 => by
   have hy1 : NrmYes false false X 200 X1 := hX1 ▸ nrm_yes (by rw [← hc1]; exact h1)
   have hy2 : NrmYes false false Y 200 X2 := hX2 ▸ nrm_yes (by rw [← hc2]; exact h2)
   exact ⟨hy1.valid, norm_same hv.wf (.one hpar) (Reds.trans (.one hst) (.one hparS)) hy1 hy2⟩
  clear hs hl hpar hXV hX hP hv hQ hY hst hparS hc1 hX1 hc2 hX2
  refine (HIM.out _ _ V.out.tm).mono ?_
  rintro e u1 ⟨hb, vv, rfl, ss, rfl, hin⟩
  obtain ⟨aVX, cVX, rfl⟩ := hin.form
  replace V := tuck (V.out.below hb)
  replace HB := tuck (bAfter HB.out hb)
  have HNVX := tuck hin
  clear hb hin
  obtain ⟨zV, c0V, c1V, c2V, cfV⟩ := V.out.facts
  go_wp2_with fail
  clear zV c0V c1V c2V cfV
  have VX := tuck (TV.new HNVX.out)
  have hb := below1 u1 (.cells #[.int .i64 X.kind, .int .i64 X.num, .slice aVX X.kids.length cVX] 25)
  replace V := tuck (V.out.below hb)
  replace HB := tuck (bAfter HB.out hb)
  clear hb HNVX
  generalize u1.alloc (.cells #[.int .i64 X.kind, .int .i64 X.num, .slice aVX X.kids.length cVX] 25) = U1 at *
  generalize u1.heap.size = gVX at *
  refine (HSP.out _ _ V.out.tm).mono ?_
  rintro e u2 ⟨hb, vv, rfl, ss, rfl, hin⟩
  obtain ⟨aVW, cVW, rfl⟩ := hin.form
  replace V := tuck (V.out.below hb)
  replace VX := tuck (VX.out.below hb)
  replace HB := tuck (bAfter HB.out hb)
  have HNVW := tuck hin
  clear hb hin
  obtain ⟨zV, c0V, c1V, c2V, cfV⟩ := V.out.facts
  obtain ⟨zVX, c0VX, c1VX, c2VX, cfVX⟩ := VX.out.facts
  go_wp2_with fail
  clear zV c0V c1V c2V cfV zVX c0VX c1VX c2VX cfVX
  have VW := tuck (TV.new HNVW.out)
  have hb := below1 u2 (.cells #[.int .i64 X.kind, .int .i64 X.num, .slice aVW X.kids.length cVW] 25)
  replace V := tuck (V.out.below hb)
  replace VX := tuck (VX.out.below hb)
  replace HB := tuck (bAfter HB.out hb)
  clear hb HNVW
  generalize u2.alloc (.cells #[.int .i64 X.kind, .int .i64 X.num, .slice aVW X.kids.length cVW] 25) = U2 at *
  generalize u2.heap.size = gVW at *
  refine (HSI.out _ _ V.out.tm).mono ?_
  rintro e u3 ⟨hb, vv, rfl, ss, rfl, hin⟩
  obtain ⟨aVS, cVS, rfl⟩ := hin.form
  replace V := tuck (V.out.below hb)
  replace VX := tuck (VX.out.below hb)
  replace VW := tuck (VW.out.below hb)
  replace HB := tuck (bAfter HB.out hb)
  have HNVS := tuck hin
  clear hb hin
  obtain ⟨zV, c0V, c1V, c2V, cfV⟩ := V.out.facts
  obtain ⟨zVX, c0VX, c1VX, c2VX, cfVX⟩ := VX.out.facts
  obtain ⟨zVW, c0VW, c1VW, c2VW, cfVW⟩ := VW.out.facts
  go_wp2_with fail
  clear zV c0V c1V c2V cfV zVX c0VX c1VX c2VX cfVX zVW c0VW c1VW c2VW cfVW
  have VS := tuck (TV.new HNVS.out)
  have hb := below1 u3 (.cells #[.int .i64 S.kind, .int .i64 S.num, .slice aVS S.kids.length cVS] 25)
  replace V := tuck (V.out.below hb)
  replace VX := tuck (VX.out.below hb)
  replace VW := tuck (VW.out.below hb)
  replace HB := tuck (bAfter HB.out hb)
  clear hb HNVS
  generalize u3.alloc (.cells #[.int .i64 S.kind, .int .i64 S.num, .slice aVS S.kids.length cVS] 25) = U3 at *
  generalize u3.heap.size = gVS at *
  refine (HTS.out _ _ _ VX.out.tm VW.out.tm).mono ?_
  rintro e u4 ⟨rfl, hb⟩
  replace V := tuck (V.out.below hb)
  replace VX := tuck (VX.out.below hb)
  replace VW := tuck (VW.out.below hb)
  replace VS := tuck (VS.out.below hb)
  replace HB := tuck (bAfter HB.out hb)
  clear hb
  obtain ⟨zV, c0V, c1V, c2V, cfV⟩ := V.out.facts
  obtain ⟨zVX, c0VX, c1VX, c2VX, cfVX⟩ := VX.out.facts
  obtain ⟨zVW, c0VW, c1VW, c2VW, cfVW⟩ := VW.out.facts
  obtain ⟨zVS, c0VS, c1VS, c2VS, cfVS⟩ := VS.out.facts
  go_wp2_with fail
  refine (H3.out _ _ VS.out.tm).mono ?_
  rintro e u5 ⟨hb, vv, rfl, ss, rfl, hin⟩
  obtain ⟨aVY, cVY, rfl⟩ := hin.form
  clear zV c0V c1V c2V cfV zVX c0VX c1VX c2VX cfVX zVW c0VW c1VW c2VW cfVW zVS c0VS c1VS c2VS cfVS
  replace V := tuck (V.out.below hb)
  replace VX := tuck (VX.out.below hb)
  replace VW := tuck (VW.out.below hb)
  replace VS := tuck (VS.out.below hb)
  replace HB := tuck (bAfter HB.out hb)
  have HNVY := tuck hin
  clear hb hin
  obtain ⟨zV, c0V, c1V, c2V, cfV⟩ := V.out.facts
  obtain ⟨zVX, c0VX, c1VX, c2VX, cfVX⟩ := VX.out.facts
  obtain ⟨zVW, c0VW, c1VW, c2VW, cfVW⟩ := VW.out.facts
  obtain ⟨zVS, c0VS, c1VS, c2VS, cfVS⟩ := VS.out.facts
  go_wp2_with fail
  clear zV c0V c1V c2V cfV zVX c0VX c1VX c2VX cfVX zVW c0VW c1VW c2VW cfVW zVS c0VS c1VS c2VS cfVS
  have VY := tuck (TV.new HNVY.out)
  have hb := below1 u5 (.cells #[.int .i64 Y.kind, .int .i64 Y.num, .slice aVY Y.kids.length cVY] 25)
  replace V := tuck (V.out.below hb)
  replace VX := tuck (VX.out.below hb)
  replace VW := tuck (VW.out.below hb)
  replace VS := tuck (VS.out.below hb)
  replace HB := tuck (bAfter HB.out hb)
  clear hb HNVY
  generalize u5.alloc (.cells #[.int .i64 Y.kind, .int .i64 Y.num, .slice aVY Y.kids.length cVY] 25) = U5 at *
  generalize u5.heap.size = gVY at *
  refine (H1.out _ _ VX.out.tm).mono ?_
  rintro e u6 ⟨hb, vv, rfl, ss, rfl, hin⟩
  obtain ⟨aVA, cVA, rfl⟩ := hin.form
  replace V := tuck (V.out.below hb)
  replace VX := tuck (VX.out.below hb)
  replace VW := tuck (VW.out.below hb)
  replace VS := tuck (VS.out.below hb)
  replace VY := tuck (VY.out.below hb)
  replace HB := tuck (bAfter HB.out hb)
  have HNVA := tuck hin
  clear hb hin
  obtain ⟨zV, c0V, c1V, c2V, cfV⟩ := V.out.facts
  obtain ⟨zVX, c0VX, c1VX, c2VX, cfVX⟩ := VX.out.facts
  obtain ⟨zVW, c0VW, c1VW, c2VW, cfVW⟩ := VW.out.facts
  obtain ⟨zVS, c0VS, c1VS, c2VS, cfVS⟩ := VS.out.facts
  obtain ⟨zVY, c0VY, c1VY, c2VY, cfVY⟩ := VY.out.facts
  go_wp2_with fail
  clear zV c0V c1V c2V cfV zVX c0VX c1VX c2VX cfVX zVW c0VW c1VW c2VW cfVW zVS c0VS c1VS c2VS cfVS zVY c0VY c1VY c2VY cfVY
  have VA := tuck (TV.new HNVA.out)
  have hb := below1 u6 (.cells #[.int .i64 X1.kind, .int .i64 X1.num, .slice aVA X1.kids.length cVA] 25)
  replace V := tuck (V.out.below hb)
  replace VX := tuck (VX.out.below hb)
  replace VW := tuck (VW.out.below hb)
  replace VS := tuck (VS.out.below hb)
  replace VY := tuck (VY.out.below hb)
  replace HB := tuck (bAfter HB.out hb)
  clear hb HNVA
  generalize u6.alloc (.cells #[.int .i64 X1.kind, .int .i64 X1.num, .slice aVA X1.kids.length cVA] 25) = U6 at *
  generalize u6.heap.size = gVA at *
  by_cases hnc1 : c1 ≠ 0
  ·skip
   have kc1 : (c1 != 0) = true := by rw [bne_iff_ne]; exact hnc1
   refine (H2.out _ _ VY.out.tm).mono ?_
   rintro e u27 ⟨hb, vv, rfl, ss, rfl, hin⟩
   obtain ⟨aVB, cVB, rfl⟩ := hin.form
   replace V := tuck (V.out.below hb)
   replace VX := tuck (VX.out.below hb)
   replace VW := tuck (VW.out.below hb)
   replace VS := tuck (VS.out.below hb)
   replace VY := tuck (VY.out.below hb)
   replace VA := tuck (VA.out.below hb)
   replace HB := tuck (bAfter HB.out hb)
   have HNVB := tuck hin
   clear hb hin
   obtain ⟨zV, c0V, c1V, c2V, cfV⟩ := V.out.facts
   obtain ⟨zVX, c0VX, c1VX, c2VX, cfVX⟩ := VX.out.facts
   obtain ⟨zVW, c0VW, c1VW, c2VW, cfVW⟩ := VW.out.facts
   obtain ⟨zVS, c0VS, c1VS, c2VS, cfVS⟩ := VS.out.facts
   obtain ⟨zVY, c0VY, c1VY, c2VY, cfVY⟩ := VY.out.facts
   obtain ⟨zVA, c0VA, c1VA, c2VA, cfVA⟩ := VA.out.facts
   go_wp2_with fail
   clear zV c0V c1V c2V cfV zVX c0VX c1VX c2VX cfVX zVW c0VW c1VW c2VW cfVW zVS c0VS c1VS c2VS cfVS zVY c0VY c1VY c2VY cfVY zVA c0VA c1VA c2VA cfVA
   have VB := tuck (TV.new HNVB.out)
   have hb := below1 u27 (.cells #[.int .i64 X2.kind, .int .i64 X2.num, .slice aVB X2.kids.length cVB] 25)
   replace V := tuck (V.out.below hb)
   replace VX := tuck (VX.out.below hb)
   replace VW := tuck (VW.out.below hb)
   replace VS := tuck (VS.out.below hb)
   replace VY := tuck (VY.out.below hb)
   replace VA := tuck (VA.out.below hb)
   replace HB := tuck (bAfter HB.out hb)
   clear hb HNVB
   generalize u27.alloc (.cells #[.int .i64 X2.kind, .int .i64 X2.num, .slice aVB X2.kids.length cVB] 25) = U27 at *
   generalize u27.heap.size = gVB at *
   obtain ⟨zV, c0V, c1V, c2V, cfV⟩ := V.out.facts
   obtain ⟨zVX, c0VX, c1VX, c2VX, cfVX⟩ := VX.out.facts
   obtain ⟨zVW, c0VW, c1VW, c2VW, cfVW⟩ := VW.out.facts
   obtain ⟨zVS, c0VS, c1VS, c2VS, cfVS⟩ := VS.out.facts
   obtain ⟨zVY, c0VY, c1VY, c2VY, cfVY⟩ := VY.out.facts
   obtain ⟨zVA, c0VA, c1VA, c2VA, cfVA⟩ := VA.out.facts
   obtain ⟨zVB, c0VB, c1VB, c2VB, cfVB⟩ := VB.out.facts
   go_wp2_with fail
   go_ret
   exact ⟨rfl, HB.out⟩
  obtain rfl : c1 = 0 := Classical.byContradiction hnc1
  by_cases hnc2 : c2 ≠ 0
  ·skip
   have kc2 : (c2 != 0) = true := by rw [bne_iff_ne]; exact hnc2
   refine (H2.out _ _ VY.out.tm).mono ?_
   rintro e u27 ⟨hb, vv, rfl, ss, rfl, hin⟩
   obtain ⟨aVB, cVB, rfl⟩ := hin.form
   replace V := tuck (V.out.below hb)
   replace VX := tuck (VX.out.below hb)
   replace VW := tuck (VW.out.below hb)
   replace VS := tuck (VS.out.below hb)
   replace VY := tuck (VY.out.below hb)
   replace VA := tuck (VA.out.below hb)
   replace HB := tuck (bAfter HB.out hb)
   have HNVB := tuck hin
   clear hb hin
   obtain ⟨zV, c0V, c1V, c2V, cfV⟩ := V.out.facts
   obtain ⟨zVX, c0VX, c1VX, c2VX, cfVX⟩ := VX.out.facts
   obtain ⟨zVW, c0VW, c1VW, c2VW, cfVW⟩ := VW.out.facts
   obtain ⟨zVS, c0VS, c1VS, c2VS, cfVS⟩ := VS.out.facts
   obtain ⟨zVY, c0VY, c1VY, c2VY, cfVY⟩ := VY.out.facts
   obtain ⟨zVA, c0VA, c1VA, c2VA, cfVA⟩ := VA.out.facts
   go_wp2_with fail
   clear zV c0V c1V c2V cfV zVX c0VX c1VX c2VX cfVX zVW c0VW c1VW c2VW cfVW zVS c0VS c1VS c2VS cfVS zVY c0VY c1VY c2VY cfVY zVA c0VA c1VA c2VA cfVA
   have VB := tuck (TV.new HNVB.out)
   have hb := below1 u27 (.cells #[.int .i64 X2.kind, .int .i64 X2.num, .slice aVB X2.kids.length cVB] 25)
   replace V := tuck (V.out.below hb)
   replace VX := tuck (VX.out.below hb)
   replace VW := tuck (VW.out.below hb)
   replace VS := tuck (VS.out.below hb)
   replace VY := tuck (VY.out.below hb)
   replace VA := tuck (VA.out.below hb)
   replace HB := tuck (bAfter HB.out hb)
   clear hb HNVB
   generalize u27.alloc (.cells #[.int .i64 X2.kind, .int .i64 X2.num, .slice aVB X2.kids.length cVB] 25) = U27 at *
   generalize u27.heap.size = gVB at *
   obtain ⟨zV, c0V, c1V, c2V, cfV⟩ := V.out.facts
   obtain ⟨zVX, c0VX, c1VX, c2VX, cfVX⟩ := VX.out.facts
   obtain ⟨zVW, c0VW, c1VW, c2VW, cfVW⟩ := VW.out.facts
   obtain ⟨zVS, c0VS, c1VS, c2VS, cfVS⟩ := VS.out.facts
   obtain ⟨zVY, c0VY, c1VY, c2VY, cfVY⟩ := VY.out.facts
   obtain ⟨zVA, c0VA, c1VA, c2VA, cfVA⟩ := VA.out.facts
   obtain ⟨zVB, c0VB, c1VB, c2VB, cfVB⟩ := VB.out.facts
   go_wp2_with fail
   go_ret
   exact ⟨rfl, HB.out⟩
  obtain rfl : c2 = 0 := Classical.byContradiction hnc2
  obtain ⟨hvv, he⟩ := HEQ.out rfl rfl
  have HTT : Hid (∀ (w : World) (v1 v2 : Value), TmIn w 0 X1 v1 → TmIn w 0 X2 v2 → Calls Tryz.prog 9 #[v1, v2] w (BoolPost w true)) := by rw [← he]; exact same_v hvv
  clear HEQ hvv he hnc1 hnc2
  refine (H2.out _ _ VY.out.tm).mono ?_
  rintro e u7 ⟨hb, vv, rfl, ss, rfl, hin⟩
  obtain ⟨aVB, cVB, rfl⟩ := hin.form
  replace V := tuck (V.out.below hb)
  replace VX := tuck (VX.out.below hb)
  replace VW := tuck (VW.out.below hb)
  replace VS := tuck (VS.out.below hb)
  replace VY := tuck (VY.out.below hb)
  replace VA := tuck (VA.out.below hb)
  replace HB := tuck (bAfter HB.out hb)
  have HNVB := tuck hin
  clear hb hin
  obtain ⟨zV, c0V, c1V, c2V, cfV⟩ := V.out.facts
  obtain ⟨zVX, c0VX, c1VX, c2VX, cfVX⟩ := VX.out.facts
  obtain ⟨zVW, c0VW, c1VW, c2VW, cfVW⟩ := VW.out.facts
  obtain ⟨zVS, c0VS, c1VS, c2VS, cfVS⟩ := VS.out.facts
  obtain ⟨zVY, c0VY, c1VY, c2VY, cfVY⟩ := VY.out.facts
  obtain ⟨zVA, c0VA, c1VA, c2VA, cfVA⟩ := VA.out.facts
  go_wp2_with fail
  clear zV c0V c1V c2V cfV zVX c0VX c1VX c2VX cfVX zVW c0VW c1VW c2VW cfVW zVS c0VS c1VS c2VS cfVS zVY c0VY c1VY c2VY cfVY zVA c0VA c1VA c2VA cfVA
  have VB := tuck (TV.new HNVB.out)
  have hb := below1 u7 (.cells #[.int .i64 X2.kind, .int .i64 X2.num, .slice aVB X2.kids.length cVB] 25)
  replace V := tuck (V.out.below hb)
  replace VX := tuck (VX.out.below hb)
  replace VW := tuck (VW.out.below hb)
  replace VS := tuck (VS.out.below hb)
  replace VY := tuck (VY.out.below hb)
  replace VA := tuck (VA.out.below hb)
  replace HB := tuck (bAfter HB.out hb)
  clear hb HNVB
  generalize u7.alloc (.cells #[.int .i64 X2.kind, .int .i64 X2.num, .slice aVB X2.kids.length cVB] 25) = U7 at *
  generalize u7.heap.size = gVB at *
  obtain ⟨zV, c0V, c1V, c2V, cfV⟩ := V.out.facts
  obtain ⟨zVX, c0VX, c1VX, c2VX, cfVX⟩ := VX.out.facts
  obtain ⟨zVW, c0VW, c1VW, c2VW, cfVW⟩ := VW.out.facts
  obtain ⟨zVS, c0VS, c1VS, c2VS, cfVS⟩ := VS.out.facts
  obtain ⟨zVY, c0VY, c1VY, c2VY, cfVY⟩ := VY.out.facts
  obtain ⟨zVA, c0VA, c1VA, c2VA, cfVA⟩ := VA.out.facts
  obtain ⟨zVB, c0VB, c1VB, c2VB, cfVB⟩ := VB.out.facts
  go_wp2_with fail
  refine (HTT.out _ _ _ VA.out.tm VB.out.tm).mono ?_
  rintro e u8 ⟨rfl, hb⟩
  clear zV c0V c1V c2V cfV zVX c0VX c1VX c2VX cfVX zVW c0VW c1VW c2VW cfVW zVS c0VS c1VS c2VS cfVS zVY c0VY c1VY c2VY cfVY zVA c0VA c1VA c2VA cfVA zVB c0VB c1VB c2VB cfVB
  replace V := tuck (V.out.below hb)
  replace VX := tuck (VX.out.below hb)
  replace VW := tuck (VW.out.below hb)
  replace VS := tuck (VS.out.below hb)
  replace VY := tuck (VY.out.below hb)
  replace VA := tuck (VA.out.below hb)
  replace VB := tuck (VB.out.below hb)
  replace HB := tuck (bAfter HB.out hb)
  clear hb
  obtain ⟨zV, c0V, c1V, c2V, cfV⟩ := V.out.facts
  obtain ⟨zVX, c0VX, c1VX, c2VX, cfVX⟩ := VX.out.facts
  obtain ⟨zVW, c0VW, c1VW, c2VW, cfVW⟩ := VW.out.facts
  obtain ⟨zVS, c0VS, c1VS, c2VS, cfVS⟩ := VS.out.facts
  obtain ⟨zVY, c0VY, c1VY, c2VY, cfVY⟩ := VY.out.facts
  obtain ⟨zVA, c0VA, c1VA, c2VA, cfVA⟩ := VA.out.facts
  obtain ⟨zVB, c0VB, c1VB, c2VB, cfVB⟩ := VB.out.facts
  go_wp2_with fail
  go_ret
  exact ⟨rfl, HB.out⟩
set_option maxRecDepth 100000 in
theorem lifted (os : Os) (started : os.Started) (H : Type) (enc : TypeId × Value → H) :
  ReturnsInHanded {} Tryz.checked os 3 .any (Rows.fnDevelopStepSpec.pre6 enc Tryz.prog Tryz.f3 Rows.fnDevelopStepRow.domain false) (Rows.fnDevelopStepSpec.post enc Tryz.prog Tryz.f3 false true false false) := by
 refine returnsInHanded_of_change (C := Tryz.checked) own started (by kernel_rfl) Tryz.func3
  (ChangeSpec.witness6 (enc := enc) (C := Tryz.checked) false ⟨#[], #[.slice none 0 0], []⟩ 8 (by kernel_rfl) (by kernel_rfl) (by kernel_rfl) (by kernel_rfl)) ?_
 intro W base args ds gs before hval0 hW hcnd _
 have hval : ∀ (j : Nat) t v, Tryz.f3.params[j]? = some t → args[j]? = some v → Value.okWide Tryz.prog W .any base t v := hval0
 have hW' := hW
 obtain ⟨p, q, hA0, hV, rfl, hfz, hnd⟩ := hW
 have hA : DataW.TrodAll enc Tryz.prog W 0 (fun _ => true) true Tryz.f3.params.toList args.toList ds p := hA0
 rw [Tryz.params3] at hA hval
 obtain ⟨v0, vs0, d0, ds0, p0, q0, hargs, rfl, rfl, h0, r0⟩ := trodAll_cons hA
 obtain ⟨rfl, rfl, rfl⟩ := trodAll_nil r0
 obtain rfl : args = #[v0] := by cases args; simp_all
 obtain ⟨U0, ad0, bb0, oo0, len0, cap0, rfl, hlc0, hcm0, hbl0, hby0⟩ := open_bytes (hval 0 22 v0 rfl rfl) h0
 refine (walk U0 ad0 bb0 oo0 len0 cap0 W hlc0 hcm0 hby0).mono fun e W' ⟨he, hb⟩ => ?_
 subst he
 exact ⟨_, rfl, law_post rfl rfl (fun gs h => by subst h; rfl) (by rw [Tryz.params3]; exact readable_FnDevelopStep) laid hW' hb⟩
theorem over : Rows.fnDevelopStepRow.holds Tryz.pinned (OpenSpec.ofChange Rows.fnDevelopStepSpec) :=
 OpenClaim.holds_of_wide 3 Tryz.f3 rfl rfl rfl rfl rfl rfl rfl ⟨rfl, rfl, rfl, rfl, rfl⟩ rfl rfl rfl rfl rfl (by kernel_rfl) Tryz.func3 (by kernel_rfl)
  (of_decide_eq_true (by kernel_rfl)) (by unfold Func.isWrapper; first | (rw [if_pos (by decide +kernel)]; kernel_rfl) | (rw [if_neg (by decide +kernel)]; exact ⟨rfl, rfl⟩))
  (fun os started H enc _ => lifted os started H enc)
theorem proved : Rows.FnDevelopStepSaid :=
 over
end Go.Proofs.YtjdmfegdgpbkgaaGreat.fnDevelopStep
