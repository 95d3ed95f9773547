/-
  The law FnApplyOne: whatever the bytes, applying to arguments is applying to the first ones and then to the others.
-/
import Derived.Test.YtkjfdhdmkaofeaaB17
import Derived.Test.YtkjfdhdmkaofeaaB33
import Derived.Test.YtkjfdhdmkaofeaaB45
import Derived.Test.YtkjfdhdmkaofeaaB46
import Derived.IntWalk
namespace Go.Proofs.Ytkjfdhdmkaofeaa.fnApplyOne
open Go.ChangeShapes Go.WideShapes Go.ChangeAt Go.RowKit Go.Deep
set_option linter.unusedVariables false
theorem readable_FnApplyOne : ∀ t ∈ (#[22, 22] : Array TypeId).toList, Try.prog.readableRec t = true ∧ t < Try.prog.types.size := by
 intro t ht
 simp at ht
 subst ht
 exact ⟨by kernel_rfl, of_decide_eq_true (by kernel_rfl)⟩
theorem laid : laidOutB Try.prog = true := by kernel_rfl
set_option maxRecDepth 100000 in
set_option maxHeartbeats 4000000 in
theorem walk (U : Nat → Int) (a : Option Addr) (b o len cap : Nat) (w : World) (hlc : len ≤ cap) (hcm : cap ≤ maxLen) (hby : Bytes U a b o len w) (U2 : Nat → Int) (a2 : Option Addr) (b2 o2 len2 cap2 : Nat) (hlc2 : len2 ≤ cap2) (hcm2 : cap2 ≤ maxLen) (hby2 : Bytes U2 a2 b2 o2 len2 w) : Calls Try.prog 4 #[.slice a len cap, .slice a2 len2 cap2] w fun e w' => e = .returned (.bool true) ∧ Below w.heap.size w w' := by
 unfold maxLen at hcm hcm2
 by_cases hl : 1048576 < len
 ·have hl' : (1048576 : Int) < (len : Int) := by omega
  clear hby hby2
  go_enter Try.func4, Try.ntmps4
  go_wp2
  go_ret
  exact ⟨rfl, Below.refl _ _⟩
 have hl' : ¬ (1048576 : Int) < (len : Int) := by omega
 by_cases hl3 : 1048576 < len2
 ·have hl3' : (1048576 : Int) < (len2 : Int) := by omega
  clear hby hby2
  go_enter Try.func4, Try.ntmps4
  go_wp2
  go_ret
  exact ⟨rfl, Below.refl _ _⟩
 have hl3' : ¬ (1048576 : Int) < (len2 : Int) := by omega
 have HD := tuck (dApplyAll_any w (by omega) hlc hby)
 clear hby hby2
 go_enter Try.func4, Try.ntmps4
 go_wp2_with fail
 refine HD.out.mono ?_
 rintro e w1 ⟨T, L, v, q, cq, rfl, ⟨s, rfl, hin⟩, hsl, hl9, hcq, hsz, hb⟩
 generalize hn : L.length = n at *
 obtain ⟨aV, cV, rfl⟩ := hin.form
 have V := tuck (TV.new (hin.mono (Nat.zero_le _)))
 have hbx := below1 w1 (.cells #[.int .i64 T.kind, .int .i64 T.num, .slice aV T.kids.length cV] 25)
 have HB := tuck (bAfter hb hbx)
 have SL := tuck ((hsl.mono (Nat.zero_le _)).below hbx)
 have HN := tuck hn
 clear hin hb hbx HD hsz hsl hn
 go_wp2_with fail
 generalize w1.alloc (.cells #[.int .i64 T.kind, .int .i64 T.num, .slice aV T.kids.length cV] 25) = U0 at *
 generalize w1.heap.size = gV at *
 by_cases hP : AppsOk 5 L T
 rotate_left
 ·skip
  obtain ⟨X, hX⟩ : ∃ X, X = zeroT := ⟨_, rfl⟩
  have HIM : Hid (∀ (w : World) (v tv : Value), SlIn w 0 L v → TmIn w 0 T tv → Calls Try.prog 7 #[tv, v] w (PairPost w X false)) := fun w v tv h1 h2 => by
   have h3 := appsI_p w v tv h1 h2; rwa [orZero_no hP, tr_not hP, ← hX] at h3
  have HSP : Hid (∀ (w : World) (v tv : Value), SlIn w 0 L v → TmIn w 0 T tv → Calls Try.prog 8 #[tv, v] w (PairPost w X false)) := fun w v tv h1 h2 => by
   have h3 := appsS_p w v tv h1 h2; rwa [orZero_no hP, tr_not hP, ← hX] at h3
  have HTS : Hid (∀ (w : World) (v1 v2 : Value), TmIn w 0 X v1 → TmIn w 0 X v2 → Calls Try.prog 9 #[v1, v2] w (BoolPost w true)) := fun w v1 v2 h1 h2 => by rw [hX] at h1 h2; exact same_z w v1 v2 h1 h2
  clear hX hP
  refine (HIM.out _ _ _ SL.out V.out.tm).mono ?_
  rintro e u21 ⟨hb, vv, rfl, ss, rfl, hin⟩
  obtain ⟨aVX, cVX, rfl⟩ := hin.form
  replace V := tuck (V.out.below hb)
  replace SL := tuck (SL.out.below hb)
  replace HB := tuck (bAfter HB.out hb)
  have HNVX := tuck hin
  clear hb hin
  obtain ⟨zV, c0V, c1V, c2V, cfV⟩ := V.out.facts
  go_wp2_with fail
  clear zV c0V c1V c2V cfV
  have VX := tuck (TV.new HNVX.out)
  have hb := below1 u21 (.cells #[.int .i64 X.kind, .int .i64 X.num, .slice aVX X.kids.length cVX] 25)
  replace V := tuck (V.out.below hb)
  replace SL := tuck (SL.out.below hb)
  replace HB := tuck (bAfter HB.out hb)
  clear hb HNVX
  generalize u21.alloc (.cells #[.int .i64 X.kind, .int .i64 X.num, .slice aVX X.kids.length cVX] 25) = U21 at *
  generalize u21.heap.size = gVX at *
  refine (HSP.out _ _ _ SL.out V.out.tm).mono ?_
  rintro e u22 ⟨hb, vv, rfl, ss, rfl, hin⟩
  obtain ⟨aVW, cVW, rfl⟩ := hin.form
  replace V := tuck (V.out.below hb)
  replace VX := tuck (VX.out.below hb)
  replace SL := tuck (SL.out.below hb)
  replace HB := tuck (bAfter HB.out hb)
  have HNVW := tuck hin
  clear hb hin
  obtain ⟨zV, c0V, c1V, c2V, cfV⟩ := V.out.facts
  obtain ⟨zVX, c0VX, c1VX, c2VX, cfVX⟩ := VX.out.facts
  go_wp2_with fail
  clear zV c0V c1V c2V cfV zVX c0VX c1VX c2VX cfVX
  have VW := tuck (TV.new HNVW.out)
  have hb := below1 u22 (.cells #[.int .i64 X.kind, .int .i64 X.num, .slice aVW X.kids.length cVW] 25)
  replace V := tuck (V.out.below hb)
  replace VX := tuck (VX.out.below hb)
  replace SL := tuck (SL.out.below hb)
  replace HB := tuck (bAfter HB.out hb)
  clear hb HNVW
  generalize u22.alloc (.cells #[.int .i64 X.kind, .int .i64 X.num, .slice aVW X.kids.length cVW] 25) = U22 at *
  generalize u22.heap.size = gVW at *
  refine (HTS.out _ _ _ VX.out.tm VW.out.tm).mono ?_
  rintro e u23 ⟨rfl, hb⟩
  replace V := tuck (V.out.below hb)
  replace VX := tuck (VX.out.below hb)
  replace VW := tuck (VW.out.below hb)
  replace SL := tuck (SL.out.below hb)
  replace HB := tuck (bAfter HB.out hb)
  clear hb
  obtain ⟨zV, c0V, c1V, c2V, cfV⟩ := V.out.facts
  obtain ⟨zVX, c0VX, c1VX, c2VX, cfVX⟩ := VX.out.facts
  obtain ⟨zVW, c0VW, c1VW, c2VW, cfVW⟩ := VW.out.facts
  go_wp2_with fail
  refine (HTS.out _ _ _ VX.out.tm VW.out.tm).mono ?_
  rintro e u24 ⟨rfl, hb⟩
  clear zV c0V c1V c2V cfV zVX c0VX c1VX c2VX cfVX zVW c0VW c1VW c2VW cfVW
  replace V := tuck (V.out.below hb)
  replace VX := tuck (VX.out.below hb)
  replace VW := tuck (VW.out.below hb)
  replace SL := tuck (SL.out.below hb)
  replace HB := tuck (bAfter HB.out hb)
  clear hb
  obtain ⟨zV, c0V, c1V, c2V, cfV⟩ := V.out.facts
  obtain ⟨zVX, c0VX, c1VX, c2VX, cfVX⟩ := VX.out.facts
  obtain ⟨zVW, c0VW, c1VW, c2VW, cfVW⟩ := VW.out.facts
  go_wp2_with fail
  go_ret
  exact ⟨rfl, HB.out⟩
 obtain ⟨X, hX⟩ : ∃ X, X = apps 5 L T := ⟨_, rfl⟩
 have HVX : Hid (X.Valid) := tuck (hX ▸ hP.2)
 have HIM : Hid (∀ (w : World) (v tv : Value), SlIn w 0 L v → TmIn w 0 T tv → Calls Try.prog 7 #[tv, v] w (PairPost w X true)) := fun w v tv h1 h2 => by
  have h3 := appsI_p w v tv h1 h2; rwa [orZero_yes hP, tr_of hP, ← hX] at h3
 have HSP : Hid (∀ (w : World) (v tv : Value), SlIn w 0 L v → TmIn w 0 T tv → Calls Try.prog 8 #[tv, v] w (PairPost w X true)) := fun w v tv h1 h2 => by
  have h3 := appsS_p w v tv h1 h2; rwa [orZero_yes hP, tr_of hP, ← hX] at h3
 have HTS : Hid (∀ (w : World) (v1 v2 : Value), TmIn w 0 X v1 → TmIn w 0 X v2 → Calls Try.prog 9 #[v1, v2] w (BoolPost w true)) := same_v HVX.out
 obtain ⟨kk, hkk, hk⟩ : ∃ kk : Nat, (len2 : Int).tmod ((n : Int) + 1) = (kk : Int) ∧ kk ≤ n := ⟨len2 % (n + 1), by rw [show ((n : Int) + 1) = ((n + 1 : Nat) : Int) by omega, Int.tmod_eq_emod_of_nonneg (by omega)]; simp, by have := Nat.mod_lt len2 (show 0 < n + 1 by omega); omega⟩
 obtain ⟨Y, hY⟩ : ∃ Y, Y = apps 5 (L.take kk) T := ⟨_, rfl⟩
 have HI1 : Hid (∀ (w : World) (v tv : Value), SlIn w 0 (L.take kk) v → TmIn w 0 T tv → Calls Try.prog 7 #[tv, v] w (NewPost w Y true)) := fun w v tv h1 h2 => by
  have h3 := appsI_n w v tv h1 h2; rwa [orZero_yes (hP.part kk).1, tr_of (hP.part kk).1, ← hY] at h3
 have HI2 : Hid (∀ (w : World) (v tv : Value), SlIn w 0 (L.drop kk) v → TmIn w 0 Y tv → Calls Try.prog 7 #[tv, v] w (NewPost w X true)) := fun w v tv h1 h2 => by
  have h3 := appsI_n w v tv h1 h2; have hQ := (hP.part kk).2; rw [← hY] at hQ; have hE := apps_split 5 L T kk; rw [← hY] at hE; rwa [orZero_yes hQ, tr_of hQ, hE, ← hX] at h3
 clear hX hP hY
 refine (HIM.out _ _ _ SL.out V.out.tm).mono ?_
 rintro e u1 ⟨hb, vv, rfl, ss, rfl, hin⟩
 obtain ⟨aVX, cVX, rfl⟩ := hin.form
 replace V := tuck (V.out.below hb)
 replace SL := tuck (SL.out.below hb)
 replace HB := tuck (bAfter HB.out hb)
 have HNVX := tuck hin
 clear hb hin
 obtain ⟨zV, c0V, c1V, c2V, cfV⟩ := V.out.facts
 go_wp2_with fail
 clear zV c0V c1V c2V cfV
 have VX := tuck (TV.new HNVX.out)
 have hb := below1 u1 (.cells #[.int .i64 X.kind, .int .i64 X.num, .slice aVX X.kids.length cVX] 25)
 replace V := tuck (V.out.below hb)
 replace SL := tuck (SL.out.below hb)
 replace HB := tuck (bAfter HB.out hb)
 clear hb HNVX
 generalize u1.alloc (.cells #[.int .i64 X.kind, .int .i64 X.num, .slice aVX X.kids.length cVX] 25) = U1 at *
 generalize u1.heap.size = gVX at *
 refine (HSP.out _ _ _ SL.out V.out.tm).mono ?_
 rintro e u2 ⟨hb, vv, rfl, ss, rfl, hin⟩
 obtain ⟨aVW, cVW, rfl⟩ := hin.form
 replace V := tuck (V.out.below hb)
 replace VX := tuck (VX.out.below hb)
 replace SL := tuck (SL.out.below hb)
 replace HB := tuck (bAfter HB.out hb)
 have HNVW := tuck hin
 clear hb hin
 obtain ⟨zV, c0V, c1V, c2V, cfV⟩ := V.out.facts
 obtain ⟨zVX, c0VX, c1VX, c2VX, cfVX⟩ := VX.out.facts
 go_wp2_with fail
 clear zV c0V c1V c2V cfV zVX c0VX c1VX c2VX cfVX
 have VW := tuck (TV.new HNVW.out)
 have hb := below1 u2 (.cells #[.int .i64 X.kind, .int .i64 X.num, .slice aVW X.kids.length cVW] 25)
 replace V := tuck (V.out.below hb)
 replace VX := tuck (VX.out.below hb)
 replace SL := tuck (SL.out.below hb)
 replace HB := tuck (bAfter HB.out hb)
 clear hb HNVW
 generalize u2.alloc (.cells #[.int .i64 X.kind, .int .i64 X.num, .slice aVW X.kids.length cVW] 25) = U2 at *
 generalize u2.heap.size = gVW at *
 refine (HTS.out _ _ _ VX.out.tm VW.out.tm).mono ?_
 rintro e u3 ⟨rfl, hb⟩
 replace V := tuck (V.out.below hb)
 replace VX := tuck (VX.out.below hb)
 replace VW := tuck (VW.out.below hb)
 replace SL := tuck (SL.out.below hb)
 replace HB := tuck (bAfter HB.out hb)
 clear hb
 obtain ⟨zV, c0V, c1V, c2V, cfV⟩ := V.out.facts
 obtain ⟨zVX, c0VX, c1VX, c2VX, cfVX⟩ := VX.out.facts
 obtain ⟨zVW, c0VW, c1VW, c2VW, cfVW⟩ := VW.out.facts
 have hd0 : ((n : Int) + 1 == 0) = false := by rw [beq_eq_false_iff_ne]; omega
 go_upto_region 9 with fail
 clear zV c0V c1V c2V cfV zVX c0VX c1VX c2VX cfVX zVW c0VW c1VW c2VW cfVW
 have HX := tuck (show BoxAt gV T.kind T.num (.slice aV T.kids.length cV) u3 from V.out.var.four)
 have HSX := tuck (SL.out.take (c' := cq) kk hk)
 have HTX := tuck V.out.tm
 go_cut [12, 13] (fun p0 p1 wx => ∃ (gz : Nat) (aa : Option Addr) (cc : Nat), p0 = .pointer (some ⟨gz, 0, none⟩) ∧ p1 = .bool true ∧ Below u3.heap.size u3 wx ∧ VarAt gz Y.kind Y.num (.slice aa Y.kids.length cc) wx ∧ SlIn wx 0 Y.kids (.slice aa Y.kids.length cc))
 case first =>
  have HT12 : ∀ w' : World, (fun w' : World => Below u3.heap.size u3 w' ∧ (gV < w'.heap.size ∧ w'.cell? ⟨gV, 0, none⟩ = some (.int .i64 T.kind) ∧ w'.cell? ⟨gV, 1, none⟩ = some (.int .i64 T.num) ∧ w'.cell? ⟨gV, 2, none⟩ = some (.slice aV T.kids.length cV))) w' → (fun w' : World => Below u3.heap.size u3 w' ∧ (gV < w'.heap.size ∧ w'.cell? ⟨gV, 0, none⟩ = some (.int .i64 T.kind) ∧ w'.cell? ⟨gV, 1, none⟩ = some (.int .i64 T.num) ∧ w'.cell? ⟨gV, 2, none⟩ = some (.slice aV T.kids.length cV))) w' := fun w' h => h
  refine AnyTwo.begin (fun w' : World => Below u3.heap.size u3 w' ∧ (gV < w'.heap.size ∧ w'.cell? ⟨gV, 0, none⟩ = some (.int .i64 T.kind) ∧ w'.cell? ⟨gV, 1, none⟩ = some (.int .i64 T.num) ∧ w'.cell? ⟨gV, 2, none⟩ = some (.slice aV T.kids.length cV))) (fun w' : World => Below u3.heap.size u3 w' ∧ (gV < w'.heap.size ∧ w'.cell? ⟨gV, 0, none⟩ = some (.int .i64 T.kind) ∧ w'.cell? ⟨gV, 1, none⟩ = some (.int .i64 T.num) ∧ w'.cell? ⟨gV, 2, none⟩ = some (.slice aV T.kids.length cV))) 10 (by kernel_rfl) ?_
  have hS1 : (fun w' : World => Below u3.heap.size u3 w' ∧ (gV < w'.heap.size ∧ w'.cell? ⟨gV, 0, none⟩ = some (.int .i64 T.kind) ∧ w'.cell? ⟨gV, 1, none⟩ = some (.int .i64 T.num) ∧ w'.cell? ⟨gV, 2, none⟩ = some (.slice aV T.kids.length cV))) u3.drew := ⟨(Below.refl _ _).drew, HX.out⟩
  have HXL : Hid (gV < u3.heap.size) := tuck HX.out.1
  refine AnyTwo.takeAny HT12 (i := 0) (oi := { dst := some 69, op := _, type := _, pos := _, after := _, guard := _ }) (v := ?vi0) rfl (by kernel_rfl) (by kernel_rfl) (by decide +kernel) (by rfl) (fun _ _ _ h => h) (Or.inl ⟨by rfl, ?yi0⟩) (ph_one (by kernel_rfl) hS1) ?ri0
  case yi0 => (intro w hSw; (try dsimp only at hSw); go_simp; try (with_reducible rfl))
  try simp only [Act.put, List.setIfInBounds_toArray, List.set_cons_zero, List.set_cons_succ]
  refine AnyTwo.takeAny HT12 (i := 1) (oi := { dst := some 70, op := _, type := _, pos := _, after := _, guard := _ }) (v := ?vi1) rfl (by kernel_rfl) (by kernel_rfl) (by decide +kernel) (by rfl) (fun _ _ _ h => h) (Or.inl ⟨by rfl, ?yi1⟩) (ph_one (by kernel_rfl) hS1) ?ri1
  case yi1 => (intro w hSw; (try dsimp only at hSw); go_simp; try (with_reducible rfl))
  try simp only [Act.put, List.setIfInBounds_toArray, List.set_cons_zero, List.set_cons_succ]
  refine AnyTwo.takeAny HT12 (i := 2) (oi := { dst := some 71, op := _, type := _, pos := _, after := _, guard := _ }) (v := ?vi2) rfl (by kernel_rfl) (by kernel_rfl) (by decide +kernel) (by rfl) (fun _ _ _ h => h) (Or.inl ⟨by rfl, ?yi2⟩) (ph_one (by kernel_rfl) hS1) ?ri2
  case yi2 => (intro w hSw; (try dsimp only at hSw); go_simp; try (with_reducible rfl))
  try simp only [Act.put, List.setIfInBounds_toArray, List.set_cons_zero, List.set_cons_succ]
  refine AnyTwo.takeAny HT12 (i := 3) (oi := { dst := some 72, op := _, type := _, pos := _, after := _, guard := _ }) (v := (.slice (some ⟨q, 0, none⟩) kk cq)) rfl (by kernel_rfl) (by kernel_rfl) (by decide +kernel) (by rfl) (fun _ _ _ h => h) (Or.inl ⟨by rfl, ?yi3⟩) (ph_one (by kernel_rfl) hS1) ?ri3
  case yi3 => (intro w hSw; (try dsimp only at hSw); go_simp; exact fun h => absurd h (by omega))
  try simp only [Act.put, List.setIfInBounds_toArray, List.set_cons_zero, List.set_cons_succ]
  refine AnyTwo.fork (i := 4) (o := { dst := some 73, op := _, type := _, pos := _, after := _, guard := _ }) (j := 8) (o' := { dst := some 12, op := _, type := _, pos := _, after := _, guard := _ }) (by kernel_rfl) rfl rfl (fun K hK => ?_) (fun K hK => ?_)
  ·skip
   go_simp
   refine (HI1.out _ _ _ (HSX.out.below (hold_be hS1)) (by obtain ⟨s, e, hs⟩ := HTX.out; exact ⟨s, e, hs.below (hold_be hS1)⟩)).mono ?_
   rintro e wr ⟨hbq, vv, rfl, ss, rfl, hin⟩
   obtain ⟨aVY, cVY, rfl⟩ := hin.form
   have HW := tuck hin
   clear hin
   have HH9 := tuck (hold1T hS1 hbq)
   have hS1' : (fun w' : World => Below u3.heap.size u3 w' ∧ (gV < w'.heap.size ∧ w'.cell? ⟨gV, 0, none⟩ = some (.int .i64 T.kind) ∧ w'.cell? ⟨gV, 1, none⟩ = some (.int .i64 T.num) ∧ w'.cell? ⟨gV, 2, none⟩ = some (.slice aV T.kids.length cV))) _ := HH9.out
   refine hK.out _ _ (ph_one (by kernel_rfl) hS1') ?_
   clear hK K hS1
   have hS1 := hS1'
   clear hS1'
   try simp only [Act.put, List.setIfInBounds_toArray, List.set_cons_zero, List.set_cons_succ]
   refine AnyTwo.takeAny HT12 (i := 5) (oi := { dst := some 68, op := _, type := _, pos := _, after := _, guard := _ }) (v := ?vic5) rfl (by kernel_rfl) (by kernel_rfl) (by decide +kernel) (by rfl) (fun _ _ _ h => h) (Or.inl ⟨by rfl, ?yic5⟩) (ph_one (by kernel_rfl) hS1) ?ric5
   case yic5 => (intro w hSw; (try dsimp only at hSw); go_simp; try (with_reducible rfl))
   try simp only [Act.put, List.setIfInBounds_toArray, List.set_cons_zero, List.set_cons_succ]
   refine AnyTwo.takeAny HT12 (i := 6) (oi := { dst := some 74, op := _, type := _, pos := _, after := _, guard := _ }) (v := ?vic6) rfl (by kernel_rfl) (by kernel_rfl) (by decide +kernel) (by rfl) (fun _ _ _ h => h) (Or.inl ⟨by rfl, ?yic6⟩) (ph_one (by kernel_rfl) hS1) ?ric6
   case yic6 => (intro w hSw; (try dsimp only at hSw); go_simp; try (with_reducible rfl))
   try simp only [Act.put, List.setIfInBounds_toArray, List.set_cons_zero, List.set_cons_succ]
   refine AnyTwo.takeAny HT12 (i := 7) (oi := { dst := some 75, op := _, type := _, pos := _, after := _, guard := _ }) (v := ?vic7) rfl (by kernel_rfl) (by kernel_rfl) (by decide +kernel) (by rfl) (fun _ _ _ h => h) (Or.inl ⟨by rfl, ?yic7⟩) (ph_one (by kernel_rfl) hS1) ?ric7
   case yic7 => (intro w hSw; (try dsimp only at hSw); go_simp; try (with_reducible rfl))
   try simp only [Act.put, List.setIfInBounds_toArray, List.set_cons_zero, List.set_cons_succ]
   refine AnyTwo.step (i := 8) (o := { dst := some 12, op := _, type := _, pos := _, after := _, guard := _ }) (by kernel_rfl) rfl (fun K hK => ?_)
   go_simp
   have HZ0 := tuck (show u3.heap.size ≤ wr.heap.size from (hold_be hS1).size)
   have hS1' : (fun w' : World => Below u3.heap.size u3 w' ∧ (gV < w'.heap.size ∧ w'.cell? ⟨gV, 0, none⟩ = some (.int .i64 T.kind) ∧ w'.cell? ⟨gV, 1, none⟩ = some (.int .i64 T.num) ∧ w'.cell? ⟨gV, 2, none⟩ = some (.slice aV T.kids.length cV))) _ := hold1T HH9.out (below1 wr (.cells #[.int .i64 0, .int .i64 0, .slice none 0 0] 25))
   refine hK.out _ _ (ph_one (by kernel_rfl) hS1') ?_
   clear hK K hS1
   have hS1 := hS1'
   clear hS1'
   try simp only [Act.put, List.setIfInBounds_toArray, List.set_cons_zero, List.set_cons_succ]
   refine AnyTwo.step (i := 9) (o := { dst := none, op := _, type := _, pos := _, after := _, guard := _ }) (by kernel_rfl) rfl (fun K hK => ?_)
   go_simp
   have hS1' : (fun w' : World => Below u3.heap.size u3 w' ∧ (gV < w'.heap.size ∧ w'.cell? ⟨gV, 0, none⟩ = some (.int .i64 T.kind) ∧ w'.cell? ⟨gV, 1, none⟩ = some (.int .i64 T.num) ∧ w'.cell? ⟨gV, 2, none⟩ = some (.slice aV T.kids.length cV))) _ := hold1T HH9.out (below1 wr (.cells #[.int .i64 Y.kind, .int .i64 Y.num, .slice aVY Y.kids.length cVY] 25))
   refine hK.out _ _ (ph_one (by kernel_rfl) hS1') ?_
   clear hK K hS1
   have hS1 := hS1'
   clear hS1'
   try simp only [Act.put, List.setIfInBounds_toArray, List.set_cons_zero, List.set_cons_succ]
   refine AnyTwo.step (i := 10) (o := { dst := some 13, op := _, type := _, pos := _, after := _, guard := _ }) (by kernel_rfl) rfl (fun K hK => ?_)
   go_simp
   refine hK.out _ _ (ph_end (by kernel_rfl) hS1) ?_
   clear hK K
   try simp only [Act.put, List.setIfInBounds_toArray, List.set_cons_zero, List.set_cons_succ]
   refine AnyTwo.done (by kernel_rfl) ?_ _
   go_wp2_with fail
   go_meet
   exact ⟨wr.heap.size, aVY, cVY, rfl, rfl, hold_be hS1, VarAt.new wr _ _ _, (HW.out.mono (Nat.zero_le _)).below (below1 wr _)⟩
  ·skip
   go_simp
   have HZ := tuck (show VarAt u3.heap.size 0 0 (.slice none 0 0) (u3.alloc (.cells #[.int .i64 0, .int .i64 0, .slice none 0 0] 25)).drew from VarAt.new u3 0 0 (.slice none 0 0))
   have HZ0 : Hid (u3.heap.size ≤ u3.heap.size) := tuck (Nat.le_refl _)
   have hS1' : (fun w' : World => Below u3.heap.size u3 w' ∧ (gV < w'.heap.size ∧ w'.cell? ⟨gV, 0, none⟩ = some (.int .i64 T.kind) ∧ w'.cell? ⟨gV, 1, none⟩ = some (.int .i64 T.num) ∧ w'.cell? ⟨gV, 2, none⟩ = some (.slice aV T.kids.length cV))) _ := ⟨(below1 u3 (.cells #[.int .i64 0, .int .i64 0, .slice none 0 0] 25)).drew, BoxAt.below HX.out (below1 u3 (.cells #[.int .i64 0, .int .i64 0, .slice none 0 0] 25)).drew⟩
   refine hK.out _ _ (ph_one (by kernel_rfl) hS1') ?_
   clear hK K hS1
   have hS1 := hS1'
   clear hS1'
   try simp only [Act.put, List.setIfInBounds_toArray, List.set_cons_zero, List.set_cons_succ]
   refine AnyTwo.step (i := 4) (o := { dst := some 73, op := _, type := _, pos := _, after := _, guard := _ }) (by kernel_rfl) rfl (fun K hK => ?_)
   go_simp
   have HGL := tuck HZ.out.facts.1
   refine (HI1.out _ _ _ (HSX.out.below (hold_be hS1)) (by obtain ⟨s, e, hs⟩ := HTX.out; exact ⟨s, e, hs.below (hold_be hS1)⟩)).mono ?_
   rintro e wr ⟨hbq, vv, rfl, ss, rfl, hin⟩
   obtain ⟨aVY, cVY, rfl⟩ := hin.form
   have HW := tuck hin
   clear hin
   have HH9 := tuck (hold1T hS1 hbq)
   replace HZ := tuck (HZ.out.below hbq)
   obtain ⟨zz, y0, y1, y2, yf⟩ := HZ.out.facts
   have hS1' : (fun w' : World => Below u3.heap.size u3 w' ∧ (gV < w'.heap.size ∧ w'.cell? ⟨gV, 0, none⟩ = some (.int .i64 T.kind) ∧ w'.cell? ⟨gV, 1, none⟩ = some (.int .i64 T.num) ∧ w'.cell? ⟨gV, 2, none⟩ = some (.slice aV T.kids.length cV))) _ := HH9.out
   refine hK.out _ _ (ph_one (by kernel_rfl) hS1') ?_
   clear hK K hS1
   have hS1 := hS1'
   clear hS1'
   try simp only [Act.put, List.setIfInBounds_toArray, List.set_cons_zero, List.set_cons_succ]
   refine AnyTwo.takeAny HT12 (i := 5) (oi := { dst := some 68, op := _, type := _, pos := _, after := _, guard := _ }) (v := ?via5) rfl (by kernel_rfl) (by kernel_rfl) (by decide +kernel) (by rfl) (fun _ _ _ h => h) (Or.inl ⟨by rfl, ?yia5⟩) (ph_one (by kernel_rfl) hS1) ?ria5
   case yia5 => (intro w hSw; (try dsimp only at hSw); go_simp; try (with_reducible rfl))
   try simp only [Act.put, List.setIfInBounds_toArray, List.set_cons_zero, List.set_cons_succ]
   refine AnyTwo.takeAny HT12 (i := 6) (oi := { dst := some 74, op := _, type := _, pos := _, after := _, guard := _ }) (v := ?via6) rfl (by kernel_rfl) (by kernel_rfl) (by decide +kernel) (by rfl) (fun _ _ _ h => h) (Or.inl ⟨by rfl, ?yia6⟩) (ph_one (by kernel_rfl) hS1) ?ria6
   case yia6 => (intro w hSw; (try dsimp only at hSw); go_simp; try (with_reducible rfl))
   try simp only [Act.put, List.setIfInBounds_toArray, List.set_cons_zero, List.set_cons_succ]
   refine AnyTwo.takeAny HT12 (i := 7) (oi := { dst := some 75, op := _, type := _, pos := _, after := _, guard := _ }) (v := ?via7) rfl (by kernel_rfl) (by kernel_rfl) (by decide +kernel) (by rfl) (fun _ _ _ h => h) (Or.inl ⟨by rfl, ?yia7⟩) (ph_one (by kernel_rfl) hS1) ?ria7
   case yia7 => (intro w hSw; (try dsimp only at hSw); go_simp; try (with_reducible rfl))
   try simp only [Act.put, List.setIfInBounds_toArray, List.set_cons_zero, List.set_cons_succ]
   refine AnyTwo.step (i := 9) (o := { dst := none, op := _, type := _, pos := _, after := _, guard := _ }) (by kernel_rfl) rfl (fun K hK => ?_)
   go_simp
   have hS1' : (fun w' : World => Below u3.heap.size u3 w' ∧ (gV < w'.heap.size ∧ w'.cell? ⟨gV, 0, none⟩ = some (.int .i64 T.kind) ∧ w'.cell? ⟨gV, 1, none⟩ = some (.int .i64 T.num) ∧ w'.cell? ⟨gV, 2, none⟩ = some (.slice aV T.kids.length cV))) _ := hold1T_set3 HH9.out (gz := u3.heap.size) (x := .int .i64 Y.kind) (y := .int .i64 Y.num) (z := .slice aVY Y.kids.length cVY) HZ0.out HXL.out
   refine hK.out _ _ (ph_one (by kernel_rfl) hS1') ?_
   clear hK K hS1
   have hS1 := hS1'
   clear hS1'
   try simp only [Act.put, List.setIfInBounds_toArray, List.set_cons_zero, List.set_cons_succ]
   refine AnyTwo.step (i := 10) (o := { dst := some 13, op := _, type := _, pos := _, after := _, guard := _ }) (by kernel_rfl) rfl (fun K hK => ?_)
   go_simp
   refine hK.out _ _ (ph_end (by kernel_rfl) hS1) ?_
   clear hK K
   try simp only [Act.put, List.setIfInBounds_toArray, List.set_cons_zero, List.set_cons_succ]
   refine AnyTwo.done (by kernel_rfl) ?_ _
   go_wp2_with fail
   go_meet
   exact ⟨u3.heap.size, aVY, cVY, rfl, rfl, hold_be hS1, HZ.out.set3, (tl_sl3 HW.out HGL.out).mono (Nat.zero_le _)⟩
 case rest =>
  obtain ⟨gVY, aVY, cVY, rfl, rfl, hb, hv8, hs8⟩ := hcut
  rename World => u4
  clear HX HSX HTX
  try clear HOF hof2
  replace V := tuck (V.out.below hb)
  replace VX := tuck (VX.out.below hb)
  replace VW := tuck (VW.out.below hb)
  replace SL := tuck (SL.out.below hb)
  replace HB := tuck (bAfter HB.out hb)
  have VY : Hid (TV gVY Y aVY cVY u4) := tuck ⟨hv8, hs8⟩
  clear hb hv8 hs8
  go_upto_region 10 with fail
  obtain ⟨of, hof1, hof2⟩ := SL.out.rest' kk HN.out hcq hk
  have HOF := tuck hof1
  clear hof1
  have HX := tuck (show BoxAt gVY Y.kind Y.num (.slice aVY Y.kids.length cVY) u4 from VY.out.var.four)
  have HSX := tuck (hof2)
  have HTX := tuck VY.out.tm
  go_cut [14, 15] (fun p0 p1 wx => ∃ (gz : Nat) (aa : Option Addr) (cc : Nat), p0 = .pointer (some ⟨gz, 0, none⟩) ∧ p1 = .bool true ∧ Below u4.heap.size u4 wx ∧ VarAt gz X.kind X.num (.slice aa X.kids.length cc) wx ∧ SlIn wx 0 X.kids (.slice aa X.kids.length cc))
  case first =>
   have HT12 : ∀ w' : World, (fun w' : World => Below u4.heap.size u4 w' ∧ (gVY < w'.heap.size ∧ w'.cell? ⟨gVY, 0, none⟩ = some (.int .i64 Y.kind) ∧ w'.cell? ⟨gVY, 1, none⟩ = some (.int .i64 Y.num) ∧ w'.cell? ⟨gVY, 2, none⟩ = some (.slice aVY Y.kids.length cVY))) w' → (fun w' : World => Below u4.heap.size u4 w' ∧ (gVY < w'.heap.size ∧ w'.cell? ⟨gVY, 0, none⟩ = some (.int .i64 Y.kind) ∧ w'.cell? ⟨gVY, 1, none⟩ = some (.int .i64 Y.num) ∧ w'.cell? ⟨gVY, 2, none⟩ = some (.slice aVY Y.kids.length cVY))) w' := fun w' h => h
   refine AnyTwo.begin (fun w' : World => Below u4.heap.size u4 w' ∧ (gVY < w'.heap.size ∧ w'.cell? ⟨gVY, 0, none⟩ = some (.int .i64 Y.kind) ∧ w'.cell? ⟨gVY, 1, none⟩ = some (.int .i64 Y.num) ∧ w'.cell? ⟨gVY, 2, none⟩ = some (.slice aVY Y.kids.length cVY))) (fun w' : World => Below u4.heap.size u4 w' ∧ (gVY < w'.heap.size ∧ w'.cell? ⟨gVY, 0, none⟩ = some (.int .i64 Y.kind) ∧ w'.cell? ⟨gVY, 1, none⟩ = some (.int .i64 Y.num) ∧ w'.cell? ⟨gVY, 2, none⟩ = some (.slice aVY Y.kids.length cVY))) 10 (by kernel_rfl) ?_
   have hS1 : (fun w' : World => Below u4.heap.size u4 w' ∧ (gVY < w'.heap.size ∧ w'.cell? ⟨gVY, 0, none⟩ = some (.int .i64 Y.kind) ∧ w'.cell? ⟨gVY, 1, none⟩ = some (.int .i64 Y.num) ∧ w'.cell? ⟨gVY, 2, none⟩ = some (.slice aVY Y.kids.length cVY))) u4.drew := ⟨(Below.refl _ _).drew, HX.out⟩
   have HXL : Hid (gVY < u4.heap.size) := tuck HX.out.1
   refine AnyTwo.takeAny HT12 (i := 0) (oi := { dst := some 77, op := _, type := _, pos := _, after := _, guard := _ }) (v := ?vj0) rfl (by kernel_rfl) (by kernel_rfl) (by decide +kernel) (by rfl) (fun _ _ _ h => h) (Or.inl ⟨by rfl, ?yj0⟩) (ph_one (by kernel_rfl) hS1) ?rj0
   case yj0 => (intro w hSw; (try dsimp only at hSw); go_simp; try (with_reducible rfl))
   try simp only [Act.put, List.setIfInBounds_toArray, List.set_cons_zero, List.set_cons_succ]
   refine AnyTwo.takeAny HT12 (i := 1) (oi := { dst := some 78, op := _, type := _, pos := _, after := _, guard := _ }) (v := ?vj1) rfl (by kernel_rfl) (by kernel_rfl) (by decide +kernel) (by rfl) (fun _ _ _ h => h) (Or.inl ⟨by rfl, ?yj1⟩) (ph_one (by kernel_rfl) hS1) ?rj1
   case yj1 => (intro w hSw; (try dsimp only at hSw); go_simp; try (with_reducible rfl))
   try simp only [Act.put, List.setIfInBounds_toArray, List.set_cons_zero, List.set_cons_succ]
   refine AnyTwo.takeAny HT12 (i := 2) (oi := { dst := some 79, op := _, type := _, pos := _, after := _, guard := _ }) (v := ?vj2) rfl (by kernel_rfl) (by kernel_rfl) (by decide +kernel) (by rfl) (fun _ _ _ h => h) (Or.inl ⟨by rfl, ?yj2⟩) (ph_one (by kernel_rfl) hS1) ?rj2
   case yj2 => (intro w hSw; (try dsimp only at hSw); go_simp; try (with_reducible rfl))
   try simp only [Act.put, List.setIfInBounds_toArray, List.set_cons_zero, List.set_cons_succ]
   refine AnyTwo.takeAny HT12 (i := 3) (oi := { dst := some 80, op := _, type := _, pos := _, after := _, guard := _ }) (v := (.slice (some ⟨q, of, none⟩) (n - kk) (cq - kk))) rfl (by kernel_rfl) (by kernel_rfl) (by decide +kernel) (by rfl) (fun _ _ _ h => h) (Or.inl ⟨by rfl, ?yj3⟩) (ph_one (by kernel_rfl) hS1) ?rj3
   case yj3 => (intro w hSw; (try dsimp only at hSw); go_simp; exact HOF.out)
   try simp only [Act.put, List.setIfInBounds_toArray, List.set_cons_zero, List.set_cons_succ]
   refine AnyTwo.fork (i := 4) (o := { dst := some 81, op := _, type := _, pos := _, after := _, guard := _ }) (j := 8) (o' := { dst := some 14, op := _, type := _, pos := _, after := _, guard := _ }) (by kernel_rfl) rfl rfl (fun K hK => ?_) (fun K hK => ?_)
   ·skip
    go_simp
    refine (HI2.out _ _ _ (HSX.out.below (hold_be hS1)) (by obtain ⟨s, e, hs⟩ := HTX.out; exact ⟨s, e, hs.below (hold_be hS1)⟩)).mono ?_
    rintro e wr ⟨hbq, vv, rfl, ss, rfl, hin⟩
    obtain ⟨aVZ, cVZ, rfl⟩ := hin.form
    have HW := tuck hin
    clear hin
    have HH9 := tuck (hold1T hS1 hbq)
    have hS1' : (fun w' : World => Below u4.heap.size u4 w' ∧ (gVY < w'.heap.size ∧ w'.cell? ⟨gVY, 0, none⟩ = some (.int .i64 Y.kind) ∧ w'.cell? ⟨gVY, 1, none⟩ = some (.int .i64 Y.num) ∧ w'.cell? ⟨gVY, 2, none⟩ = some (.slice aVY Y.kids.length cVY))) _ := HH9.out
    refine hK.out _ _ (ph_one (by kernel_rfl) hS1') ?_
    clear hK K hS1
    have hS1 := hS1'
    clear hS1'
    try simp only [Act.put, List.setIfInBounds_toArray, List.set_cons_zero, List.set_cons_succ]
    refine AnyTwo.takeAny HT12 (i := 5) (oi := { dst := some 76, op := _, type := _, pos := _, after := _, guard := _ }) (v := ?vjc5) rfl (by kernel_rfl) (by kernel_rfl) (by decide +kernel) (by rfl) (fun _ _ _ h => h) (Or.inl ⟨by rfl, ?yjc5⟩) (ph_one (by kernel_rfl) hS1) ?rjc5
    case yjc5 => (intro w hSw; (try dsimp only at hSw); go_simp; try (with_reducible rfl))
    try simp only [Act.put, List.setIfInBounds_toArray, List.set_cons_zero, List.set_cons_succ]
    refine AnyTwo.takeAny HT12 (i := 6) (oi := { dst := some 82, op := _, type := _, pos := _, after := _, guard := _ }) (v := ?vjc6) rfl (by kernel_rfl) (by kernel_rfl) (by decide +kernel) (by rfl) (fun _ _ _ h => h) (Or.inl ⟨by rfl, ?yjc6⟩) (ph_one (by kernel_rfl) hS1) ?rjc6
    case yjc6 => (intro w hSw; (try dsimp only at hSw); go_simp; try (with_reducible rfl))
    try simp only [Act.put, List.setIfInBounds_toArray, List.set_cons_zero, List.set_cons_succ]
    refine AnyTwo.takeAny HT12 (i := 7) (oi := { dst := some 83, op := _, type := _, pos := _, after := _, guard := _ }) (v := ?vjc7) rfl (by kernel_rfl) (by kernel_rfl) (by decide +kernel) (by rfl) (fun _ _ _ h => h) (Or.inl ⟨by rfl, ?yjc7⟩) (ph_one (by kernel_rfl) hS1) ?rjc7
    case yjc7 => (intro w hSw; (try dsimp only at hSw); go_simp; try (with_reducible rfl))
    try simp only [Act.put, List.setIfInBounds_toArray, List.set_cons_zero, List.set_cons_succ]
    refine AnyTwo.step (i := 8) (o := { dst := some 14, op := _, type := _, pos := _, after := _, guard := _ }) (by kernel_rfl) rfl (fun K hK => ?_)
    go_simp
    have HZ0 := tuck (show u4.heap.size ≤ wr.heap.size from (hold_be hS1).size)
    have hS1' : (fun w' : World => Below u4.heap.size u4 w' ∧ (gVY < w'.heap.size ∧ w'.cell? ⟨gVY, 0, none⟩ = some (.int .i64 Y.kind) ∧ w'.cell? ⟨gVY, 1, none⟩ = some (.int .i64 Y.num) ∧ w'.cell? ⟨gVY, 2, none⟩ = some (.slice aVY Y.kids.length cVY))) _ := hold1T HH9.out (below1 wr (.cells #[.int .i64 0, .int .i64 0, .slice none 0 0] 25))
    refine hK.out _ _ (ph_one (by kernel_rfl) hS1') ?_
    clear hK K hS1
    have hS1 := hS1'
    clear hS1'
    try simp only [Act.put, List.setIfInBounds_toArray, List.set_cons_zero, List.set_cons_succ]
    refine AnyTwo.step (i := 9) (o := { dst := none, op := _, type := _, pos := _, after := _, guard := _ }) (by kernel_rfl) rfl (fun K hK => ?_)
    go_simp
    have hS1' : (fun w' : World => Below u4.heap.size u4 w' ∧ (gVY < w'.heap.size ∧ w'.cell? ⟨gVY, 0, none⟩ = some (.int .i64 Y.kind) ∧ w'.cell? ⟨gVY, 1, none⟩ = some (.int .i64 Y.num) ∧ w'.cell? ⟨gVY, 2, none⟩ = some (.slice aVY Y.kids.length cVY))) _ := hold1T HH9.out (below1 wr (.cells #[.int .i64 X.kind, .int .i64 X.num, .slice aVZ X.kids.length cVZ] 25))
    refine hK.out _ _ (ph_one (by kernel_rfl) hS1') ?_
    clear hK K hS1
    have hS1 := hS1'
    clear hS1'
    try simp only [Act.put, List.setIfInBounds_toArray, List.set_cons_zero, List.set_cons_succ]
    refine AnyTwo.step (i := 10) (o := { dst := some 15, op := _, type := _, pos := _, after := _, guard := _ }) (by kernel_rfl) rfl (fun K hK => ?_)
    go_simp
    refine hK.out _ _ (ph_end (by kernel_rfl) hS1) ?_
    clear hK K
    try simp only [Act.put, List.setIfInBounds_toArray, List.set_cons_zero, List.set_cons_succ]
    refine AnyTwo.done (by kernel_rfl) ?_ _
    go_wp2_with fail
    go_meet
    exact ⟨wr.heap.size, aVZ, cVZ, rfl, rfl, hold_be hS1, VarAt.new wr _ _ _, (HW.out.mono (Nat.zero_le _)).below (below1 wr _)⟩
   ·skip
    go_simp
    have HZ := tuck (show VarAt u4.heap.size 0 0 (.slice none 0 0) (u4.alloc (.cells #[.int .i64 0, .int .i64 0, .slice none 0 0] 25)).drew from VarAt.new u4 0 0 (.slice none 0 0))
    have HZ0 : Hid (u4.heap.size ≤ u4.heap.size) := tuck (Nat.le_refl _)
    have hS1' : (fun w' : World => Below u4.heap.size u4 w' ∧ (gVY < w'.heap.size ∧ w'.cell? ⟨gVY, 0, none⟩ = some (.int .i64 Y.kind) ∧ w'.cell? ⟨gVY, 1, none⟩ = some (.int .i64 Y.num) ∧ w'.cell? ⟨gVY, 2, none⟩ = some (.slice aVY Y.kids.length cVY))) _ := ⟨(below1 u4 (.cells #[.int .i64 0, .int .i64 0, .slice none 0 0] 25)).drew, BoxAt.below HX.out (below1 u4 (.cells #[.int .i64 0, .int .i64 0, .slice none 0 0] 25)).drew⟩
    refine hK.out _ _ (ph_one (by kernel_rfl) hS1') ?_
    clear hK K hS1
    have hS1 := hS1'
    clear hS1'
    try simp only [Act.put, List.setIfInBounds_toArray, List.set_cons_zero, List.set_cons_succ]
    refine AnyTwo.step (i := 4) (o := { dst := some 81, op := _, type := _, pos := _, after := _, guard := _ }) (by kernel_rfl) rfl (fun K hK => ?_)
    go_simp
    have HGL := tuck HZ.out.facts.1
    refine (HI2.out _ _ _ (HSX.out.below (hold_be hS1)) (by obtain ⟨s, e, hs⟩ := HTX.out; exact ⟨s, e, hs.below (hold_be hS1)⟩)).mono ?_
    rintro e wr ⟨hbq, vv, rfl, ss, rfl, hin⟩
    obtain ⟨aVZ, cVZ, rfl⟩ := hin.form
    have HW := tuck hin
    clear hin
    have HH9 := tuck (hold1T hS1 hbq)
    replace HZ := tuck (HZ.out.below hbq)
    obtain ⟨zz, y0, y1, y2, yf⟩ := HZ.out.facts
    have hS1' : (fun w' : World => Below u4.heap.size u4 w' ∧ (gVY < w'.heap.size ∧ w'.cell? ⟨gVY, 0, none⟩ = some (.int .i64 Y.kind) ∧ w'.cell? ⟨gVY, 1, none⟩ = some (.int .i64 Y.num) ∧ w'.cell? ⟨gVY, 2, none⟩ = some (.slice aVY Y.kids.length cVY))) _ := HH9.out
    refine hK.out _ _ (ph_one (by kernel_rfl) hS1') ?_
    clear hK K hS1
    have hS1 := hS1'
    clear hS1'
    try simp only [Act.put, List.setIfInBounds_toArray, List.set_cons_zero, List.set_cons_succ]
    refine AnyTwo.takeAny HT12 (i := 5) (oi := { dst := some 76, op := _, type := _, pos := _, after := _, guard := _ }) (v := ?vja5) rfl (by kernel_rfl) (by kernel_rfl) (by decide +kernel) (by rfl) (fun _ _ _ h => h) (Or.inl ⟨by rfl, ?yja5⟩) (ph_one (by kernel_rfl) hS1) ?rja5
    case yja5 => (intro w hSw; (try dsimp only at hSw); go_simp; try (with_reducible rfl))
    try simp only [Act.put, List.setIfInBounds_toArray, List.set_cons_zero, List.set_cons_succ]
    refine AnyTwo.takeAny HT12 (i := 6) (oi := { dst := some 82, op := _, type := _, pos := _, after := _, guard := _ }) (v := ?vja6) rfl (by kernel_rfl) (by kernel_rfl) (by decide +kernel) (by rfl) (fun _ _ _ h => h) (Or.inl ⟨by rfl, ?yja6⟩) (ph_one (by kernel_rfl) hS1) ?rja6
    case yja6 => (intro w hSw; (try dsimp only at hSw); go_simp; try (with_reducible rfl))
    try simp only [Act.put, List.setIfInBounds_toArray, List.set_cons_zero, List.set_cons_succ]
    refine AnyTwo.takeAny HT12 (i := 7) (oi := { dst := some 83, op := _, type := _, pos := _, after := _, guard := _ }) (v := ?vja7) rfl (by kernel_rfl) (by kernel_rfl) (by decide +kernel) (by rfl) (fun _ _ _ h => h) (Or.inl ⟨by rfl, ?yja7⟩) (ph_one (by kernel_rfl) hS1) ?rja7
    case yja7 => (intro w hSw; (try dsimp only at hSw); go_simp; try (with_reducible rfl))
    try simp only [Act.put, List.setIfInBounds_toArray, List.set_cons_zero, List.set_cons_succ]
    refine AnyTwo.step (i := 9) (o := { dst := none, op := _, type := _, pos := _, after := _, guard := _ }) (by kernel_rfl) rfl (fun K hK => ?_)
    go_simp
    have hS1' : (fun w' : World => Below u4.heap.size u4 w' ∧ (gVY < w'.heap.size ∧ w'.cell? ⟨gVY, 0, none⟩ = some (.int .i64 Y.kind) ∧ w'.cell? ⟨gVY, 1, none⟩ = some (.int .i64 Y.num) ∧ w'.cell? ⟨gVY, 2, none⟩ = some (.slice aVY Y.kids.length cVY))) _ := hold1T_set3 HH9.out (gz := u4.heap.size) (x := .int .i64 X.kind) (y := .int .i64 X.num) (z := .slice aVZ X.kids.length cVZ) HZ0.out HXL.out
    refine hK.out _ _ (ph_one (by kernel_rfl) hS1') ?_
    clear hK K hS1
    have hS1 := hS1'
    clear hS1'
    try simp only [Act.put, List.setIfInBounds_toArray, List.set_cons_zero, List.set_cons_succ]
    refine AnyTwo.step (i := 10) (o := { dst := some 15, op := _, type := _, pos := _, after := _, guard := _ }) (by kernel_rfl) rfl (fun K hK => ?_)
    go_simp
    refine hK.out _ _ (ph_end (by kernel_rfl) hS1) ?_
    clear hK K
    try simp only [Act.put, List.setIfInBounds_toArray, List.set_cons_zero, List.set_cons_succ]
    refine AnyTwo.done (by kernel_rfl) ?_ _
    go_wp2_with fail
    go_meet
    exact ⟨u4.heap.size, aVZ, cVZ, rfl, rfl, hold_be hS1, HZ.out.set3, (tl_sl3 HW.out HGL.out).mono (Nat.zero_le _)⟩
  case rest =>
   obtain ⟨gVZ, aVZ, cVZ, rfl, rfl, hb, hv8, hs8⟩ := hcut
   rename World => u5
   clear HX HSX HTX
   try clear HOF hof2
   replace V := tuck (V.out.below hb)
   replace VX := tuck (VX.out.below hb)
   replace VW := tuck (VW.out.below hb)
   replace VY := tuck (VY.out.below hb)
   replace SL := tuck (SL.out.below hb)
   replace HB := tuck (bAfter HB.out hb)
   have VZ : Hid (TV gVZ X aVZ cVZ u5) := tuck ⟨hv8, hs8⟩
   clear hb hv8 hs8
   obtain ⟨zVZ, c0VZ, c1VZ, c2VZ, cfVZ⟩ := VZ.out.facts
   obtain ⟨zVX, c0VX, c1VX, c2VX, cfVX⟩ := VX.out.facts
   go_wp2_with fail
   refine (HTS.out _ _ _ VZ.out.tm VX.out.tm).mono ?_
   rintro e u6 ⟨rfl, hb⟩
   clear zVZ c0VZ c1VZ c2VZ cfVZ zVX c0VX c1VX c2VX cfVX
   replace V := tuck (V.out.below hb)
   replace VX := tuck (VX.out.below hb)
   replace VW := tuck (VW.out.below hb)
   replace VY := tuck (VY.out.below hb)
   replace VZ := tuck (VZ.out.below hb)
   replace SL := tuck (SL.out.below hb)
   replace HB := tuck (bAfter HB.out hb)
   clear hb
   go_wp2_with fail
   go_ret
   exact ⟨rfl, HB.out⟩
set_option maxRecDepth 100000 in
theorem lifted (os : Os) (started : os.Started) (H : Type) (enc : TypeId × Value → H) :
  ReturnsInHanded {} Try.checked os 4 .any (Rows.fnApplyOneSpec.pre6 enc Try.prog Try.f4 Rows.fnApplyOneRow.domain false) (Rows.fnApplyOneSpec.post enc Try.prog Try.f4 false true false false) := by
 refine returnsInHanded_of_change (C := Try.checked) own started (by kernel_rfl) Try.func4
  (ChangeSpec.witness6 (enc := enc) (C := Try.checked) false ⟨#[], #[.slice none 0 0, .slice none 0 0], []⟩ 8 (by kernel_rfl) (by kernel_rfl) (by kernel_rfl) (by kernel_rfl)) ?_
 intro W base args ds gs before hval0 hW hcnd _
 have hval : ∀ (j : Nat) t v, Try.f4.params[j]? = some t → args[j]? = some v → Value.okWide Try.prog W .any base t v := hval0
 have hW' := hW
 obtain ⟨p, q, hA0, hV, rfl, hfz, hnd⟩ := hW
 have hA : DataW.TrodAll enc Try.prog W 0 (fun _ => true) true Try.f4.params.toList args.toList ds p := hA0
 rw [Try.params4] at hA hval
 obtain ⟨v0, vs0, d0, ds0, p0, q0, hargs, rfl, rfl, h0, r0⟩ := trodAll_cons hA
 obtain ⟨v1, vs1, d1, ds1, p1, q1, rfl, rfl, rfl, h1, r1⟩ := trodAll_cons r0
 obtain ⟨rfl, rfl, rfl⟩ := trodAll_nil r1
 obtain rfl : args = #[v0, v1] := by cases args; simp_all
 obtain ⟨U0, ad0, bb0, oo0, len0, cap0, rfl, hlc0, hcm0, hbl0, hby0⟩ := open_bytes (hval 0 22 v0 rfl rfl) h0
 obtain ⟨U1, ad1, bb1, oo1, len1, cap1, rfl, hlc1, hcm1, hbl1, hby1⟩ := open_bytes (hval 1 22 v1 rfl rfl) h1
 refine (walk U0 ad0 bb0 oo0 len0 cap0 W hlc0 hcm0 hby0 U1 ad1 bb1 oo1 len1 cap1 hlc1 hcm1 hby1).mono fun e W' ⟨he, hb⟩ => ?_
 subst he
 exact ⟨_, rfl, law_post rfl rfl (fun gs h => by subst h; rfl) (by rw [Try.params4]; exact readable_FnApplyOne) laid hW' hb⟩
theorem over : Rows.fnApplyOneRow.holds Try.pinned (OpenSpec.ofChange Rows.fnApplyOneSpec) :=
 OpenClaim.holds_of_wide 4 Try.f4 rfl rfl rfl rfl rfl rfl rfl ⟨rfl, rfl, rfl, rfl, rfl⟩ rfl rfl rfl rfl rfl (by kernel_rfl) Try.func4 (by kernel_rfl)
  (of_decide_eq_true (by kernel_rfl)) (by unfold Func.isWrapper; first | (rw [if_pos (by decide +kernel)]; kernel_rfl) | (rw [if_neg (by decide +kernel)]; exact ⟨rfl, rfl⟩))
  (fun os started H enc _ => lifted os started H enc)
theorem proved : Rows.FnApplyOneSaid :=
 over
end Go.Proofs.Ytkjfdhdmkaofeaa.fnApplyOne
