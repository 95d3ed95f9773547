/-
  The law FnTermAt: whatever the bytes, the part at a place of a part is the part at the combined place, and the binders above it add up.
-/
import Derived.Test.YtihlbbbajaepoaaGreatQ08
import Derived.Test.YtihlbbbajaepoaaGreatQ17
import Derived.Test.YtihlbbbajaepoaaGreatQ50
import Derived.Test.YtihlbbbajaepoaaGreatQ53
import Derived.IntWalk
namespace Go.Proofs.YtihlbbbajaepoaaGreat.fnTermAt
open Go.ChangeShapes Go.WideShapes Go.ChangeAt Go.RowKit Go.Deep
set_option linter.unusedVariables false
theorem readable_FnTermAt : ∀ t ∈ (#[43, 43] : Array TypeId).toList, Tryz.prog.readableRec t = true ∧ t < Tryz.prog.types.size := by
 intro t ht
 simp at ht
 subst ht
 exact ⟨by kernel_rfl, of_decide_eq_true (by kernel_rfl)⟩
theorem laid : laidOutB Tryz.prog = true := by kernel_rfl
set_option maxRecDepth 100000 in
set_option maxHeartbeats 1600000 in
theorem walk (U : Nat → Int) (a : Option Addr) (b o len cap : Nat) (w : World) (hlc : len ≤ cap) (hcm : cap ≤ maxLen) (hby : Bytes U a b o len w) (U2 : Nat → Int) (a2 : Option Addr) (b2 o2 len2 cap2 : Nat) (hlc2 : len2 ≤ cap2) (hcm2 : cap2 ≤ maxLen) (hby2 : Bytes U2 a2 b2 o2 len2 w) : Calls Tryz.prog 4 #[.slice a len cap, .slice a2 len2 cap2] w fun e w' => e = .returned (.bool true) ∧ Below w.heap.size w w' := by
 unfold maxLen at hcm hcm2
 by_cases hl : 1048576 < len
 ·have hl' : (1048576 : Int) < (len : Int) := by omega
  clear hby hby2
  go_enter Tryz.func4, Tryz.ntmps4
  go_wp2
  go_ret
  exact ⟨rfl, Below.refl _ _⟩
 have hl' : ¬ (1048576 : Int) < (len : Int) := by omega
 by_cases hl3 : 1048576 < len2
 ·have hl3' : (1048576 : Int) < (len2 : Int) := by omega
  clear hby hby2
  go_enter Tryz.func4, Tryz.ntmps4
  go_wp2
  go_ret
  exact ⟨rfl, Below.refl _ _⟩
 have hl3' : ¬ (1048576 : Int) < (len2 : Int) := by omega
 have HD := tuck (dTermAt_any w (by omega) hlc hby)
 clear hby hby2
 go_enter Tryz.func4, Tryz.ntmps4
 go_wp2_with fail
 refine HD.out.mono ?_
 rintro e w1 ⟨T, v, N, n, vb, vo, vc, rfl, ⟨s, rfl, hin⟩, hil, hn9, hsz, hb⟩
 obtain ⟨aV, cV, rfl⟩ := hin.form
 have V := tuck (TV.new (hin.mono (Nat.zero_le _)))
 have hbx := below1 w1 (.cells #[.int .i64 T.kind, .int .i64 T.num, .slice aV T.kids.length cV] 34)
 have HB := tuck (bAfter hb hbx)
 have SL := tuck ((hil.mono (Nat.zero_le _)).below hbx)
 have HN := tuck hn9
 clear hin hb hbx HD hsz hil hn9
 go_wp2_with fail
 generalize w1.alloc (.cells #[.int .i64 T.kind, .int .i64 T.num, .slice aV T.kids.length cV] 34) = U0 at *
 generalize w1.heap.size = gV at *
 by_cases hP : IsPlace T N n
 rotate_left
 ·skip
  obtain ⟨X, hX⟩ : ∃ X, X = zeroT := ⟨_, rfl⟩
  have HIM : Hid (∀ (w : World) (v tv : Value), Ints w 0 N n v → TmIn w 0 T tv → Calls Tryz.prog 23 #[tv, v] w (PairPost w X false)) := fun w v tv h1 h2 => by
   have h3 := termAtI_p (N := N) HN.out w v tv h1 h2; rwa [orZero_no hP, tr_not hP, ← hX] at h3
  have HSP : Hid (∀ (w : World) (v tv : Value), Ints w 0 N n v → TmIn w 0 T tv → Calls Tryz.prog 24 #[tv, v] w (PairPost w X false)) := fun w v tv h1 h2 => by
   have h3 := termAtS_p (N := N) HN.out w v tv h1 h2; rwa [orZero_no hP, tr_not hP, ← hX] at h3
  have HTS : Hid (∀ (w : World) (v1 v2 : Value), TmIn w 0 X v1 → TmIn w 0 X v2 → Calls Tryz.prog 25 #[v1, v2] w (BoolPost w true)) := fun w v1 v2 h1 h2 => by rw [hX] at h1 h2; exact same_z w v1 v2 h1 h2
  clear hX hP
  refine (HIM.out _ _ _ SL.out.ints V.out.tm).mono ?_
  rintro e u21 ⟨hb, vv, rfl, ss, rfl, hin⟩
  obtain ⟨aVX, cVX, rfl⟩ := hin.form
  replace V := tuck (V.out.below hb)
  replace SL := tuck (SL.out.below hb)
  replace HB := tuck (bAfter HB.out hb)
  have HNVX := tuck hin
  clear hb hin
  obtain ⟨zV, c0V, c1V, c2V, cfV⟩ := V.out.facts
  go_wp2_with fail
  clear zV c0V c1V c2V cfV
  have VX := tuck (TV.new HNVX.out)
  have hb := below1 u21 (.cells #[.int .i64 X.kind, .int .i64 X.num, .slice aVX X.kids.length cVX] 34)
  replace V := tuck (V.out.below hb)
  replace SL := tuck (SL.out.below hb)
  replace HB := tuck (bAfter HB.out hb)
  clear hb HNVX
  generalize u21.alloc (.cells #[.int .i64 X.kind, .int .i64 X.num, .slice aVX X.kids.length cVX] 34) = U21 at *
  generalize u21.heap.size = gVX at *
  refine (HSP.out _ _ _ SL.out.ints V.out.tm).mono ?_
  rintro e u22 ⟨hb, vv, rfl, ss, rfl, hin⟩
  obtain ⟨aVW, cVW, rfl⟩ := hin.form
  replace V := tuck (V.out.below hb)
  replace VX := tuck (VX.out.below hb)
  replace SL := tuck (SL.out.below hb)
  replace HB := tuck (bAfter HB.out hb)
  have HNVW := tuck hin
  clear hb hin
  obtain ⟨zV, c0V, c1V, c2V, cfV⟩ := V.out.facts
  obtain ⟨zVX, c0VX, c1VX, c2VX, cfVX⟩ := VX.out.facts
  go_wp2_with fail
  clear zV c0V c1V c2V cfV zVX c0VX c1VX c2VX cfVX
  have VW := tuck (TV.new HNVW.out)
  have hb := below1 u22 (.cells #[.int .i64 X.kind, .int .i64 X.num, .slice aVW X.kids.length cVW] 34)
  replace V := tuck (V.out.below hb)
  replace VX := tuck (VX.out.below hb)
  replace SL := tuck (SL.out.below hb)
  replace HB := tuck (bAfter HB.out hb)
  clear hb HNVW
  generalize u22.alloc (.cells #[.int .i64 X.kind, .int .i64 X.num, .slice aVW X.kids.length cVW] 34) = U22 at *
  generalize u22.heap.size = gVW at *
  refine (HTS.out _ _ _ VX.out.tm VW.out.tm).mono ?_
  rintro e u23 ⟨rfl, hb⟩
  replace V := tuck (V.out.below hb)
  replace VX := tuck (VX.out.below hb)
  replace VW := tuck (VW.out.below hb)
  replace SL := tuck (SL.out.below hb)
  replace HB := tuck (bAfter HB.out hb)
  clear hb
  obtain ⟨zV, c0V, c1V, c2V, cfV⟩ := V.out.facts
  obtain ⟨zVX, c0VX, c1VX, c2VX, cfVX⟩ := VX.out.facts
  obtain ⟨zVW, c0VW, c1VW, c2VW, cfVW⟩ := VW.out.facts
  go_wp2_with fail
  refine (HTS.out _ _ _ VX.out.tm VW.out.tm).mono ?_
  rintro e u24 ⟨rfl, hb⟩
  clear zV c0V c1V c2V cfV zVX c0VX c1VX c2VX cfVX zVW c0VW c1VW c2VW cfVW
  replace V := tuck (V.out.below hb)
  replace VX := tuck (VX.out.below hb)
  replace VW := tuck (VW.out.below hb)
  replace SL := tuck (SL.out.below hb)
  replace HB := tuck (bAfter HB.out hb)
  clear hb
  obtain ⟨zV, c0V, c1V, c2V, cfV⟩ := V.out.facts
  obtain ⟨zVX, c0VX, c1VX, c2VX, cfVX⟩ := VX.out.facts
  obtain ⟨zVW, c0VW, c1VW, c2VW, cfVW⟩ := VW.out.facts
  go_wp2_with fail
  go_ret
  exact ⟨rfl, HB.out⟩
 obtain ⟨X, hX⟩ : ∃ X, X = wayT T N n := ⟨_, rfl⟩
 have HVX : Hid (X.Valid) := tuck (hX ▸ hP.ok.valid)
 have HIM : Hid (∀ (w : World) (v tv : Value), Ints w 0 N n v → TmIn w 0 T tv → Calls Tryz.prog 23 #[tv, v] w (PairPost w X true)) := fun w v tv h1 h2 => by
  have h3 := termAtI_p (N := N) HN.out w v tv h1 h2; rwa [orZero_yes hP, tr_of hP, ← hX] at h3
 have HSP : Hid (∀ (w : World) (v tv : Value), Ints w 0 N n v → TmIn w 0 T tv → Calls Tryz.prog 24 #[tv, v] w (PairPost w X true)) := fun w v tv h1 h2 => by
  have h3 := termAtS_p (N := N) HN.out w v tv h1 h2; rwa [orZero_yes hP, tr_of hP, ← hX] at h3
 have HTS : Hid (∀ (w : World) (v1 v2 : Value), TmIn w 0 X v1 → TmIn w 0 X v2 → Calls Tryz.prog 25 #[v1, v2] w (BoolPost w true)) := same_v HVX.out
 obtain ⟨kk, hkk, hk⟩ : ∃ kk : Nat, (len2 : Int).tmod ((n : Int) + 1) = (kk : Int) ∧ kk ≤ n := ⟨len2 % (n + 1), by rw [show ((n : Int) + 1) = ((n + 1 : Nat) : Int) by omega, Int.tmod_eq_emod_of_nonneg (by omega)]; simp, by have := Nat.mod_lt len2 (show 0 < n + 1 by omega); omega⟩
 have hQ := place_first hP hk
 obtain ⟨hR, hRX, hRP⟩ := place_rest hP hk
 obtain ⟨Y, hY⟩ : ∃ Y, Y = wayT T N kk := ⟨_, rfl⟩
 rw [← hY] at hR hRX hRP
 obtain ⟨M, hM⟩ : ∃ M : Int → Int, M = (fun j => N (kk + j)) := ⟨_, rfl⟩
 rw [← hM] at hR hRX hRP
 have hnk : kk ≤ 1048576 ∧ n - kk ≤ 1048576 := by have := HN.out; omega
 have HNK := tuck hnk.1
 have HNR := tuck hnk.2
 obtain ⟨nb, hnb⟩ : ∃ nb : Int, nb = (bindersIn (wayP T N kk) : Nat) := ⟨_, rfl⟩
 obtain ⟨nc, hnc⟩ : ∃ nc : Int, nc = (bindersIn (wayP Y M (n - kk)) : Nat) := ⟨_, rfl⟩
 have hbb : 0 ≤ nb ∧ nb ≤ 29 ∧ 0 ≤ nc ∧ nc ≤ 29 := by
  have h1 := (hQ.ok.short hQ.1).2
  have h2 := (hR.ok.short hR.1).2
  have h3 := bindersIn_le (wayP T N kk)
  have h4 := bindersIn_le (wayP Y M (n - kk))
  omega
 have hna : ((bindersIn (wayP T N n) : Nat) : Int) = nb + nc := by rw [hRP, bindersIn_app, hnb, hnc]; push_cast; rfl
 have hwr : IntKind.i64.wrap (nb + nc) = nb + nc := IntWalk.i64_in _ (by omega)
 have heq : (nb + nc == nb + nc) = true := by simp
 have HI1 : Hid (∀ (w : World) (v tv : Value), Ints w 0 N kk v → TmIn w 0 T tv → Calls Tryz.prog 23 #[tv, v] w (NewPost8 w Y true)) := fun w v tv h1 h2 => by
  have h3 := termAtI_n (N := N) HNK.out w v tv h1 h2; rwa [orZero_yes hQ, tr_of hQ, ← hY] at h3
 have HI2 : Hid (∀ (w : World) (v tv : Value), Ints w 0 M (n - kk) v → TmIn w 0 Y tv → Calls Tryz.prog 23 #[tv, v] w (NewPost8 w X true)) := fun w v tv h1 h2 => by
  have h3 := termAtI_n (N := M) HNR.out w v tv h1 h2; rwa [orZero_yes hR, tr_of hR, hRX, ← hX] at h3
 have HB1 : Hid (∀ (w : World) (v tv : Value), Ints w 0 N n v → TmIn w 0 T tv → Calls Tryz.prog 26 #[tv, v] w (fun e w' => e = .returned (.tuple #[.int .i64 (nb + nc), .bool true]) ∧ Below w.heap.size w w')) := fun w v tv h1 h2 => by
  have h3 := bindersI_q HN.out w v tv h1 h2 hP; rwa [hna] at h3
 have HB2 : Hid (∀ (w : World) (v tv : Value), Ints w 0 N kk v → TmIn w 0 T tv → Calls Tryz.prog 26 #[tv, v] w (fun e w' => e = .returned (.tuple #[.int .i64 nb, .bool true]) ∧ Below w.heap.size w w')) := fun w v tv h1 h2 => by
  have h3 := bindersI_q HNK.out w v tv h1 h2 hQ; rwa [← hnb] at h3
 have HB3 : Hid (∀ (w : World) (v tv : Value), Ints w 0 M (n - kk) v → TmIn w 0 Y tv → Calls Tryz.prog 26 #[tv, v] w (fun e w' => e = .returned (.tuple #[.int .i64 nc, .bool true]) ∧ Below w.heap.size w w')) := fun w v tv h1 h2 => by
  have h3 := bindersI_q HNR.out w v tv h1 h2 hR; rwa [← hnc] at h3
 have HMM := tuck hM
 have hcq : n ≤ vc := SL.out.cap
 clear hX hP hY hQ hR hRX hRP hnk hnb hnc hna hM hbb
 refine (HIM.out _ _ _ SL.out.ints V.out.tm).mono ?_
 rintro e u1 ⟨hb, vv, rfl, ss, rfl, hin⟩
 obtain ⟨aVX, cVX, rfl⟩ := hin.form
 replace V := tuck (V.out.below hb)
 replace SL := tuck (SL.out.below hb)
 replace HB := tuck (bAfter HB.out hb)
 have HNVX := tuck hin
 clear hb hin
 obtain ⟨zV, c0V, c1V, c2V, cfV⟩ := V.out.facts
 go_wp2_with fail
 clear zV c0V c1V c2V cfV
 have VX := tuck (TV.new HNVX.out)
 have hb := below1 u1 (.cells #[.int .i64 X.kind, .int .i64 X.num, .slice aVX X.kids.length cVX] 34)
 replace V := tuck (V.out.below hb)
 replace SL := tuck (SL.out.below hb)
 replace HB := tuck (bAfter HB.out hb)
 clear hb HNVX
 generalize u1.alloc (.cells #[.int .i64 X.kind, .int .i64 X.num, .slice aVX X.kids.length cVX] 34) = U1 at *
 generalize u1.heap.size = gVX at *
 refine (HSP.out _ _ _ SL.out.ints V.out.tm).mono ?_
 rintro e u2 ⟨hb, vv, rfl, ss, rfl, hin⟩
 obtain ⟨aVW, cVW, rfl⟩ := hin.form
 replace V := tuck (V.out.below hb)
 replace VX := tuck (VX.out.below hb)
 replace SL := tuck (SL.out.below hb)
 replace HB := tuck (bAfter HB.out hb)
 have HNVW := tuck hin
 clear hb hin
 obtain ⟨zV, c0V, c1V, c2V, cfV⟩ := V.out.facts
 obtain ⟨zVX, c0VX, c1VX, c2VX, cfVX⟩ := VX.out.facts
 go_wp2_with fail
 clear zV c0V c1V c2V cfV zVX c0VX c1VX c2VX cfVX
 have VW := tuck (TV.new HNVW.out)
 have hb := below1 u2 (.cells #[.int .i64 X.kind, .int .i64 X.num, .slice aVW X.kids.length cVW] 34)
 replace V := tuck (V.out.below hb)
 replace VX := tuck (VX.out.below hb)
 replace SL := tuck (SL.out.below hb)
 replace HB := tuck (bAfter HB.out hb)
 clear hb HNVW
 generalize u2.alloc (.cells #[.int .i64 X.kind, .int .i64 X.num, .slice aVW X.kids.length cVW] 34) = U2 at *
 generalize u2.heap.size = gVW at *
 refine (HTS.out _ _ _ VX.out.tm VW.out.tm).mono ?_
 rintro e u3 ⟨rfl, hb⟩
 replace V := tuck (V.out.below hb)
 replace VX := tuck (VX.out.below hb)
 replace VW := tuck (VW.out.below hb)
 replace SL := tuck (SL.out.below hb)
 replace HB := tuck (bAfter HB.out hb)
 clear hb
 obtain ⟨zV, c0V, c1V, c2V, cfV⟩ := V.out.facts
 obtain ⟨zVX, c0VX, c1VX, c2VX, cfVX⟩ := VX.out.facts
 obtain ⟨zVW, c0VW, c1VW, c2VW, cfVW⟩ := VW.out.facts
 have hnn9 := HN.out
 have hd0 : ((n : Int) + 1 == 0) = false := by rw [beq_eq_false_iff_ne]; omega
 go_upto_region 9 with fail
 clear zV c0V c1V c2V cfV zVX c0VX c1VX c2VX cfVX zVW c0VW c1VW c2VW cfVW
 have HX := tuck (show BoxAt gV T.kind T.num (.slice aV T.kids.length cV) u3 from V.out.var.four)
 have HSX := tuck (SL.out.take (c' := vc) kk hk)
 have HTX := tuck V.out.tm
 go_cut [12, 13] (fun p0 p1 wx => ∃ (gz : Nat) (aa : Option Addr) (cc : Nat), p0 = .pointer (some ⟨gz, 0, none⟩) ∧ p1 = .bool true ∧ Below u3.heap.size u3 wx ∧ VarAt gz Y.kind Y.num (.slice aa Y.kids.length cc) wx ∧ SlIn wx 0 Y.kids (.slice aa Y.kids.length cc))
 case first =>
  have HT12 : ∀ w' : World, (fun w' : World => Below u3.heap.size u3 w' ∧ (gV < w'.heap.size ∧ w'.cell? ⟨gV, 0, none⟩ = some (.int .i64 T.kind) ∧ w'.cell? ⟨gV, 1, none⟩ = some (.int .i64 T.num) ∧ w'.cell? ⟨gV, 2, none⟩ = some (.slice aV T.kids.length cV))) w' → (fun w' : World => Below u3.heap.size u3 w' ∧ (gV < w'.heap.size ∧ w'.cell? ⟨gV, 0, none⟩ = some (.int .i64 T.kind) ∧ w'.cell? ⟨gV, 1, none⟩ = some (.int .i64 T.num) ∧ w'.cell? ⟨gV, 2, none⟩ = some (.slice aV T.kids.length cV))) w' := fun w' h => h
  refine AnyTwo.begin (fun w' : World => Below u3.heap.size u3 w' ∧ (gV < w'.heap.size ∧ w'.cell? ⟨gV, 0, none⟩ = some (.int .i64 T.kind) ∧ w'.cell? ⟨gV, 1, none⟩ = some (.int .i64 T.num) ∧ w'.cell? ⟨gV, 2, none⟩ = some (.slice aV T.kids.length cV))) (fun w' : World => Below u3.heap.size u3 w' ∧ (gV < w'.heap.size ∧ w'.cell? ⟨gV, 0, none⟩ = some (.int .i64 T.kind) ∧ w'.cell? ⟨gV, 1, none⟩ = some (.int .i64 T.num) ∧ w'.cell? ⟨gV, 2, none⟩ = some (.slice aV T.kids.length cV))) 10 (by kernel_rfl) ?_
  have hS1 : (fun w' : World => Below u3.heap.size u3 w' ∧ (gV < w'.heap.size ∧ w'.cell? ⟨gV, 0, none⟩ = some (.int .i64 T.kind) ∧ w'.cell? ⟨gV, 1, none⟩ = some (.int .i64 T.num) ∧ w'.cell? ⟨gV, 2, none⟩ = some (.slice aV T.kids.length cV))) u3.drew := ⟨(Below.refl _ _).drew, HX.out⟩
  have HXL : Hid (gV < u3.heap.size) := tuck HX.out.1
  refine AnyTwo.takeAny HT12 (i := 0) (oi := { dst := some 75, op := _, type := _, pos := _, after := _, guard := _ }) (v := ?vi0) rfl (by kernel_rfl) (by kernel_rfl) (by decide +kernel) (by rfl) (fun _ _ _ h => h) (Or.inl ⟨by rfl, ?yi0⟩) (ph_one (by kernel_rfl) hS1) ?ri0
  case yi0 => (intro w hSw; (try dsimp only at hSw); go_simp; try (with_reducible rfl))
  try simp only [Act.put, List.setIfInBounds_toArray, List.set_cons_zero, List.set_cons_succ]
  refine AnyTwo.takeAny HT12 (i := 1) (oi := { dst := some 76, op := _, type := _, pos := _, after := _, guard := _ }) (v := ?vi1) rfl (by kernel_rfl) (by kernel_rfl) (by decide +kernel) (by rfl) (fun _ _ _ h => h) (Or.inl ⟨by rfl, ?yi1⟩) (ph_one (by kernel_rfl) hS1) ?ri1
  case yi1 => (intro w hSw; (try dsimp only at hSw); go_simp; try (with_reducible rfl))
  try simp only [Act.put, List.setIfInBounds_toArray, List.set_cons_zero, List.set_cons_succ]
  refine AnyTwo.takeAny HT12 (i := 2) (oi := { dst := some 77, op := _, type := _, pos := _, after := _, guard := _ }) (v := ?vi2) rfl (by kernel_rfl) (by kernel_rfl) (by decide +kernel) (by rfl) (fun _ _ _ h => h) (Or.inl ⟨by rfl, ?yi2⟩) (ph_one (by kernel_rfl) hS1) ?ri2
  case yi2 => (intro w hSw; (try dsimp only at hSw); go_simp; try (with_reducible rfl))
  try simp only [Act.put, List.setIfInBounds_toArray, List.set_cons_zero, List.set_cons_succ]
  refine AnyTwo.takeAny HT12 (i := 3) (oi := { dst := some 78, op := _, type := _, pos := _, after := _, guard := _ }) (v := (.slice (some ⟨vb, vo, none⟩) kk vc)) rfl (by kernel_rfl) (by kernel_rfl) (by decide +kernel) (by rfl) (fun _ _ _ h => h) (Or.inl ⟨by rfl, ?yi3⟩) (ph_one (by kernel_rfl) hS1) ?ri3
  case yi3 => (intro w hSw; (try dsimp only at hSw); go_simp; exact fun h => absurd h (by omega))
  try simp only [Act.put, List.setIfInBounds_toArray, List.set_cons_zero, List.set_cons_succ]
  refine AnyTwo.fork (i := 4) (o := { dst := some 79, op := _, type := _, pos := _, after := _, guard := _ }) (j := 8) (o' := { dst := some 12, op := _, type := _, pos := _, after := _, guard := _ }) (by kernel_rfl) rfl rfl (fun K hK => ?_) (fun K hK => ?_)
  ·skip
   go_simp
   refine (HI1.out _ _ _ (HSX.out.below (hold_be hS1)) (by obtain ⟨s, e, hs⟩ := HTX.out; exact ⟨s, e, hs.below (hold_be hS1)⟩)).mono ?_
   rintro e wr ⟨hbq, vv, rfl, ss, rfl, hin⟩
   obtain ⟨aVY, cVY, rfl⟩ := hin.form
   have HW := tuck hin
   clear hin
   have HH9 := tuck (hold1T hS1 hbq)
   have hS1' : (fun w' : World => Below u3.heap.size u3 w' ∧ (gV < w'.heap.size ∧ w'.cell? ⟨gV, 0, none⟩ = some (.int .i64 T.kind) ∧ w'.cell? ⟨gV, 1, none⟩ = some (.int .i64 T.num) ∧ w'.cell? ⟨gV, 2, none⟩ = some (.slice aV T.kids.length cV))) _ := HH9.out
   refine hK.out _ _ (ph_one (by kernel_rfl) hS1') ?_
   clear hK K hS1
   have hS1 := hS1'
   clear hS1'
   try simp only [Act.put, List.setIfInBounds_toArray, List.set_cons_zero, List.set_cons_succ]
   refine AnyTwo.takeAny HT12 (i := 5) (oi := { dst := some 74, op := _, type := _, pos := _, after := _, guard := _ }) (v := ?vic5) rfl (by kernel_rfl) (by kernel_rfl) (by decide +kernel) (by rfl) (fun _ _ _ h => h) (Or.inl ⟨by rfl, ?yic5⟩) (ph_one (by kernel_rfl) hS1) ?ric5
   case yic5 => (intro w hSw; (try dsimp only at hSw); go_simp; try (with_reducible rfl))
   try simp only [Act.put, List.setIfInBounds_toArray, List.set_cons_zero, List.set_cons_succ]
   refine AnyTwo.takeAny HT12 (i := 6) (oi := { dst := some 80, op := _, type := _, pos := _, after := _, guard := _ }) (v := ?vic6) rfl (by kernel_rfl) (by kernel_rfl) (by decide +kernel) (by rfl) (fun _ _ _ h => h) (Or.inl ⟨by rfl, ?yic6⟩) (ph_one (by kernel_rfl) hS1) ?ric6
   case yic6 => (intro w hSw; (try dsimp only at hSw); go_simp; try (with_reducible rfl))
   try simp only [Act.put, List.setIfInBounds_toArray, List.set_cons_zero, List.set_cons_succ]
   refine AnyTwo.takeAny HT12 (i := 7) (oi := { dst := some 81, op := _, type := _, pos := _, after := _, guard := _ }) (v := ?vic7) rfl (by kernel_rfl) (by kernel_rfl) (by decide +kernel) (by rfl) (fun _ _ _ h => h) (Or.inl ⟨by rfl, ?yic7⟩) (ph_one (by kernel_rfl) hS1) ?ric7
   case yic7 => (intro w hSw; (try dsimp only at hSw); go_simp; try (with_reducible rfl))
   try simp only [Act.put, List.setIfInBounds_toArray, List.set_cons_zero, List.set_cons_succ]
   refine AnyTwo.step (i := 8) (o := { dst := some 12, op := _, type := _, pos := _, after := _, guard := _ }) (by kernel_rfl) rfl (fun K hK => ?_)
   go_simp
   have HZ0 := tuck (show u3.heap.size ≤ wr.heap.size from (hold_be hS1).size)
   have hS1' : (fun w' : World => Below u3.heap.size u3 w' ∧ (gV < w'.heap.size ∧ w'.cell? ⟨gV, 0, none⟩ = some (.int .i64 T.kind) ∧ w'.cell? ⟨gV, 1, none⟩ = some (.int .i64 T.num) ∧ w'.cell? ⟨gV, 2, none⟩ = some (.slice aV T.kids.length cV))) _ := hold1T HH9.out (below1 wr (.cells #[.int .i64 0, .int .i64 0, .slice none 0 0] 34))
   refine hK.out _ _ (ph_one (by kernel_rfl) hS1') ?_
   clear hK K hS1
   have hS1 := hS1'
   clear hS1'
   try simp only [Act.put, List.setIfInBounds_toArray, List.set_cons_zero, List.set_cons_succ]
   refine AnyTwo.step (i := 9) (o := { dst := none, op := _, type := _, pos := _, after := _, guard := _ }) (by kernel_rfl) rfl (fun K hK => ?_)
   go_simp
   have hS1' : (fun w' : World => Below u3.heap.size u3 w' ∧ (gV < w'.heap.size ∧ w'.cell? ⟨gV, 0, none⟩ = some (.int .i64 T.kind) ∧ w'.cell? ⟨gV, 1, none⟩ = some (.int .i64 T.num) ∧ w'.cell? ⟨gV, 2, none⟩ = some (.slice aV T.kids.length cV))) _ := hold1T HH9.out (below1 wr (.cells #[.int .i64 Y.kind, .int .i64 Y.num, .slice aVY Y.kids.length cVY] 34))
   refine hK.out _ _ (ph_one (by kernel_rfl) hS1') ?_
   clear hK K hS1
   have hS1 := hS1'
   clear hS1'
   try simp only [Act.put, List.setIfInBounds_toArray, List.set_cons_zero, List.set_cons_succ]
   refine AnyTwo.step (i := 10) (o := { dst := some 13, op := _, type := _, pos := _, after := _, guard := _ }) (by kernel_rfl) rfl (fun K hK => ?_)
   go_simp
   refine hK.out _ _ (ph_end (by kernel_rfl) hS1) ?_
   clear hK K
   try simp only [Act.put, List.setIfInBounds_toArray, List.set_cons_zero, List.set_cons_succ]
   refine AnyTwo.done (by kernel_rfl) ?_ _
   go_wp2_with fail
   go_meet
   exact ⟨wr.heap.size, aVY, cVY, rfl, rfl, hold_be hS1, VarAt.new wr _ _ _, (HW.out.mono (Nat.zero_le _)).below (below1 wr _)⟩
  ·skip
   go_simp
   have HZ := tuck (show VarAt u3.heap.size 0 0 (.slice none 0 0) (u3.alloc (.cells #[.int .i64 0, .int .i64 0, .slice none 0 0] 34)).drew from VarAt.new u3 0 0 (.slice none 0 0))
   have HZ0 : Hid (u3.heap.size ≤ u3.heap.size) := tuck (Nat.le_refl _)
   have hS1' : (fun w' : World => Below u3.heap.size u3 w' ∧ (gV < w'.heap.size ∧ w'.cell? ⟨gV, 0, none⟩ = some (.int .i64 T.kind) ∧ w'.cell? ⟨gV, 1, none⟩ = some (.int .i64 T.num) ∧ w'.cell? ⟨gV, 2, none⟩ = some (.slice aV T.kids.length cV))) _ := ⟨(below1 u3 (.cells #[.int .i64 0, .int .i64 0, .slice none 0 0] 34)).drew, BoxAt.below HX.out (below1 u3 (.cells #[.int .i64 0, .int .i64 0, .slice none 0 0] 34)).drew⟩
   refine hK.out _ _ (ph_one (by kernel_rfl) hS1') ?_
   clear hK K hS1
   have hS1 := hS1'
   clear hS1'
   try simp only [Act.put, List.setIfInBounds_toArray, List.set_cons_zero, List.set_cons_succ]
   refine AnyTwo.step (i := 4) (o := { dst := some 79, op := _, type := _, pos := _, after := _, guard := _ }) (by kernel_rfl) rfl (fun K hK => ?_)
   go_simp
   have HGL := tuck HZ.out.facts.1
   refine (HI1.out _ _ _ (HSX.out.below (hold_be hS1)) (by obtain ⟨s, e, hs⟩ := HTX.out; exact ⟨s, e, hs.below (hold_be hS1)⟩)).mono ?_
   rintro e wr ⟨hbq, vv, rfl, ss, rfl, hin⟩
   obtain ⟨aVY, cVY, rfl⟩ := hin.form
   have HW := tuck hin
   clear hin
   have HH9 := tuck (hold1T hS1 hbq)
   replace HZ := tuck (HZ.out.below hbq)
   obtain ⟨zz, y0, y1, y2, yf⟩ := HZ.out.facts
   have hS1' : (fun w' : World => Below u3.heap.size u3 w' ∧ (gV < w'.heap.size ∧ w'.cell? ⟨gV, 0, none⟩ = some (.int .i64 T.kind) ∧ w'.cell? ⟨gV, 1, none⟩ = some (.int .i64 T.num) ∧ w'.cell? ⟨gV, 2, none⟩ = some (.slice aV T.kids.length cV))) _ := HH9.out
   refine hK.out _ _ (ph_one (by kernel_rfl) hS1') ?_
   clear hK K hS1
   have hS1 := hS1'
   clear hS1'
   try simp only [Act.put, List.setIfInBounds_toArray, List.set_cons_zero, List.set_cons_succ]
   refine AnyTwo.takeAny HT12 (i := 5) (oi := { dst := some 74, op := _, type := _, pos := _, after := _, guard := _ }) (v := ?via5) rfl (by kernel_rfl) (by kernel_rfl) (by decide +kernel) (by rfl) (fun _ _ _ h => h) (Or.inl ⟨by rfl, ?yia5⟩) (ph_one (by kernel_rfl) hS1) ?ria5
   case yia5 => (intro w hSw; (try dsimp only at hSw); go_simp; try (with_reducible rfl))
   try simp only [Act.put, List.setIfInBounds_toArray, List.set_cons_zero, List.set_cons_succ]
   refine AnyTwo.takeAny HT12 (i := 6) (oi := { dst := some 80, op := _, type := _, pos := _, after := _, guard := _ }) (v := ?via6) rfl (by kernel_rfl) (by kernel_rfl) (by decide +kernel) (by rfl) (fun _ _ _ h => h) (Or.inl ⟨by rfl, ?yia6⟩) (ph_one (by kernel_rfl) hS1) ?ria6
   case yia6 => (intro w hSw; (try dsimp only at hSw); go_simp; try (with_reducible rfl))
   try simp only [Act.put, List.setIfInBounds_toArray, List.set_cons_zero, List.set_cons_succ]
   refine AnyTwo.takeAny HT12 (i := 7) (oi := { dst := some 81, op := _, type := _, pos := _, after := _, guard := _ }) (v := ?via7) rfl (by kernel_rfl) (by kernel_rfl) (by decide +kernel) (by rfl) (fun _ _ _ h => h) (Or.inl ⟨by rfl, ?yia7⟩) (ph_one (by kernel_rfl) hS1) ?ria7
   case yia7 => (intro w hSw; (try dsimp only at hSw); go_simp; try (with_reducible rfl))
   try simp only [Act.put, List.setIfInBounds_toArray, List.set_cons_zero, List.set_cons_succ]
   refine AnyTwo.step (i := 9) (o := { dst := none, op := _, type := _, pos := _, after := _, guard := _ }) (by kernel_rfl) rfl (fun K hK => ?_)
   go_simp
   have hS1' : (fun w' : World => Below u3.heap.size u3 w' ∧ (gV < w'.heap.size ∧ w'.cell? ⟨gV, 0, none⟩ = some (.int .i64 T.kind) ∧ w'.cell? ⟨gV, 1, none⟩ = some (.int .i64 T.num) ∧ w'.cell? ⟨gV, 2, none⟩ = some (.slice aV T.kids.length cV))) _ := hold1T_set3 HH9.out (gz := u3.heap.size) (x := .int .i64 Y.kind) (y := .int .i64 Y.num) (z := .slice aVY Y.kids.length cVY) HZ0.out HXL.out
   refine hK.out _ _ (ph_one (by kernel_rfl) hS1') ?_
   clear hK K hS1
   have hS1 := hS1'
   clear hS1'
   try simp only [Act.put, List.setIfInBounds_toArray, List.set_cons_zero, List.set_cons_succ]
   refine AnyTwo.step (i := 10) (o := { dst := some 13, op := _, type := _, pos := _, after := _, guard := _ }) (by kernel_rfl) rfl (fun K hK => ?_)
   go_simp
   refine hK.out _ _ (ph_end (by kernel_rfl) hS1) ?_
   clear hK K
   try simp only [Act.put, List.setIfInBounds_toArray, List.set_cons_zero, List.set_cons_succ]
   refine AnyTwo.done (by kernel_rfl) ?_ _
   go_wp2_with fail
   go_meet
   exact ⟨u3.heap.size, aVY, cVY, rfl, rfl, hold_be hS1, HZ.out.set3, (tl_sl3 HW.out HGL.out).mono (Nat.zero_le _)⟩
 case rest =>
  obtain ⟨gVY, aVY, cVY, rfl, rfl, hb, hv8, hs8⟩ := hcut
  rename World => u4
  clear HX HSX HTX
  try clear HOF hof2
  replace V := tuck (V.out.below hb)
  replace VX := tuck (VX.out.below hb)
  replace VW := tuck (VW.out.below hb)
  replace SL := tuck (SL.out.below hb)
  replace HB := tuck (bAfter HB.out hb)
  have VY : Hid (TV gVY Y aVY cVY u4) := tuck ⟨hv8, hs8⟩
  clear hb hv8 hs8
  go_upto_region 10 with fail
  obtain ⟨of, hof1, hof2⟩ := SL.out.rest' kk hk
  rw [← HMM.out] at hof2
  have HOF := tuck hof1
  clear hof1
  have HX := tuck (show BoxAt gVY Y.kind Y.num (.slice aVY Y.kids.length cVY) u4 from VY.out.var.four)
  have HSX := tuck (hof2)
  have HTX := tuck VY.out.tm
  go_cut [14, 15] (fun p0 p1 wx => ∃ (gz : Nat) (aa : Option Addr) (cc : Nat), p0 = .pointer (some ⟨gz, 0, none⟩) ∧ p1 = .bool true ∧ Below u4.heap.size u4 wx ∧ VarAt gz X.kind X.num (.slice aa X.kids.length cc) wx ∧ SlIn wx 0 X.kids (.slice aa X.kids.length cc))
  case first =>
   have HT12 : ∀ w' : World, (fun w' : World => Below u4.heap.size u4 w' ∧ (gVY < w'.heap.size ∧ w'.cell? ⟨gVY, 0, none⟩ = some (.int .i64 Y.kind) ∧ w'.cell? ⟨gVY, 1, none⟩ = some (.int .i64 Y.num) ∧ w'.cell? ⟨gVY, 2, none⟩ = some (.slice aVY Y.kids.length cVY))) w' → (fun w' : World => Below u4.heap.size u4 w' ∧ (gVY < w'.heap.size ∧ w'.cell? ⟨gVY, 0, none⟩ = some (.int .i64 Y.kind) ∧ w'.cell? ⟨gVY, 1, none⟩ = some (.int .i64 Y.num) ∧ w'.cell? ⟨gVY, 2, none⟩ = some (.slice aVY Y.kids.length cVY))) w' := fun w' h => h
   refine AnyTwo.begin (fun w' : World => Below u4.heap.size u4 w' ∧ (gVY < w'.heap.size ∧ w'.cell? ⟨gVY, 0, none⟩ = some (.int .i64 Y.kind) ∧ w'.cell? ⟨gVY, 1, none⟩ = some (.int .i64 Y.num) ∧ w'.cell? ⟨gVY, 2, none⟩ = some (.slice aVY Y.kids.length cVY))) (fun w' : World => Below u4.heap.size u4 w' ∧ (gVY < w'.heap.size ∧ w'.cell? ⟨gVY, 0, none⟩ = some (.int .i64 Y.kind) ∧ w'.cell? ⟨gVY, 1, none⟩ = some (.int .i64 Y.num) ∧ w'.cell? ⟨gVY, 2, none⟩ = some (.slice aVY Y.kids.length cVY))) 10 (by kernel_rfl) ?_
   have hS1 : (fun w' : World => Below u4.heap.size u4 w' ∧ (gVY < w'.heap.size ∧ w'.cell? ⟨gVY, 0, none⟩ = some (.int .i64 Y.kind) ∧ w'.cell? ⟨gVY, 1, none⟩ = some (.int .i64 Y.num) ∧ w'.cell? ⟨gVY, 2, none⟩ = some (.slice aVY Y.kids.length cVY))) u4.drew := ⟨(Below.refl _ _).drew, HX.out⟩
   have HXL : Hid (gVY < u4.heap.size) := tuck HX.out.1
   refine AnyTwo.takeAny HT12 (i := 0) (oi := { dst := some 83, op := _, type := _, pos := _, after := _, guard := _ }) (v := ?vj0) rfl (by kernel_rfl) (by kernel_rfl) (by decide +kernel) (by rfl) (fun _ _ _ h => h) (Or.inl ⟨by rfl, ?yj0⟩) (ph_one (by kernel_rfl) hS1) ?rj0
   case yj0 => (intro w hSw; (try dsimp only at hSw); go_simp; try (with_reducible rfl))
   try simp only [Act.put, List.setIfInBounds_toArray, List.set_cons_zero, List.set_cons_succ]
   refine AnyTwo.takeAny HT12 (i := 1) (oi := { dst := some 84, op := _, type := _, pos := _, after := _, guard := _ }) (v := ?vj1) rfl (by kernel_rfl) (by kernel_rfl) (by decide +kernel) (by rfl) (fun _ _ _ h => h) (Or.inl ⟨by rfl, ?yj1⟩) (ph_one (by kernel_rfl) hS1) ?rj1
   case yj1 => (intro w hSw; (try dsimp only at hSw); go_simp; try (with_reducible rfl))
   try simp only [Act.put, List.setIfInBounds_toArray, List.set_cons_zero, List.set_cons_succ]
   refine AnyTwo.takeAny HT12 (i := 2) (oi := { dst := some 85, op := _, type := _, pos := _, after := _, guard := _ }) (v := ?vj2) rfl (by kernel_rfl) (by kernel_rfl) (by decide +kernel) (by rfl) (fun _ _ _ h => h) (Or.inl ⟨by rfl, ?yj2⟩) (ph_one (by kernel_rfl) hS1) ?rj2
   case yj2 => (intro w hSw; (try dsimp only at hSw); go_simp; try (with_reducible rfl))
   try simp only [Act.put, List.setIfInBounds_toArray, List.set_cons_zero, List.set_cons_succ]
   refine AnyTwo.takeAny HT12 (i := 3) (oi := { dst := some 86, op := _, type := _, pos := _, after := _, guard := _ }) (v := (.slice (some ⟨vb, of, none⟩) (n - kk) (vc - kk))) rfl (by kernel_rfl) (by kernel_rfl) (by decide +kernel) (by rfl) (fun _ _ _ h => h) (Or.inl ⟨by rfl, ?yj3⟩) (ph_one (by kernel_rfl) hS1) ?rj3
   case yj3 => (intro w hSw; (try dsimp only at hSw); go_simp; exact HOF.out)
   try simp only [Act.put, List.setIfInBounds_toArray, List.set_cons_zero, List.set_cons_succ]
   refine AnyTwo.fork (i := 4) (o := { dst := some 87, op := _, type := _, pos := _, after := _, guard := _ }) (j := 8) (o' := { dst := some 14, op := _, type := _, pos := _, after := _, guard := _ }) (by kernel_rfl) rfl rfl (fun K hK => ?_) (fun K hK => ?_)
   ·skip
    go_simp
    refine (HI2.out _ _ _ (HSX.out.below (hold_be hS1)) (by obtain ⟨s, e, hs⟩ := HTX.out; exact ⟨s, e, hs.below (hold_be hS1)⟩)).mono ?_
    rintro e wr ⟨hbq, vv, rfl, ss, rfl, hin⟩
    obtain ⟨aVZ, cVZ, rfl⟩ := hin.form
    have HW := tuck hin
    clear hin
    have HH9 := tuck (hold1T hS1 hbq)
    have hS1' : (fun w' : World => Below u4.heap.size u4 w' ∧ (gVY < w'.heap.size ∧ w'.cell? ⟨gVY, 0, none⟩ = some (.int .i64 Y.kind) ∧ w'.cell? ⟨gVY, 1, none⟩ = some (.int .i64 Y.num) ∧ w'.cell? ⟨gVY, 2, none⟩ = some (.slice aVY Y.kids.length cVY))) _ := HH9.out
    refine hK.out _ _ (ph_one (by kernel_rfl) hS1') ?_
    clear hK K hS1
    have hS1 := hS1'
    clear hS1'
    try simp only [Act.put, List.setIfInBounds_toArray, List.set_cons_zero, List.set_cons_succ]
    refine AnyTwo.takeAny HT12 (i := 5) (oi := { dst := some 82, op := _, type := _, pos := _, after := _, guard := _ }) (v := ?vjc5) rfl (by kernel_rfl) (by kernel_rfl) (by decide +kernel) (by rfl) (fun _ _ _ h => h) (Or.inl ⟨by rfl, ?yjc5⟩) (ph_one (by kernel_rfl) hS1) ?rjc5
    case yjc5 => (intro w hSw; (try dsimp only at hSw); go_simp; try (with_reducible rfl))
    try simp only [Act.put, List.setIfInBounds_toArray, List.set_cons_zero, List.set_cons_succ]
    refine AnyTwo.takeAny HT12 (i := 6) (oi := { dst := some 88, op := _, type := _, pos := _, after := _, guard := _ }) (v := ?vjc6) rfl (by kernel_rfl) (by kernel_rfl) (by decide +kernel) (by rfl) (fun _ _ _ h => h) (Or.inl ⟨by rfl, ?yjc6⟩) (ph_one (by kernel_rfl) hS1) ?rjc6
    case yjc6 => (intro w hSw; (try dsimp only at hSw); go_simp; try (with_reducible rfl))
    try simp only [Act.put, List.setIfInBounds_toArray, List.set_cons_zero, List.set_cons_succ]
    refine AnyTwo.takeAny HT12 (i := 7) (oi := { dst := some 89, op := _, type := _, pos := _, after := _, guard := _ }) (v := ?vjc7) rfl (by kernel_rfl) (by kernel_rfl) (by decide +kernel) (by rfl) (fun _ _ _ h => h) (Or.inl ⟨by rfl, ?yjc7⟩) (ph_one (by kernel_rfl) hS1) ?rjc7
    case yjc7 => (intro w hSw; (try dsimp only at hSw); go_simp; try (with_reducible rfl))
    try simp only [Act.put, List.setIfInBounds_toArray, List.set_cons_zero, List.set_cons_succ]
    refine AnyTwo.step (i := 8) (o := { dst := some 14, op := _, type := _, pos := _, after := _, guard := _ }) (by kernel_rfl) rfl (fun K hK => ?_)
    go_simp
    have HZ0 := tuck (show u4.heap.size ≤ wr.heap.size from (hold_be hS1).size)
    have hS1' : (fun w' : World => Below u4.heap.size u4 w' ∧ (gVY < w'.heap.size ∧ w'.cell? ⟨gVY, 0, none⟩ = some (.int .i64 Y.kind) ∧ w'.cell? ⟨gVY, 1, none⟩ = some (.int .i64 Y.num) ∧ w'.cell? ⟨gVY, 2, none⟩ = some (.slice aVY Y.kids.length cVY))) _ := hold1T HH9.out (below1 wr (.cells #[.int .i64 0, .int .i64 0, .slice none 0 0] 34))
    refine hK.out _ _ (ph_one (by kernel_rfl) hS1') ?_
    clear hK K hS1
    have hS1 := hS1'
    clear hS1'
    try simp only [Act.put, List.setIfInBounds_toArray, List.set_cons_zero, List.set_cons_succ]
    refine AnyTwo.step (i := 9) (o := { dst := none, op := _, type := _, pos := _, after := _, guard := _ }) (by kernel_rfl) rfl (fun K hK => ?_)
    go_simp
    have hS1' : (fun w' : World => Below u4.heap.size u4 w' ∧ (gVY < w'.heap.size ∧ w'.cell? ⟨gVY, 0, none⟩ = some (.int .i64 Y.kind) ∧ w'.cell? ⟨gVY, 1, none⟩ = some (.int .i64 Y.num) ∧ w'.cell? ⟨gVY, 2, none⟩ = some (.slice aVY Y.kids.length cVY))) _ := hold1T HH9.out (below1 wr (.cells #[.int .i64 X.kind, .int .i64 X.num, .slice aVZ X.kids.length cVZ] 34))
    refine hK.out _ _ (ph_one (by kernel_rfl) hS1') ?_
    clear hK K hS1
    have hS1 := hS1'
    clear hS1'
    try simp only [Act.put, List.setIfInBounds_toArray, List.set_cons_zero, List.set_cons_succ]
    refine AnyTwo.step (i := 10) (o := { dst := some 15, op := _, type := _, pos := _, after := _, guard := _ }) (by kernel_rfl) rfl (fun K hK => ?_)
    go_simp
    refine hK.out _ _ (ph_end (by kernel_rfl) hS1) ?_
    clear hK K
    try simp only [Act.put, List.setIfInBounds_toArray, List.set_cons_zero, List.set_cons_succ]
    refine AnyTwo.done (by kernel_rfl) ?_ _
    go_wp2_with fail
    go_meet
    exact ⟨wr.heap.size, aVZ, cVZ, rfl, rfl, hold_be hS1, VarAt.new wr _ _ _, (HW.out.mono (Nat.zero_le _)).below (below1 wr _)⟩
   ·skip
    go_simp
    have HZ := tuck (show VarAt u4.heap.size 0 0 (.slice none 0 0) (u4.alloc (.cells #[.int .i64 0, .int .i64 0, .slice none 0 0] 34)).drew from VarAt.new u4 0 0 (.slice none 0 0))
    have HZ0 : Hid (u4.heap.size ≤ u4.heap.size) := tuck (Nat.le_refl _)
    have hS1' : (fun w' : World => Below u4.heap.size u4 w' ∧ (gVY < w'.heap.size ∧ w'.cell? ⟨gVY, 0, none⟩ = some (.int .i64 Y.kind) ∧ w'.cell? ⟨gVY, 1, none⟩ = some (.int .i64 Y.num) ∧ w'.cell? ⟨gVY, 2, none⟩ = some (.slice aVY Y.kids.length cVY))) _ := ⟨(below1 u4 (.cells #[.int .i64 0, .int .i64 0, .slice none 0 0] 34)).drew, BoxAt.below HX.out (below1 u4 (.cells #[.int .i64 0, .int .i64 0, .slice none 0 0] 34)).drew⟩
    refine hK.out _ _ (ph_one (by kernel_rfl) hS1') ?_
    clear hK K hS1
    have hS1 := hS1'
    clear hS1'
    try simp only [Act.put, List.setIfInBounds_toArray, List.set_cons_zero, List.set_cons_succ]
    refine AnyTwo.step (i := 4) (o := { dst := some 87, op := _, type := _, pos := _, after := _, guard := _ }) (by kernel_rfl) rfl (fun K hK => ?_)
    go_simp
    have HGL := tuck HZ.out.facts.1
    refine (HI2.out _ _ _ (HSX.out.below (hold_be hS1)) (by obtain ⟨s, e, hs⟩ := HTX.out; exact ⟨s, e, hs.below (hold_be hS1)⟩)).mono ?_
    rintro e wr ⟨hbq, vv, rfl, ss, rfl, hin⟩
    obtain ⟨aVZ, cVZ, rfl⟩ := hin.form
    have HW := tuck hin
    clear hin
    have HH9 := tuck (hold1T hS1 hbq)
    replace HZ := tuck (HZ.out.below hbq)
    obtain ⟨zz, y0, y1, y2, yf⟩ := HZ.out.facts
    have hS1' : (fun w' : World => Below u4.heap.size u4 w' ∧ (gVY < w'.heap.size ∧ w'.cell? ⟨gVY, 0, none⟩ = some (.int .i64 Y.kind) ∧ w'.cell? ⟨gVY, 1, none⟩ = some (.int .i64 Y.num) ∧ w'.cell? ⟨gVY, 2, none⟩ = some (.slice aVY Y.kids.length cVY))) _ := HH9.out
    refine hK.out _ _ (ph_one (by kernel_rfl) hS1') ?_
    clear hK K hS1
    have hS1 := hS1'
    clear hS1'
    try simp only [Act.put, List.setIfInBounds_toArray, List.set_cons_zero, List.set_cons_succ]
    refine AnyTwo.takeAny HT12 (i := 5) (oi := { dst := some 82, op := _, type := _, pos := _, after := _, guard := _ }) (v := ?vja5) rfl (by kernel_rfl) (by kernel_rfl) (by decide +kernel) (by rfl) (fun _ _ _ h => h) (Or.inl ⟨by rfl, ?yja5⟩) (ph_one (by kernel_rfl) hS1) ?rja5
    case yja5 => (intro w hSw; (try dsimp only at hSw); go_simp; try (with_reducible rfl))
    try simp only [Act.put, List.setIfInBounds_toArray, List.set_cons_zero, List.set_cons_succ]
    refine AnyTwo.takeAny HT12 (i := 6) (oi := { dst := some 88, op := _, type := _, pos := _, after := _, guard := _ }) (v := ?vja6) rfl (by kernel_rfl) (by kernel_rfl) (by decide +kernel) (by rfl) (fun _ _ _ h => h) (Or.inl ⟨by rfl, ?yja6⟩) (ph_one (by kernel_rfl) hS1) ?rja6
    case yja6 => (intro w hSw; (try dsimp only at hSw); go_simp; try (with_reducible rfl))
    try simp only [Act.put, List.setIfInBounds_toArray, List.set_cons_zero, List.set_cons_succ]
    refine AnyTwo.takeAny HT12 (i := 7) (oi := { dst := some 89, op := _, type := _, pos := _, after := _, guard := _ }) (v := ?vja7) rfl (by kernel_rfl) (by kernel_rfl) (by decide +kernel) (by rfl) (fun _ _ _ h => h) (Or.inl ⟨by rfl, ?yja7⟩) (ph_one (by kernel_rfl) hS1) ?rja7
    case yja7 => (intro w hSw; (try dsimp only at hSw); go_simp; try (with_reducible rfl))
    try simp only [Act.put, List.setIfInBounds_toArray, List.set_cons_zero, List.set_cons_succ]
    refine AnyTwo.step (i := 9) (o := { dst := none, op := _, type := _, pos := _, after := _, guard := _ }) (by kernel_rfl) rfl (fun K hK => ?_)
    go_simp
    have hS1' : (fun w' : World => Below u4.heap.size u4 w' ∧ (gVY < w'.heap.size ∧ w'.cell? ⟨gVY, 0, none⟩ = some (.int .i64 Y.kind) ∧ w'.cell? ⟨gVY, 1, none⟩ = some (.int .i64 Y.num) ∧ w'.cell? ⟨gVY, 2, none⟩ = some (.slice aVY Y.kids.length cVY))) _ := hold1T_set3 HH9.out (gz := u4.heap.size) (x := .int .i64 X.kind) (y := .int .i64 X.num) (z := .slice aVZ X.kids.length cVZ) HZ0.out HXL.out
    refine hK.out _ _ (ph_one (by kernel_rfl) hS1') ?_
    clear hK K hS1
    have hS1 := hS1'
    clear hS1'
    try simp only [Act.put, List.setIfInBounds_toArray, List.set_cons_zero, List.set_cons_succ]
    refine AnyTwo.step (i := 10) (o := { dst := some 15, op := _, type := _, pos := _, after := _, guard := _ }) (by kernel_rfl) rfl (fun K hK => ?_)
    go_simp
    refine hK.out _ _ (ph_end (by kernel_rfl) hS1) ?_
    clear hK K
    try simp only [Act.put, List.setIfInBounds_toArray, List.set_cons_zero, List.set_cons_succ]
    refine AnyTwo.done (by kernel_rfl) ?_ _
    go_wp2_with fail
    go_meet
    exact ⟨u4.heap.size, aVZ, cVZ, rfl, rfl, hold_be hS1, HZ.out.set3, (tl_sl3 HW.out HGL.out).mono (Nat.zero_le _)⟩
  case rest =>
   obtain ⟨gVZ, aVZ, cVZ, rfl, rfl, hb, hv8, hs8⟩ := hcut
   rename World => u5
   clear HX HSX HTX
   try clear HOF hof2
   replace V := tuck (V.out.below hb)
   replace VX := tuck (VX.out.below hb)
   replace VW := tuck (VW.out.below hb)
   replace VY := tuck (VY.out.below hb)
   replace SL := tuck (SL.out.below hb)
   replace HB := tuck (bAfter HB.out hb)
   have VZ : Hid (TV gVZ X aVZ cVZ u5) := tuck ⟨hv8, hs8⟩
   clear hb hv8 hs8
   obtain ⟨zV, c0V, c1V, c2V, cfV⟩ := V.out.facts
   go_wp2_with fail
   refine (HB1.out _ _ _ SL.out.ints V.out.tm).mono ?_
   rintro e u6 ⟨rfl, hb⟩
   clear zV c0V c1V c2V cfV
   replace V := tuck (V.out.below hb)
   replace VX := tuck (VX.out.below hb)
   replace VW := tuck (VW.out.below hb)
   replace VY := tuck (VY.out.below hb)
   replace VZ := tuck (VZ.out.below hb)
   replace SL := tuck (SL.out.below hb)
   replace HB := tuck (bAfter HB.out hb)
   clear hb
   obtain ⟨zV, c0V, c1V, c2V, cfV⟩ := V.out.facts
   go_upto_region 12 with fail
   clear zV c0V c1V c2V cfV
   have HX := tuck (show BoxAt gV T.kind T.num (.slice aV T.kids.length cV) u6 from V.out.var.four)
   have HSX := tuck (SL.out.take (c' := vc) kk hk)
   have HTX := tuck V.out.tm
   have HT12 : ∀ w' : World, (fun w' : World => Below u6.heap.size u6 w' ∧ (gV < w'.heap.size ∧ w'.cell? ⟨gV, 0, none⟩ = some (.int .i64 T.kind) ∧ w'.cell? ⟨gV, 1, none⟩ = some (.int .i64 T.num) ∧ w'.cell? ⟨gV, 2, none⟩ = some (.slice aV T.kids.length cV))) w' → (fun w' : World => Below u6.heap.size u6 w' ∧ (gV < w'.heap.size ∧ w'.cell? ⟨gV, 0, none⟩ = some (.int .i64 T.kind) ∧ w'.cell? ⟨gV, 1, none⟩ = some (.int .i64 T.num) ∧ w'.cell? ⟨gV, 2, none⟩ = some (.slice aV T.kids.length cV))) w' := fun w' h => h
   refine AnyTwo.begin (fun w' : World => Below u6.heap.size u6 w' ∧ (gV < w'.heap.size ∧ w'.cell? ⟨gV, 0, none⟩ = some (.int .i64 T.kind) ∧ w'.cell? ⟨gV, 1, none⟩ = some (.int .i64 T.num) ∧ w'.cell? ⟨gV, 2, none⟩ = some (.slice aV T.kids.length cV))) (fun w' : World => Below u6.heap.size u6 w' ∧ (gV < w'.heap.size ∧ w'.cell? ⟨gV, 0, none⟩ = some (.int .i64 T.kind) ∧ w'.cell? ⟨gV, 1, none⟩ = some (.int .i64 T.num) ∧ w'.cell? ⟨gV, 2, none⟩ = some (.slice aV T.kids.length cV))) 9 (by kernel_rfl) ?_
   have hS1 : (fun w' : World => Below u6.heap.size u6 w' ∧ (gV < w'.heap.size ∧ w'.cell? ⟨gV, 0, none⟩ = some (.int .i64 T.kind) ∧ w'.cell? ⟨gV, 1, none⟩ = some (.int .i64 T.num) ∧ w'.cell? ⟨gV, 2, none⟩ = some (.slice aV T.kids.length cV))) u6.drew := ⟨(Below.refl _ _).drew, HX.out⟩
   refine AnyTwo.takeAny HT12 (i := 0) (oi := { dst := some 97, op := _, type := _, pos := _, after := _, guard := _ }) (v := ?vk0) rfl (by kernel_rfl) (by kernel_rfl) (by decide +kernel) (by rfl) (fun _ _ _ h => h) (Or.inl ⟨by rfl, ?yk0⟩) (ph_one (by kernel_rfl) hS1) ?rk0
   case yk0 => (intro w hSw; (try dsimp only at hSw); go_simp; try (with_reducible rfl))
   try simp only [Act.put, List.setIfInBounds_toArray, List.set_cons_zero, List.set_cons_succ]
   refine AnyTwo.takeAny HT12 (i := 1) (oi := { dst := some 98, op := _, type := _, pos := _, after := _, guard := _ }) (v := ?vk1) rfl (by kernel_rfl) (by kernel_rfl) (by decide +kernel) (by rfl) (fun _ _ _ h => h) (Or.inl ⟨by rfl, ?yk1⟩) (ph_one (by kernel_rfl) hS1) ?rk1
   case yk1 => (intro w hSw; (try dsimp only at hSw); go_simp; try (with_reducible rfl))
   try simp only [Act.put, List.setIfInBounds_toArray, List.set_cons_zero, List.set_cons_succ]
   refine AnyTwo.takeAny HT12 (i := 2) (oi := { dst := some 99, op := _, type := _, pos := _, after := _, guard := _ }) (v := ?vk2) rfl (by kernel_rfl) (by kernel_rfl) (by decide +kernel) (by rfl) (fun _ _ _ h => h) (Or.inl ⟨by rfl, ?yk2⟩) (ph_one (by kernel_rfl) hS1) ?rk2
   case yk2 => (intro w hSw; (try dsimp only at hSw); go_simp; try (with_reducible rfl))
   try simp only [Act.put, List.setIfInBounds_toArray, List.set_cons_zero, List.set_cons_succ]
   refine AnyTwo.takeAny HT12 (i := 3) (oi := { dst := some 100, op := _, type := _, pos := _, after := _, guard := _ }) (v := (.slice (some ⟨vb, vo, none⟩) kk vc)) rfl (by kernel_rfl) (by kernel_rfl) (by decide +kernel) (by rfl) (fun _ _ _ h => h) (Or.inl ⟨by rfl, ?yk3⟩) (ph_one (by kernel_rfl) hS1) ?rk3
   case yk3 => (intro w hSw; (try dsimp only at hSw); go_simp; exact fun h => absurd h (by omega))
   try simp only [Act.put, List.setIfInBounds_toArray, List.set_cons_zero, List.set_cons_succ]
   refine AnyTwo.step (i := 4) (o := { dst := some 101, op := _, type := _, pos := _, after := _, guard := _ }) (by kernel_rfl) rfl (fun K hK => ?_)
   go_simp
   refine (HB2.out _ _ _ (HSX.out.below (hold_be hS1)) (by obtain ⟨s, e, hs⟩ := HTX.out; exact ⟨s, e, hs.below (hold_be hS1)⟩)).mono ?_
   rintro e wrk ⟨rfl, hbq⟩
   have hS1' : (fun w' : World => Below u6.heap.size u6 w' ∧ (gV < w'.heap.size ∧ w'.cell? ⟨gV, 0, none⟩ = some (.int .i64 T.kind) ∧ w'.cell? ⟨gV, 1, none⟩ = some (.int .i64 T.num) ∧ w'.cell? ⟨gV, 2, none⟩ = some (.slice aV T.kids.length cV))) _ := hold1T hS1 hbq
   refine hK.out _ _ (ph_one (by kernel_rfl) hS1') ?_
   clear hK K hS1 hbq
   have hS1 := hS1'
   clear hS1'
   try simp only [Act.put, List.setIfInBounds_toArray, List.set_cons_zero, List.set_cons_succ]
   refine AnyTwo.takeAny HT12 (i := 5) (oi := { dst := some 96, op := _, type := _, pos := _, after := _, guard := _ }) (v := ?vk5) rfl (by kernel_rfl) (by kernel_rfl) (by decide +kernel) (by rfl) (fun _ _ _ h => h) (Or.inl ⟨by rfl, ?yk5⟩) (ph_one (by kernel_rfl) hS1) ?rk5
   case yk5 => (intro w hSw; (try dsimp only at hSw); go_simp; try (with_reducible rfl))
   try simp only [Act.put, List.setIfInBounds_toArray, List.set_cons_zero, List.set_cons_succ]
   refine AnyTwo.takeAny HT12 (i := 6) (oi := { dst := some 102, op := _, type := _, pos := _, after := _, guard := _ }) (v := ?vk6) rfl (by kernel_rfl) (by kernel_rfl) (by decide +kernel) (by rfl) (fun _ _ _ h => h) (Or.inl ⟨by rfl, ?yk6⟩) (ph_one (by kernel_rfl) hS1) ?rk6
   case yk6 => (intro w hSw; (try dsimp only at hSw); go_simp; try (with_reducible rfl))
   try simp only [Act.put, List.setIfInBounds_toArray, List.set_cons_zero, List.set_cons_succ]
   refine AnyTwo.takeAny HT12 (i := 7) (oi := { dst := some 103, op := _, type := _, pos := _, after := _, guard := _ }) (v := ?vk7) rfl (by kernel_rfl) (by kernel_rfl) (by decide +kernel) (by rfl) (fun _ _ _ h => h) (Or.inl ⟨by rfl, ?yk7⟩) (ph_one (by kernel_rfl) hS1) ?rk7
   case yk7 => (intro w hSw; (try dsimp only at hSw); go_simp; try (with_reducible rfl))
   try simp only [Act.put, List.setIfInBounds_toArray, List.set_cons_zero, List.set_cons_succ]
   refine AnyTwo.step (i := 8) (o := { dst := some 18, op := _, type := _, pos := _, after := _, guard := _ }) (by kernel_rfl) rfl (fun K hK => ?_)
   go_simp
   refine hK.out _ _ (ph_one (by kernel_rfl) hS1) ?_
   clear hK K
   try simp only [Act.put, List.setIfInBounds_toArray, List.set_cons_zero, List.set_cons_succ]
   refine AnyTwo.step (i := 9) (o := { dst := some 19, op := _, type := _, pos := _, after := _, guard := _ }) (by kernel_rfl) rfl (fun K hK => ?_)
   go_simp
   refine hK.out _ _ (ph_end (by kernel_rfl) hS1) ?_
   clear hK K
   try simp only [Act.put, List.setIfInBounds_toArray, List.set_cons_zero, List.set_cons_succ]
   refine AnyTwo.done (by kernel_rfl) ?_ _
   clear HT12 HX HSX HTX
   have hb := hold_be hS1
   clear hS1
   rename World => u7
   replace V := tuck (V.out.below hb)
   replace VX := tuck (VX.out.below hb)
   replace VW := tuck (VW.out.below hb)
   replace VY := tuck (VY.out.below hb)
   replace VZ := tuck (VZ.out.below hb)
   replace SL := tuck (SL.out.below hb)
   replace HB := tuck (bAfter HB.out hb)
   clear hb
   obtain ⟨zVY, c0VY, c1VY, c2VY, cfVY⟩ := VY.out.facts
   go_upto_region 13 with fail
   obtain ⟨of, hof1, hof2⟩ := SL.out.rest' kk hk
   rw [← HMM.out] at hof2
   have HOF := tuck hof1
   clear hof1
   clear zVY c0VY c1VY c2VY cfVY
   have HX := tuck (show BoxAt gVY Y.kind Y.num (.slice aVY Y.kids.length cVY) u7 from VY.out.var.four)
   have HSX := tuck (hof2)
   have HTX := tuck VY.out.tm
   have HT12 : ∀ w' : World, (fun w' : World => Below u7.heap.size u7 w' ∧ (gVY < w'.heap.size ∧ w'.cell? ⟨gVY, 0, none⟩ = some (.int .i64 Y.kind) ∧ w'.cell? ⟨gVY, 1, none⟩ = some (.int .i64 Y.num) ∧ w'.cell? ⟨gVY, 2, none⟩ = some (.slice aVY Y.kids.length cVY))) w' → (fun w' : World => Below u7.heap.size u7 w' ∧ (gVY < w'.heap.size ∧ w'.cell? ⟨gVY, 0, none⟩ = some (.int .i64 Y.kind) ∧ w'.cell? ⟨gVY, 1, none⟩ = some (.int .i64 Y.num) ∧ w'.cell? ⟨gVY, 2, none⟩ = some (.slice aVY Y.kids.length cVY))) w' := fun w' h => h
   refine AnyTwo.begin (fun w' : World => Below u7.heap.size u7 w' ∧ (gVY < w'.heap.size ∧ w'.cell? ⟨gVY, 0, none⟩ = some (.int .i64 Y.kind) ∧ w'.cell? ⟨gVY, 1, none⟩ = some (.int .i64 Y.num) ∧ w'.cell? ⟨gVY, 2, none⟩ = some (.slice aVY Y.kids.length cVY))) (fun w' : World => Below u7.heap.size u7 w' ∧ (gVY < w'.heap.size ∧ w'.cell? ⟨gVY, 0, none⟩ = some (.int .i64 Y.kind) ∧ w'.cell? ⟨gVY, 1, none⟩ = some (.int .i64 Y.num) ∧ w'.cell? ⟨gVY, 2, none⟩ = some (.slice aVY Y.kids.length cVY))) 9 (by kernel_rfl) ?_
   have hS1 : (fun w' : World => Below u7.heap.size u7 w' ∧ (gVY < w'.heap.size ∧ w'.cell? ⟨gVY, 0, none⟩ = some (.int .i64 Y.kind) ∧ w'.cell? ⟨gVY, 1, none⟩ = some (.int .i64 Y.num) ∧ w'.cell? ⟨gVY, 2, none⟩ = some (.slice aVY Y.kids.length cVY))) u7.drew := ⟨(Below.refl _ _).drew, HX.out⟩
   refine AnyTwo.takeAny HT12 (i := 0) (oi := { dst := some 105, op := _, type := _, pos := _, after := _, guard := _ }) (v := ?vl0) rfl (by kernel_rfl) (by kernel_rfl) (by decide +kernel) (by rfl) (fun _ _ _ h => h) (Or.inl ⟨by rfl, ?yl0⟩) (ph_one (by kernel_rfl) hS1) ?rl0
   case yl0 => (intro w hSw; (try dsimp only at hSw); go_simp; try (with_reducible rfl))
   try simp only [Act.put, List.setIfInBounds_toArray, List.set_cons_zero, List.set_cons_succ]
   refine AnyTwo.takeAny HT12 (i := 1) (oi := { dst := some 106, op := _, type := _, pos := _, after := _, guard := _ }) (v := ?vl1) rfl (by kernel_rfl) (by kernel_rfl) (by decide +kernel) (by rfl) (fun _ _ _ h => h) (Or.inl ⟨by rfl, ?yl1⟩) (ph_one (by kernel_rfl) hS1) ?rl1
   case yl1 => (intro w hSw; (try dsimp only at hSw); go_simp; try (with_reducible rfl))
   try simp only [Act.put, List.setIfInBounds_toArray, List.set_cons_zero, List.set_cons_succ]
   refine AnyTwo.takeAny HT12 (i := 2) (oi := { dst := some 107, op := _, type := _, pos := _, after := _, guard := _ }) (v := ?vl2) rfl (by kernel_rfl) (by kernel_rfl) (by decide +kernel) (by rfl) (fun _ _ _ h => h) (Or.inl ⟨by rfl, ?yl2⟩) (ph_one (by kernel_rfl) hS1) ?rl2
   case yl2 => (intro w hSw; (try dsimp only at hSw); go_simp; try (with_reducible rfl))
   try simp only [Act.put, List.setIfInBounds_toArray, List.set_cons_zero, List.set_cons_succ]
   refine AnyTwo.takeAny HT12 (i := 3) (oi := { dst := some 108, op := _, type := _, pos := _, after := _, guard := _ }) (v := (.slice (some ⟨vb, of, none⟩) (n - kk) (vc - kk))) rfl (by kernel_rfl) (by kernel_rfl) (by decide +kernel) (by rfl) (fun _ _ _ h => h) (Or.inl ⟨by rfl, ?yl3⟩) (ph_one (by kernel_rfl) hS1) ?rl3
   case yl3 => (intro w hSw; (try dsimp only at hSw); go_simp; exact HOF.out)
   try simp only [Act.put, List.setIfInBounds_toArray, List.set_cons_zero, List.set_cons_succ]
   refine AnyTwo.step (i := 4) (o := { dst := some 109, op := _, type := _, pos := _, after := _, guard := _ }) (by kernel_rfl) rfl (fun K hK => ?_)
   go_simp
   refine (HB3.out _ _ _ (HSX.out.below (hold_be hS1)) (by obtain ⟨s, e, hs⟩ := HTX.out; exact ⟨s, e, hs.below (hold_be hS1)⟩)).mono ?_
   rintro e wrl ⟨rfl, hbq⟩
   have hS1' : (fun w' : World => Below u7.heap.size u7 w' ∧ (gVY < w'.heap.size ∧ w'.cell? ⟨gVY, 0, none⟩ = some (.int .i64 Y.kind) ∧ w'.cell? ⟨gVY, 1, none⟩ = some (.int .i64 Y.num) ∧ w'.cell? ⟨gVY, 2, none⟩ = some (.slice aVY Y.kids.length cVY))) _ := hold1T hS1 hbq
   refine hK.out _ _ (ph_one (by kernel_rfl) hS1') ?_
   clear hK K hS1 hbq
   have hS1 := hS1'
   clear hS1'
   try simp only [Act.put, List.setIfInBounds_toArray, List.set_cons_zero, List.set_cons_succ]
   refine AnyTwo.takeAny HT12 (i := 5) (oi := { dst := some 104, op := _, type := _, pos := _, after := _, guard := _ }) (v := ?vl5) rfl (by kernel_rfl) (by kernel_rfl) (by decide +kernel) (by rfl) (fun _ _ _ h => h) (Or.inl ⟨by rfl, ?yl5⟩) (ph_one (by kernel_rfl) hS1) ?rl5
   case yl5 => (intro w hSw; (try dsimp only at hSw); go_simp; try (with_reducible rfl))
   try simp only [Act.put, List.setIfInBounds_toArray, List.set_cons_zero, List.set_cons_succ]
   refine AnyTwo.takeAny HT12 (i := 6) (oi := { dst := some 110, op := _, type := _, pos := _, after := _, guard := _ }) (v := ?vl6) rfl (by kernel_rfl) (by kernel_rfl) (by decide +kernel) (by rfl) (fun _ _ _ h => h) (Or.inl ⟨by rfl, ?yl6⟩) (ph_one (by kernel_rfl) hS1) ?rl6
   case yl6 => (intro w hSw; (try dsimp only at hSw); go_simp; try (with_reducible rfl))
   try simp only [Act.put, List.setIfInBounds_toArray, List.set_cons_zero, List.set_cons_succ]
   refine AnyTwo.takeAny HT12 (i := 7) (oi := { dst := some 111, op := _, type := _, pos := _, after := _, guard := _ }) (v := ?vl7) rfl (by kernel_rfl) (by kernel_rfl) (by decide +kernel) (by rfl) (fun _ _ _ h => h) (Or.inl ⟨by rfl, ?yl7⟩) (ph_one (by kernel_rfl) hS1) ?rl7
   case yl7 => (intro w hSw; (try dsimp only at hSw); go_simp; try (with_reducible rfl))
   try simp only [Act.put, List.setIfInBounds_toArray, List.set_cons_zero, List.set_cons_succ]
   refine AnyTwo.step (i := 8) (o := { dst := some 20, op := _, type := _, pos := _, after := _, guard := _ }) (by kernel_rfl) rfl (fun K hK => ?_)
   go_simp
   refine hK.out _ _ (ph_one (by kernel_rfl) hS1) ?_
   clear hK K
   try simp only [Act.put, List.setIfInBounds_toArray, List.set_cons_zero, List.set_cons_succ]
   refine AnyTwo.step (i := 9) (o := { dst := some 21, op := _, type := _, pos := _, after := _, guard := _ }) (by kernel_rfl) rfl (fun K hK => ?_)
   go_simp
   refine hK.out _ _ (ph_end (by kernel_rfl) hS1) ?_
   clear hK K
   try simp only [Act.put, List.setIfInBounds_toArray, List.set_cons_zero, List.set_cons_succ]
   refine AnyTwo.done (by kernel_rfl) ?_ _
   clear HT12 HX HSX HTX
   have hb := hold_be hS1
   clear hS1
   rename World => u8
   replace V := tuck (V.out.below hb)
   replace VX := tuck (VX.out.below hb)
   replace VW := tuck (VW.out.below hb)
   replace VY := tuck (VY.out.below hb)
   replace VZ := tuck (VZ.out.below hb)
   replace SL := tuck (SL.out.below hb)
   replace HB := tuck (bAfter HB.out hb)
   clear hb
   obtain ⟨zVZ, c0VZ, c1VZ, c2VZ, cfVZ⟩ := VZ.out.facts
   obtain ⟨zVX, c0VX, c1VX, c2VX, cfVX⟩ := VX.out.facts
   go_wp2_with fail
   refine (HTS.out _ _ _ VZ.out.tm VX.out.tm).mono ?_
   rintro e u9 ⟨rfl, hb⟩
   clear zVZ c0VZ c1VZ c2VZ cfVZ zVX c0VX c1VX c2VX cfVX
   replace V := tuck (V.out.below hb)
   replace VX := tuck (VX.out.below hb)
   replace VW := tuck (VW.out.below hb)
   replace VY := tuck (VY.out.below hb)
   replace VZ := tuck (VZ.out.below hb)
   replace SL := tuck (SL.out.below hb)
   replace HB := tuck (bAfter HB.out hb)
   clear hb
   go_wp2_with fail
   go_ret
   exact ⟨rfl, HB.out⟩
set_option maxRecDepth 100000 in
theorem lifted (os : Os) (started : os.Started) (H : Type) (enc : TypeId × Value → H) :
  ReturnsInHanded {} Tryz.checked os 4 .any (Rows.fnTermAtSpec.pre6 enc Tryz.prog Tryz.f4 Rows.fnTermAtRow.domain false) (Rows.fnTermAtSpec.post enc Tryz.prog Tryz.f4 false true false false) := by
 refine returnsInHanded_of_change (C := Tryz.checked) own started (by kernel_rfl) Tryz.func4
  (ChangeSpec.witness6 (enc := enc) (C := Tryz.checked) false ⟨#[], #[.slice none 0 0, .slice none 0 0], []⟩ 8 (by kernel_rfl) (by kernel_rfl) (by kernel_rfl) (by kernel_rfl)) ?_
 intro W base args ds gs before hval0 hW hcnd _
 have hval : ∀ (j : Nat) t v, Tryz.f4.params[j]? = some t → args[j]? = some v → Value.okWide Tryz.prog W .any base t v := hval0
 have hW' := hW
 obtain ⟨p, q, hA0, hV, rfl, hfz, hnd⟩ := hW
 have hA : DataW.TrodAll enc Tryz.prog W 0 (fun _ => true) true Tryz.f4.params.toList args.toList ds p := hA0
 rw [Tryz.params4] at hA hval
 obtain ⟨v0, vs0, d0, ds0, p0, q0, hargs, rfl, rfl, h0, r0⟩ := trodAll_cons hA
 obtain ⟨v1, vs1, d1, ds1, p1, q1, rfl, rfl, rfl, h1, r1⟩ := trodAll_cons r0
 obtain ⟨rfl, rfl, rfl⟩ := trodAll_nil r1
 obtain rfl : args = #[v0, v1] := by cases args; simp_all
 obtain ⟨U0, ad0, bb0, oo0, len0, cap0, rfl, hlc0, hcm0, hbl0, hby0⟩ := open_bytes (hval 0 43 v0 rfl rfl) h0
 obtain ⟨U1, ad1, bb1, oo1, len1, cap1, rfl, hlc1, hcm1, hbl1, hby1⟩ := open_bytes (hval 1 43 v1 rfl rfl) h1
 refine (walk U0 ad0 bb0 oo0 len0 cap0 W hlc0 hcm0 hby0 U1 ad1 bb1 oo1 len1 cap1 hlc1 hcm1 hby1).mono fun e W' ⟨he, hb⟩ => ?_
 subst he
 exact ⟨_, rfl, law_post rfl rfl (fun gs h => by subst h; rfl) (by rw [Tryz.params4]; exact readable_FnTermAt) laid hW' hb⟩
theorem over : Rows.fnTermAtRow.holds Tryz.pinned (OpenSpec.ofChange Rows.fnTermAtSpec) :=
 OpenClaim.holds_of_wide 4 Tryz.f4 rfl rfl rfl rfl rfl rfl rfl ⟨rfl, rfl, rfl, rfl, rfl⟩ rfl rfl rfl rfl rfl (by kernel_rfl) Tryz.func4 (by kernel_rfl)
  (of_decide_eq_true (by kernel_rfl)) (by unfold Func.isWrapper; first | (rw [if_pos (by decide +kernel)]; kernel_rfl) | (rw [if_neg (by decide +kernel)]; exact ⟨rfl, rfl⟩))
  (fun os started H enc _ => lifted os started H enc)
theorem proved : Rows.FnTermAtSaid :=
 over
end Go.Proofs.YtihlbbbajaepoaaGreat.fnTermAt
