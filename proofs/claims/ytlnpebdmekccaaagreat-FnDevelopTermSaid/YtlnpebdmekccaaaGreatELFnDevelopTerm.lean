/-
  The law FnDevelopTerm: whatever the bytes, a developed term has the same normal term.
-/
import Derived.Test.YtlnpebdmekccaaaGreatE23
import Derived.Test.YtlnpebdmekccaaaGreatE36
import Derived.Test.YtlnpebdmekccaaaGreatE54
import Derived.IntWalk
namespace Go.Proofs.YtlnpebdmekccaaaGreat.fnDevelopTerm
open Go.ChangeShapes Go.WideShapes Go.ChangeAt Go.RowKit Go.Deep
set_option linter.unusedVariables false
theorem readable_FnDevelopTerm : ∀ t ∈ (#[22] : Array TypeId).toList, Tryz.prog.readableRec t = true ∧ t < Tryz.prog.types.size := by
 intro t ht
 simp at ht
 subst ht
 exact ⟨by kernel_rfl, of_decide_eq_true (by kernel_rfl)⟩
theorem laid : laidOutB Tryz.prog = true := by kernel_rfl
@[reducible] def dS (U5 : World) (gVX : Nat) (gV : Nat) (gVA : Nat) (gVB : Nat) (X : Tm) (T : Tm) (X1 : Tm) (X2 : Tm) (aVX : Option Addr) (cVX : Nat) (aV : Option Addr) (cV : Nat) (aVA : Option Addr) (cVA : Nat) (aVB : Option Addr) (cVB : Nat) : World → Prop :=
 fun w' => Below U5.heap.size U5 w' ∧ (gVX < w'.heap.size ∧ w'.cell? ⟨gVX, 0, none⟩ = some (.int .i64 X.kind) ∧ w'.cell? ⟨gVX, 1, none⟩ = some (.int .i64 X.num) ∧ w'.cell? ⟨gVX, 2, none⟩ = some (.slice aVX X.kids.length cVX)) ∧ (gV < w'.heap.size ∧ w'.cell? ⟨gV, 0, none⟩ = some (.int .i64 T.kind) ∧ w'.cell? ⟨gV, 1, none⟩ = some (.int .i64 T.num) ∧ w'.cell? ⟨gV, 2, none⟩ = some (.slice aV T.kids.length cV)) ∧ (gVA < w'.heap.size ∧ w'.cell? ⟨gVA, 0, none⟩ = some (.int .i64 X1.kind) ∧ w'.cell? ⟨gVA, 1, none⟩ = some (.int .i64 X1.num) ∧ w'.cell? ⟨gVA, 2, none⟩ = some (.slice aVA X1.kids.length cVA)) ∧ (gVB < w'.heap.size ∧ w'.cell? ⟨gVB, 0, none⟩ = some (.int .i64 X2.kind) ∧ w'.cell? ⟨gVB, 1, none⟩ = some (.int .i64 X2.num) ∧ w'.cell? ⟨gVB, 2, none⟩ = some (.slice aVB X2.kids.length cVB))
set_option maxRecDepth 100000 in
set_option maxHeartbeats 40000000 in
theorem walk (U : Nat → Int) (a : Option Addr) (b o len cap : Nat) (w : World) (hlc : len ≤ cap) (hcm : cap ≤ maxLen) (hby : Bytes U a b o len w) : Calls Tryz.prog 3 #[.slice a len cap] w fun e w' => e = .returned (.bool true) ∧ Below w.heap.size w w' := by
 unfold maxLen at hcm
 by_cases hl : 1048576 < len
 ·have hl' : (1048576 : Int) < (len : Int) := by omega
  clear hby
  go_enter Tryz.func3, Tryz.ntmps3
  go_wp2
  go_ret
  exact ⟨rfl, Below.refl _ _⟩
 have hl' : ¬ (1048576 : Int) < (len : Int) := by omega
 have HD := tuck (dDevelopTerm_any w (by omega) hlc hby)
 clear hby
 go_enter Tryz.func3, Tryz.ntmps3
 go_wp2_with fail
 refine HD.out.mono ?_
 rintro e w1 ⟨T, v, rfl, ⟨s, rfl, hin⟩, hsz, hb⟩
 obtain ⟨aV, cV, rfl⟩ := hin.form
 have V := tuck (TV.new (hin.mono (Nat.zero_le _)))
 have HB := tuck (bAfter hb (below1 w1 (.cells #[.int .i64 T.kind, .int .i64 T.num, .slice aV T.kids.length cV] 25)))
 have HSZ : Hid (sizes T.kids ≤ 1048576) := tuck (by have := T.size_eq; omega)
 clear hin hb HD hsz
 go_wp2_with fail
 generalize w1.alloc (.cells #[.int .i64 T.kind, .int .i64 T.num, .slice aV T.kids.length cV] 25) = U0 at *
 generalize w1.heap.size = gV at *
 by_cases hP : DevOk T
 rotate_left
 ·obtain ⟨X, hX⟩ : ∃ X, X = zeroT := ⟨_, rfl⟩
  have HIM : Hid (∀ (w : World) (v : Value), TmIn w 0 T v → Calls Tryz.prog 8 #[v] w (PairPost w X false)) := fun w v h => by
   have h2 := (developI_any T w v h).mono fun _ _ h => h.pair; rwa [orZero_no hP, tr_not hP, ← hX] at h2
  have HSP : Hid (∀ (w : World) (v : Value), TmIn w 0 T v → Calls Tryz.prog 9 #[v] w (PairPost w X false)) := fun w v h => by
   have h2 := (developS_any T w v h).mono fun _ _ h => h.pair; rwa [orZero_no hP, tr_not hP, ← hX] at h2
  have HTS : Hid (∀ (w : World) (v1 v2 : Value), TmIn w 0 X v1 → TmIn w 0 X v2 → Calls Tryz.prog 10 #[v1, v2] w (BoolPost w true)) := fun w v1 v2 h1 h2 => by rw [hX] at h1 h2; exact same_z w v1 v2 h1 h2
  clear hX hP
  refine (HIM.out _ _ V.out.tm).mono ?_
  rintro e u21 ⟨hb, vv, rfl, ss, rfl, hin⟩
  obtain ⟨aVX, cVX, rfl⟩ := hin.form
  replace V := tuck (V.out.below hb)
  replace HB := tuck (bAfter HB.out hb)
  have HNVX := tuck hin
  clear hb hin
  obtain ⟨zV, c0V, c1V, c2V, cfV⟩ := V.out.facts
  go_wp2_with fail
  clear zV c0V c1V c2V cfV
  have VX := tuck (TV.new HNVX.out)
  have hb := below1 u21 (.cells #[.int .i64 X.kind, .int .i64 X.num, .slice aVX X.kids.length cVX] 25)
  replace V := tuck (V.out.below hb)
  replace HB := tuck (bAfter HB.out hb)
  clear hb HNVX
  generalize u21.alloc (.cells #[.int .i64 X.kind, .int .i64 X.num, .slice aVX X.kids.length cVX] 25) = U21 at *
  generalize u21.heap.size = gVX at *
  refine (HSP.out _ _ V.out.tm).mono ?_
  rintro e u22 ⟨hb, vv, rfl, ss, rfl, hin⟩
  obtain ⟨aVW, cVW, rfl⟩ := hin.form
  replace V := tuck (V.out.below hb)
  replace VX := tuck (VX.out.below hb)
  replace HB := tuck (bAfter HB.out hb)
  have HNVW := tuck hin
  clear hb hin
  obtain ⟨zV, c0V, c1V, c2V, cfV⟩ := V.out.facts
  obtain ⟨zVX, c0VX, c1VX, c2VX, cfVX⟩ := VX.out.facts
  go_wp2_with fail
  clear zV c0V c1V c2V cfV zVX c0VX c1VX c2VX cfVX
  have VW := tuck (TV.new HNVW.out)
  have hb := below1 u22 (.cells #[.int .i64 X.kind, .int .i64 X.num, .slice aVW X.kids.length cVW] 25)
  replace V := tuck (V.out.below hb)
  replace VX := tuck (VX.out.below hb)
  replace HB := tuck (bAfter HB.out hb)
  clear hb HNVW
  generalize u22.alloc (.cells #[.int .i64 X.kind, .int .i64 X.num, .slice aVW X.kids.length cVW] 25) = U22 at *
  generalize u22.heap.size = gVW at *
  refine (HTS.out _ _ _ VX.out.tm VW.out.tm).mono ?_
  rintro e u23 ⟨rfl, hb⟩
  replace V := tuck (V.out.below hb)
  replace VX := tuck (VX.out.below hb)
  replace VW := tuck (VW.out.below hb)
  replace HB := tuck (bAfter HB.out hb)
  clear hb
  obtain ⟨zV, c0V, c1V, c2V, cfV⟩ := V.out.facts
  obtain ⟨zVX, c0VX, c1VX, c2VX, cfVX⟩ := VX.out.facts
  obtain ⟨zVW, c0VW, c1VW, c2VW, cfVW⟩ := VW.out.facts
  go_wp2_with fail
  refine (HTS.out _ _ _ VX.out.tm VW.out.tm).mono ?_
  rintro e u24 ⟨rfl, hb⟩
  clear zV c0V c1V c2V cfV zVX c0VX c1VX c2VX cfVX zVW c0VW c1VW c2VW cfVW
  replace V := tuck (V.out.below hb)
  replace VX := tuck (VX.out.below hb)
  replace VW := tuck (VW.out.below hb)
  replace HB := tuck (bAfter HB.out hb)
  clear hb
  obtain ⟨zV, c0V, c1V, c2V, cfV⟩ := V.out.facts
  obtain ⟨zVX, c0VX, c1VX, c2VX, cfVX⟩ := VX.out.facts
  obtain ⟨zVW, c0VW, c1VW, c2VW, cfVW⟩ := VW.out.facts
  go_wp2_with fail
  go_ret
  exact ⟨rfl, HB.out⟩
 obtain ⟨X, hX⟩ : ∃ X, X = T.dev := ⟨_, rfl⟩
 have hpar : T.par X := hX ▸ dev_par hP
 have hXV : X.Valid := hX ▸ dev_valid hP
 have HIM : Hid (∀ (w : World) (v : Value), TmIn w 0 T v → Calls Tryz.prog 8 #[v] w (PairPost w X true)) := fun w v h => by
  have h2 := (developI_any T w v h).mono fun _ _ h => h.pair; rwa [orZero_yes hP, tr_of hP, ← hX] at h2
 have HSP : Hid (∀ (w : World) (v : Value), TmIn w 0 T v → Calls Tryz.prog 9 #[v] w (PairPost w X true)) := fun w v h => by
  have h2 := (developS_any T w v h).mono fun _ _ h => h.pair; rwa [orZero_yes hP, tr_of hP, ← hX] at h2
 have HTS : Hid (∀ (w : World) (v1 v2 : Value), TmIn w 0 X v1 → TmIn w 0 X v2 → Calls Tryz.prog 10 #[v1, v2] w (BoolPost w true)) := same_v hXV
 obtain ⟨c1, hc1⟩ : ∃ q0, q0 = normC false false T 200 := ⟨_, rfl⟩
 obtain ⟨X1, hX1⟩ : ∃ Q, Q = normT false false T 200 := ⟨_, rfl⟩
 have H1 : Hid (∀ (w : World) (v : Value), TmIn w 0 T v → Calls Tryz.prog 11 #[v, .int .i64 200] w (SCodePost w c1 X1)) := fun w v h => by
  have h2 := normI_p T 200 w v h; rwa [← hc1, ← hX1] at h2
 obtain ⟨c2, hc2⟩ : ∃ q0, q0 = normC false false X 200 := ⟨_, rfl⟩
 obtain ⟨X2, hX2⟩ : ∃ Q, Q = normT false false X 200 := ⟨_, rfl⟩
 have H2 : Hid (∀ (w : World) (v : Value), TmIn w 0 X v → Calls Tryz.prog 11 #[v, .int .i64 200] w (SCodePost w c2 X2)) := fun w v h => by
  have h2 := normI_p X 200 w v h; rwa [← hc2, ← hX2] at h2
 obtain ⟨mx, hmx⟩ : ∃ m, maxFreeOf X = m := ⟨_, rfl⟩
 obtain ⟨mt, hmt⟩ : ∃ m, maxFreeOf T = m := ⟨_, rfl⟩
 have hle : decide (mx ≤ mt) = true := decide_eq_true (by rw [← hmx, ← hmt]; exact most_le hP.1 hXV (.one hpar))
 have HMX := tuck (maxFreeI_p hmx)
 have HMT := tuck (maxFreeI_p hmt)
 have HEQ : Hid (c1 = 0 → c2 = 0 → X1.Valid ∧ X1 = X2) := tuck fun h1 h2 => by
  have hy1 : NrmYes false false T 200 X1 := hX1 ▸ nrm_yes (by rw [← hc1]; exact h1)
  have hy2 : NrmYes false false X 200 X2 := hX2 ▸ nrm_yes (by rw [← hc2]; exact h2)
  exact ⟨hy1.valid, norm_same hP.1.wf (.refl _) (.one hpar) hy1 hy2⟩
 obtain ⟨bn, hbn⟩ : ∃ b, b = normalOf T := ⟨_, rfl⟩
 have HNT : Hid (∀ (w : World) (v : Value), TmIn w 0 T v → Calls Tryz.prog 12 #[v] w (BoolPost w bn)) := fun w v h => by
  have h2 := normalI_any T w v h; rwa [← hbn] at h2
 have HXT : Hid (bn = true → ∀ (w : World) (v1 v2 : Value), TmIn w 0 X v1 → TmIn w 0 T v2 → Calls Tryz.prog 10 #[v1, v2] w (BoolPost w true)) := tuck fun hb => by
  have hs : T.step false false = none := by
   have h1 := normal_eq hP.1
   rw [← hbn, hb] at h1
   cases hs : T.step false false with
   | none => rfl
   | some _ => rw [hs] at h1; cases h1
  have e : X = T := nrm_of hs X hpar
  rw [e]
  exact same_v hP.1
 clear hmx hmt hc1 hX1 hc2 hX2 hX hpar hXV hP hbn
 refine (HIM.out _ _ V.out.tm).mono ?_
 rintro e u1 ⟨hb, vv, rfl, ss, rfl, hin⟩
 obtain ⟨aVX, cVX, rfl⟩ := hin.form
 replace V := tuck (V.out.below hb)
 replace HB := tuck (bAfter HB.out hb)
 have HNVX := tuck hin
 clear hb hin
 obtain ⟨zV, c0V, c1V, c2V, cfV⟩ := V.out.facts
 go_wp2_with fail
 clear zV c0V c1V c2V cfV
 have VX := tuck (TV.new HNVX.out)
 have hb := below1 u1 (.cells #[.int .i64 X.kind, .int .i64 X.num, .slice aVX X.kids.length cVX] 25)
 replace V := tuck (V.out.below hb)
 replace HB := tuck (bAfter HB.out hb)
 clear hb HNVX
 generalize u1.alloc (.cells #[.int .i64 X.kind, .int .i64 X.num, .slice aVX X.kids.length cVX] 25) = U1 at *
 generalize u1.heap.size = gVX at *
 refine (HSP.out _ _ V.out.tm).mono ?_
 rintro e u2 ⟨hb, vv, rfl, ss, rfl, hin⟩
 obtain ⟨aVW, cVW, rfl⟩ := hin.form
 replace V := tuck (V.out.below hb)
 replace VX := tuck (VX.out.below hb)
 replace HB := tuck (bAfter HB.out hb)
 have HNVW := tuck hin
 clear hb hin
 obtain ⟨zV, c0V, c1V, c2V, cfV⟩ := V.out.facts
 obtain ⟨zVX, c0VX, c1VX, c2VX, cfVX⟩ := VX.out.facts
 go_wp2_with fail
 clear zV c0V c1V c2V cfV zVX c0VX c1VX c2VX cfVX
 have VW := tuck (TV.new HNVW.out)
 have hb := below1 u2 (.cells #[.int .i64 X.kind, .int .i64 X.num, .slice aVW X.kids.length cVW] 25)
 replace V := tuck (V.out.below hb)
 replace VX := tuck (VX.out.below hb)
 replace HB := tuck (bAfter HB.out hb)
 clear hb HNVW
 generalize u2.alloc (.cells #[.int .i64 X.kind, .int .i64 X.num, .slice aVW X.kids.length cVW] 25) = U2 at *
 generalize u2.heap.size = gVW at *
 refine (HTS.out _ _ _ VX.out.tm VW.out.tm).mono ?_
 rintro e u3 ⟨rfl, hb⟩
 replace V := tuck (V.out.below hb)
 replace VX := tuck (VX.out.below hb)
 replace VW := tuck (VW.out.below hb)
 replace HB := tuck (bAfter HB.out hb)
 clear hb
 obtain ⟨zV, c0V, c1V, c2V, cfV⟩ := V.out.facts
 obtain ⟨zVX, c0VX, c1VX, c2VX, cfVX⟩ := VX.out.facts
 obtain ⟨zVW, c0VW, c1VW, c2VW, cfVW⟩ := VW.out.facts
 go_wp2_with fail
 refine (H1.out _ _ V.out.tm).mono ?_
 rintro e u4 ⟨hb, vv, rfl, ss, rfl, hin⟩
 obtain ⟨aVA, cVA, rfl⟩ := hin.form
 clear zV c0V c1V c2V cfV zVX c0VX c1VX c2VX cfVX zVW c0VW c1VW c2VW cfVW
 replace V := tuck (V.out.below hb)
 replace VX := tuck (VX.out.below hb)
 replace VW := tuck (VW.out.below hb)
 replace HB := tuck (bAfter HB.out hb)
 have HNVA := tuck hin
 clear hb hin
 obtain ⟨zV, c0V, c1V, c2V, cfV⟩ := V.out.facts
 obtain ⟨zVX, c0VX, c1VX, c2VX, cfVX⟩ := VX.out.facts
 obtain ⟨zVW, c0VW, c1VW, c2VW, cfVW⟩ := VW.out.facts
 go_wp2_with fail
 clear zV c0V c1V c2V cfV zVX c0VX c1VX c2VX cfVX zVW c0VW c1VW c2VW cfVW
 have VA := tuck (TV.new HNVA.out)
 have hb := below1 u4 (.cells #[.int .i64 X1.kind, .int .i64 X1.num, .slice aVA X1.kids.length cVA] 25)
 replace V := tuck (V.out.below hb)
 replace VX := tuck (VX.out.below hb)
 replace VW := tuck (VW.out.below hb)
 replace HB := tuck (bAfter HB.out hb)
 clear hb HNVA
 generalize u4.alloc (.cells #[.int .i64 X1.kind, .int .i64 X1.num, .slice aVA X1.kids.length cVA] 25) = U4 at *
 generalize u4.heap.size = gVA at *
 refine (H2.out _ _ VX.out.tm).mono ?_
 rintro e u5 ⟨hb, vv, rfl, ss, rfl, hin⟩
 obtain ⟨aVB, cVB, rfl⟩ := hin.form
 replace V := tuck (V.out.below hb)
 replace VX := tuck (VX.out.below hb)
 replace VW := tuck (VW.out.below hb)
 replace VA := tuck (VA.out.below hb)
 replace HB := tuck (bAfter HB.out hb)
 have HNVB := tuck hin
 clear hb hin
 obtain ⟨zV, c0V, c1V, c2V, cfV⟩ := V.out.facts
 obtain ⟨zVX, c0VX, c1VX, c2VX, cfVX⟩ := VX.out.facts
 obtain ⟨zVW, c0VW, c1VW, c2VW, cfVW⟩ := VW.out.facts
 obtain ⟨zVA, c0VA, c1VA, c2VA, cfVA⟩ := VA.out.facts
 go_wp2_with fail
 clear zV c0V c1V c2V cfV zVX c0VX c1VX c2VX cfVX zVW c0VW c1VW c2VW cfVW zVA c0VA c1VA c2VA cfVA
 have VB := tuck (TV.new HNVB.out)
 have hb := below1 u5 (.cells #[.int .i64 X2.kind, .int .i64 X2.num, .slice aVB X2.kids.length cVB] 25)
 replace V := tuck (V.out.below hb)
 replace VX := tuck (VX.out.below hb)
 replace VW := tuck (VW.out.below hb)
 replace VA := tuck (VA.out.below hb)
 replace HB := tuck (bAfter HB.out hb)
 clear hb HNVB
 generalize u5.alloc (.cells #[.int .i64 X2.kind, .int .i64 X2.num, .slice aVB X2.kids.length cVB] 25) = U5 at *
 generalize u5.heap.size = gVB at *
 by_cases hnc1 : c1 ≠ 0
 ·skip
  have kc1 : (c1 != 0) = true := by rw [bne_iff_ne]; exact hnc1
  clear HEQ hnc1
  cases bn
  ·skip
   clear HXT
   have HT12 : ∀ w' : World, (dS U5 gVX gV gVA gVB X T X1 X2 aVX cVX aV cV aVA cVA aVB cVB) w' → (dS U5 gVX gV gVA gVB X T X1 X2 aVX cVX aV cV aVA cVA aVB cVB) w' := fun w' h => h
   refine AnyTwo.begin (dS U5 gVX gV gVA gVB X T X1 X2 aVX cVX aV cV aVA cVA aVB cVB) (dS U5 gVX gV gVA gVB X T X1 X2 aVX cVX aV cV aVA cVA aVB cVB) 28 (by kernel_rfl) ?_
   have hS1 : (dS U5 gVX gV gVA gVB X T X1 X2 aVX cVX aV cV aVA cVA aVB cVB) _ := ⟨(Below.refl _ _).drew, VX.out.var.four, V.out.var.four, VA.out.var.four, VB.out.var.four⟩
   refine AnyTwo.tk HT12 (i := 0) (oi := ⟨some 58, _, _, _, _, _⟩) rfl (ph_one (by kernel_rfl) hS1) ?_
   try simp only [pts]
   refine AnyTwo.step (i := 1) (o := ⟨some 59, _, _, _, _, _⟩) (by kernel_rfl) rfl (fun K hK => ?_)
   go_simp
   refine (HNT.out _ _ ⟨_, rfl, V.out.sl.below hS1.1⟩).mono ?_
   rintro e w7 ⟨rfl, hb7⟩
   have hS1' : (dS U5 gVX gV gVA gVB X T X1 X2 aVX cVX aV cV aVA cVA aVB cVB) _ := ⟨bAfter hS1.1 hb7, BoxAt.below hS1.2.1 hb7, BoxAt.below hS1.2.2.1 hb7, BoxAt.below hS1.2.2.2.1 hb7, BoxAt.below hS1.2.2.2.2 hb7⟩
   refine hK.out _ _ (ph_one (by kernel_rfl) hS1') ?_
   clear hK K hS1
   have hS1 := hS1'
   clear hS1'
   try simp only [pts]
   refine AnyTwo.tk HT12 (i := 2) (oi := ⟨some 60, _, _, _, _, _⟩) rfl (ph_one (by kernel_rfl) hS1) ?_
   try simp only [pts]
   refine AnyTwo.tk HT12 (i := 3) (oi := ⟨some 61, _, _, _, _, _⟩) rfl (ph_one (by kernel_rfl) hS1) ?_
   try simp only [pts]
   refine AnyTwo.sk HT12 (i := 4) (oi := ⟨some 62, _, _, _, _, _⟩) rfl (ph_one (by kernel_rfl) hS1) ?_
   try simp only [pts]
   refine AnyTwo.sk HT12 (i := 5) (oi := ⟨some 63, _, _, _, _, _⟩) rfl (ph_one (by kernel_rfl) hS1) ?_
   try simp only [pts]
   refine AnyTwo.step (i := 6) (o := ⟨some 64, _, _, _, _, _⟩) (by kernel_rfl) rfl (fun K hK => ?_)
   go_simp
   refine hK.out _ _ (ph_one (by kernel_rfl) hS1) ?_
   clear hK K
   try simp only [pts]
   refine AnyTwo.tk HT12 (i := 7) (oi := ⟨some 65, _, _, _, _, _⟩) rfl (ph_one (by kernel_rfl) hS1) ?_
   try simp only [pts]
   refine AnyTwo.tk HT12 (i := 8) (oi := ⟨some 66, _, _, _, _, _⟩) rfl (ph_one (by kernel_rfl) hS1) ?_
   try simp only [pts]
   refine AnyTwo.tk HT12 (i := 9) (oi := ⟨some 67, _, _, _, _, _⟩) rfl (ph_one (by kernel_rfl) hS1) ?_
   try simp only [pts]
   refine AnyTwo.takeAny HT12 (i := 10) (oi := ⟨some 68, _, _, _, _, _⟩) (v := .bool true) rfl (by kernel_rfl) (by kernel_rfl) (by decide +kernel) (by rfl) (fun _ _ _ h => h) (Or.inl ⟨by rfl, ?yp09⟩) (ph_one (by kernel_rfl) hS1) ?rp09
   case yp09 => (intro w hSw; (try dsimp only at hSw); go_simp; try simp [*])
   try simp only [pts]
   refine AnyTwo.tk HT12 (i := 11) (oi := ⟨some 69, _, _, _, _, _⟩) rfl (ph_one (by kernel_rfl) hS1) ?_
   try simp only [pts]
   refine AnyTwo.sk HT12 (i := 12) (oi := ⟨some 70, _, _, _, _, _⟩) rfl (ph_one (by kernel_rfl) hS1) ?_
   try simp only [pts]
   refine AnyTwo.sk HT12 (i := 13) (oi := ⟨some 71, _, _, _, _, _⟩) rfl (ph_one (by kernel_rfl) hS1) ?_
   try simp only [pts]
   refine AnyTwo.tk HT12 (i := 14) (oi := ⟨some 72, _, _, _, _, _⟩) rfl (ph_one (by kernel_rfl) hS1) ?_
   try simp only [pts]
   refine AnyTwo.tk HT12 (i := 15) (oi := ⟨some 73, _, _, _, _, _⟩) rfl (ph_one (by kernel_rfl) hS1) ?_
   try simp only [pts]
   refine AnyTwo.sk HT12 (i := 16) (oi := ⟨some 74, _, _, _, _, _⟩) rfl (ph_one (by kernel_rfl) hS1) ?_
   try simp only [pts]
   refine AnyTwo.sk HT12 (i := 17) (oi := ⟨some 75, _, _, _, _, _⟩) rfl (ph_one (by kernel_rfl) hS1) ?_
   try simp only [pts]
   refine AnyTwo.step (i := 18) (o := ⟨some 76, _, _, _, _, _⟩) (by kernel_rfl) rfl (fun K hK => ?_)
   go_simp
   refine hK.out _ _ (ph_one (by kernel_rfl) hS1) ?_
   clear hK K
   try simp only [pts]
   refine AnyTwo.tk HT12 (i := 19) (oi := ⟨some 77, _, _, _, _, _⟩) rfl (ph_one (by kernel_rfl) hS1) ?_
   try simp only [pts]
   refine AnyTwo.tk HT12 (i := 20) (oi := ⟨some 78, _, _, _, _, _⟩) rfl (ph_one (by kernel_rfl) hS1) ?_
   try simp only [pts]
   refine AnyTwo.tk HT12 (i := 21) (oi := ⟨some 79, _, _, _, _, _⟩) rfl (ph_one (by kernel_rfl) hS1) ?_
   try simp only [pts]
   refine AnyTwo.tk HT12 (i := 22) (oi := ⟨some 80, _, _, _, _, _⟩) rfl (ph_one (by kernel_rfl) hS1) ?_
   try simp only [pts]
   refine AnyTwo.tk HT12 (i := 24) (oi := ⟨some 82, _, _, _, _, _⟩) rfl (ph_one (by kernel_rfl) hS1) ?_
   try simp only [pts]
   refine AnyTwo.step (i := 23) (o := ⟨some 81, _, _, _, _, _⟩) (by kernel_rfl) rfl (fun K hK => ?_)
   go_simp
   refine (HMX.out _ _ ⟨_, rfl, VX.out.sl.below hS1.1⟩).mono ?_
   rintro e w7 ⟨rfl, hb7⟩
   have hS1' : (dS U5 gVX gV gVA gVB X T X1 X2 aVX cVX aV cV aVA cVA aVB cVB) _ := ⟨bAfter hS1.1 hb7, BoxAt.below hS1.2.1 hb7, BoxAt.below hS1.2.2.1 hb7, BoxAt.below hS1.2.2.2.1 hb7, BoxAt.below hS1.2.2.2.2 hb7⟩
   refine hK.out _ _ (ph_one (by kernel_rfl) hS1') ?_
   clear hK K hS1
   have hS1 := hS1'
   clear hS1'
   try simp only [pts]
   refine AnyTwo.step (i := 25) (o := ⟨some 83, _, _, _, _, _⟩) (by kernel_rfl) rfl (fun K hK => ?_)
   go_simp
   refine (HMT.out _ _ ⟨_, rfl, V.out.sl.below hS1.1⟩).mono ?_
   rintro e w7 ⟨rfl, hb7⟩
   have hS1' : (dS U5 gVX gV gVA gVB X T X1 X2 aVX cVX aV cV aVA cVA aVB cVB) _ := ⟨bAfter hS1.1 hb7, BoxAt.below hS1.2.1 hb7, BoxAt.below hS1.2.2.1 hb7, BoxAt.below hS1.2.2.2.1 hb7, BoxAt.below hS1.2.2.2.2 hb7⟩
   refine hK.out _ _ (ph_one (by kernel_rfl) hS1') ?_
   clear hK K hS1
   have hS1 := hS1'
   clear hS1'
   try simp only [pts]
   refine AnyTwo.takeAny HT12 (i := 26) (oi := ⟨some 84, _, _, _, _, _⟩) (v := .bool true) rfl (by kernel_rfl) (by kernel_rfl) (by decide +kernel) (by rfl) (fun _ _ _ h => h) (Or.inl ⟨by rfl, ?yp022⟩) (ph_one (by kernel_rfl) hS1) ?rp022
   case yp022 => (intro w hSw; (try dsimp only at hSw); go_simp; try simp [*])
   try simp only [pts]
   refine AnyTwo.tk HT12 (i := 27) (oi := ⟨some 85, _, _, _, _, _⟩) rfl (ph_one (by kernel_rfl) hS1) ?_
   try simp only [pts]
   refine AnyTwo.step (i := 28) (o := ⟨some 2, _, _, _, _, _⟩) (by kernel_rfl) rfl (fun K hK => ?_)
   go_simp
   refine hK.out _ _ (ph_end (by kernel_rfl) hS1) ?_
   clear hK K
   try simp only [pts]
   refine AnyTwo.done (by kernel_rfl) ?_ _
   clear HT12
   have hb := hS1.1
   replace HB := tuck (bAfter HB.out hb)
   clear hb hS1
   go_wp2_with fail
   go_ret
   exact ⟨rfl, HB.out⟩
  ·skip
   have HXT2 := tuck (HXT.out rfl)
   clear HXT
   have HT12 : ∀ w' : World, (dS U5 gVX gV gVA gVB X T X1 X2 aVX cVX aV cV aVA cVA aVB cVB) w' → (dS U5 gVX gV gVA gVB X T X1 X2 aVX cVX aV cV aVA cVA aVB cVB) w' := fun w' h => h
   refine AnyTwo.begin (dS U5 gVX gV gVA gVB X T X1 X2 aVX cVX aV cV aVA cVA aVB cVB) (dS U5 gVX gV gVA gVB X T X1 X2 aVX cVX aV cV aVA cVA aVB cVB) 28 (by kernel_rfl) ?_
   have hS1 : (dS U5 gVX gV gVA gVB X T X1 X2 aVX cVX aV cV aVA cVA aVB cVB) _ := ⟨(Below.refl _ _).drew, VX.out.var.four, V.out.var.four, VA.out.var.four, VB.out.var.four⟩
   refine AnyTwo.tk HT12 (i := 0) (oi := ⟨some 58, _, _, _, _, _⟩) rfl (ph_one (by kernel_rfl) hS1) ?_
   try simp only [pts]
   refine AnyTwo.step (i := 1) (o := ⟨some 59, _, _, _, _, _⟩) (by kernel_rfl) rfl (fun K hK => ?_)
   go_simp
   refine (HNT.out _ _ ⟨_, rfl, V.out.sl.below hS1.1⟩).mono ?_
   rintro e w7 ⟨rfl, hb7⟩
   have hS1' : (dS U5 gVX gV gVA gVB X T X1 X2 aVX cVX aV cV aVA cVA aVB cVB) _ := ⟨bAfter hS1.1 hb7, BoxAt.below hS1.2.1 hb7, BoxAt.below hS1.2.2.1 hb7, BoxAt.below hS1.2.2.2.1 hb7, BoxAt.below hS1.2.2.2.2 hb7⟩
   refine hK.out _ _ (ph_one (by kernel_rfl) hS1') ?_
   clear hK K hS1
   have hS1 := hS1'
   clear hS1'
   try simp only [pts]
   refine AnyTwo.tk HT12 (i := 2) (oi := ⟨some 60, _, _, _, _, _⟩) rfl (ph_one (by kernel_rfl) hS1) ?_
   try simp only [pts]
   refine AnyTwo.tk HT12 (i := 3) (oi := ⟨some 61, _, _, _, _, _⟩) rfl (ph_one (by kernel_rfl) hS1) ?_
   try simp only [pts]
   refine AnyTwo.tk HT12 (i := 4) (oi := ⟨some 62, _, _, _, _, _⟩) rfl (ph_one (by kernel_rfl) hS1) ?_
   try simp only [pts]
   refine AnyTwo.tk HT12 (i := 5) (oi := ⟨some 63, _, _, _, _, _⟩) rfl (ph_one (by kernel_rfl) hS1) ?_
   try simp only [pts]
   refine AnyTwo.step (i := 6) (o := ⟨some 64, _, _, _, _, _⟩) (by kernel_rfl) rfl (fun K hK => ?_)
   go_simp
   refine (HXT2.out _ _ _ ⟨_, rfl, VX.out.sl.below hS1.1⟩ ⟨_, rfl, V.out.sl.below hS1.1⟩).mono ?_
   rintro e w7 ⟨rfl, hb7⟩
   have hS1' : (dS U5 gVX gV gVA gVB X T X1 X2 aVX cVX aV cV aVA cVA aVB cVB) _ := ⟨bAfter hS1.1 hb7, BoxAt.below hS1.2.1 hb7, BoxAt.below hS1.2.2.1 hb7, BoxAt.below hS1.2.2.2.1 hb7, BoxAt.below hS1.2.2.2.2 hb7⟩
   refine hK.out _ _ (ph_one (by kernel_rfl) hS1') ?_
   clear hK K hS1
   have hS1 := hS1'
   clear hS1'
   try simp only [pts]
   refine AnyTwo.tk HT12 (i := 7) (oi := ⟨some 65, _, _, _, _, _⟩) rfl (ph_one (by kernel_rfl) hS1) ?_
   try simp only [pts]
   refine AnyTwo.tk HT12 (i := 8) (oi := ⟨some 66, _, _, _, _, _⟩) rfl (ph_one (by kernel_rfl) hS1) ?_
   try simp only [pts]
   refine AnyTwo.tk HT12 (i := 9) (oi := ⟨some 67, _, _, _, _, _⟩) rfl (ph_one (by kernel_rfl) hS1) ?_
   try simp only [pts]
   refine AnyTwo.takeAny HT12 (i := 10) (oi := ⟨some 68, _, _, _, _, _⟩) (v := .bool true) rfl (by kernel_rfl) (by kernel_rfl) (by decide +kernel) (by rfl) (fun _ _ _ h => h) (Or.inl ⟨by rfl, ?yq09⟩) (ph_one (by kernel_rfl) hS1) ?rq09
   case yq09 => (intro w hSw; (try dsimp only at hSw); go_simp; try simp [*])
   try simp only [pts]
   refine AnyTwo.tk HT12 (i := 11) (oi := ⟨some 69, _, _, _, _, _⟩) rfl (ph_one (by kernel_rfl) hS1) ?_
   try simp only [pts]
   refine AnyTwo.sk HT12 (i := 12) (oi := ⟨some 70, _, _, _, _, _⟩) rfl (ph_one (by kernel_rfl) hS1) ?_
   try simp only [pts]
   refine AnyTwo.sk HT12 (i := 13) (oi := ⟨some 71, _, _, _, _, _⟩) rfl (ph_one (by kernel_rfl) hS1) ?_
   try simp only [pts]
   refine AnyTwo.tk HT12 (i := 14) (oi := ⟨some 72, _, _, _, _, _⟩) rfl (ph_one (by kernel_rfl) hS1) ?_
   try simp only [pts]
   refine AnyTwo.tk HT12 (i := 15) (oi := ⟨some 73, _, _, _, _, _⟩) rfl (ph_one (by kernel_rfl) hS1) ?_
   try simp only [pts]
   refine AnyTwo.sk HT12 (i := 16) (oi := ⟨some 74, _, _, _, _, _⟩) rfl (ph_one (by kernel_rfl) hS1) ?_
   try simp only [pts]
   refine AnyTwo.sk HT12 (i := 17) (oi := ⟨some 75, _, _, _, _, _⟩) rfl (ph_one (by kernel_rfl) hS1) ?_
   try simp only [pts]
   refine AnyTwo.step (i := 18) (o := ⟨some 76, _, _, _, _, _⟩) (by kernel_rfl) rfl (fun K hK => ?_)
   go_simp
   refine hK.out _ _ (ph_one (by kernel_rfl) hS1) ?_
   clear hK K
   try simp only [pts]
   refine AnyTwo.tk HT12 (i := 19) (oi := ⟨some 77, _, _, _, _, _⟩) rfl (ph_one (by kernel_rfl) hS1) ?_
   try simp only [pts]
   refine AnyTwo.tk HT12 (i := 20) (oi := ⟨some 78, _, _, _, _, _⟩) rfl (ph_one (by kernel_rfl) hS1) ?_
   try simp only [pts]
   refine AnyTwo.tk HT12 (i := 21) (oi := ⟨some 79, _, _, _, _, _⟩) rfl (ph_one (by kernel_rfl) hS1) ?_
   try simp only [pts]
   refine AnyTwo.tk HT12 (i := 22) (oi := ⟨some 80, _, _, _, _, _⟩) rfl (ph_one (by kernel_rfl) hS1) ?_
   try simp only [pts]
   refine AnyTwo.tk HT12 (i := 24) (oi := ⟨some 82, _, _, _, _, _⟩) rfl (ph_one (by kernel_rfl) hS1) ?_
   try simp only [pts]
   refine AnyTwo.step (i := 23) (o := ⟨some 81, _, _, _, _, _⟩) (by kernel_rfl) rfl (fun K hK => ?_)
   go_simp
   refine (HMX.out _ _ ⟨_, rfl, VX.out.sl.below hS1.1⟩).mono ?_
   rintro e w7 ⟨rfl, hb7⟩
   have hS1' : (dS U5 gVX gV gVA gVB X T X1 X2 aVX cVX aV cV aVA cVA aVB cVB) _ := ⟨bAfter hS1.1 hb7, BoxAt.below hS1.2.1 hb7, BoxAt.below hS1.2.2.1 hb7, BoxAt.below hS1.2.2.2.1 hb7, BoxAt.below hS1.2.2.2.2 hb7⟩
   refine hK.out _ _ (ph_one (by kernel_rfl) hS1') ?_
   clear hK K hS1
   have hS1 := hS1'
   clear hS1'
   try simp only [pts]
   refine AnyTwo.step (i := 25) (o := ⟨some 83, _, _, _, _, _⟩) (by kernel_rfl) rfl (fun K hK => ?_)
   go_simp
   refine (HMT.out _ _ ⟨_, rfl, V.out.sl.below hS1.1⟩).mono ?_
   rintro e w7 ⟨rfl, hb7⟩
   have hS1' : (dS U5 gVX gV gVA gVB X T X1 X2 aVX cVX aV cV aVA cVA aVB cVB) _ := ⟨bAfter hS1.1 hb7, BoxAt.below hS1.2.1 hb7, BoxAt.below hS1.2.2.1 hb7, BoxAt.below hS1.2.2.2.1 hb7, BoxAt.below hS1.2.2.2.2 hb7⟩
   refine hK.out _ _ (ph_one (by kernel_rfl) hS1') ?_
   clear hK K hS1
   have hS1 := hS1'
   clear hS1'
   try simp only [pts]
   refine AnyTwo.takeAny HT12 (i := 26) (oi := ⟨some 84, _, _, _, _, _⟩) (v := .bool true) rfl (by kernel_rfl) (by kernel_rfl) (by decide +kernel) (by rfl) (fun _ _ _ h => h) (Or.inl ⟨by rfl, ?yq022⟩) (ph_one (by kernel_rfl) hS1) ?rq022
   case yq022 => (intro w hSw; (try dsimp only at hSw); go_simp; try simp [*])
   try simp only [pts]
   refine AnyTwo.tk HT12 (i := 27) (oi := ⟨some 85, _, _, _, _, _⟩) rfl (ph_one (by kernel_rfl) hS1) ?_
   try simp only [pts]
   refine AnyTwo.step (i := 28) (o := ⟨some 2, _, _, _, _, _⟩) (by kernel_rfl) rfl (fun K hK => ?_)
   go_simp
   refine hK.out _ _ (ph_end (by kernel_rfl) hS1) ?_
   clear hK K
   try simp only [pts]
   refine AnyTwo.done (by kernel_rfl) ?_ _
   clear HT12
   have hb := hS1.1
   replace HB := tuck (bAfter HB.out hb)
   clear hb hS1
   go_wp2_with fail
   go_ret
   exact ⟨rfl, HB.out⟩
 obtain rfl : c1 = 0 := Classical.byContradiction hnc1
 by_cases hnc2 : c2 ≠ 0
 ·skip
  have kc2 : (c2 != 0) = true := by rw [bne_iff_ne]; exact hnc2
  clear HEQ hnc1 hnc2
  cases bn
  ·skip
   clear HXT
   have HT12 : ∀ w' : World, (dS U5 gVX gV gVA gVB X T X1 X2 aVX cVX aV cV aVA cVA aVB cVB) w' → (dS U5 gVX gV gVA gVB X T X1 X2 aVX cVX aV cV aVA cVA aVB cVB) w' := fun w' h => h
   refine AnyTwo.begin (dS U5 gVX gV gVA gVB X T X1 X2 aVX cVX aV cV aVA cVA aVB cVB) (dS U5 gVX gV gVA gVB X T X1 X2 aVX cVX aV cV aVA cVA aVB cVB) 28 (by kernel_rfl) ?_
   have hS1 : (dS U5 gVX gV gVA gVB X T X1 X2 aVX cVX aV cV aVA cVA aVB cVB) _ := ⟨(Below.refl _ _).drew, VX.out.var.four, V.out.var.four, VA.out.var.four, VB.out.var.four⟩
   refine AnyTwo.tk HT12 (i := 0) (oi := ⟨some 58, _, _, _, _, _⟩) rfl (ph_one (by kernel_rfl) hS1) ?_
   try simp only [pts]
   refine AnyTwo.step (i := 1) (o := ⟨some 59, _, _, _, _, _⟩) (by kernel_rfl) rfl (fun K hK => ?_)
   go_simp
   refine (HNT.out _ _ ⟨_, rfl, V.out.sl.below hS1.1⟩).mono ?_
   rintro e w7 ⟨rfl, hb7⟩
   have hS1' : (dS U5 gVX gV gVA gVB X T X1 X2 aVX cVX aV cV aVA cVA aVB cVB) _ := ⟨bAfter hS1.1 hb7, BoxAt.below hS1.2.1 hb7, BoxAt.below hS1.2.2.1 hb7, BoxAt.below hS1.2.2.2.1 hb7, BoxAt.below hS1.2.2.2.2 hb7⟩
   refine hK.out _ _ (ph_one (by kernel_rfl) hS1') ?_
   clear hK K hS1
   have hS1 := hS1'
   clear hS1'
   try simp only [pts]
   refine AnyTwo.tk HT12 (i := 2) (oi := ⟨some 60, _, _, _, _, _⟩) rfl (ph_one (by kernel_rfl) hS1) ?_
   try simp only [pts]
   refine AnyTwo.tk HT12 (i := 3) (oi := ⟨some 61, _, _, _, _, _⟩) rfl (ph_one (by kernel_rfl) hS1) ?_
   try simp only [pts]
   refine AnyTwo.sk HT12 (i := 4) (oi := ⟨some 62, _, _, _, _, _⟩) rfl (ph_one (by kernel_rfl) hS1) ?_
   try simp only [pts]
   refine AnyTwo.sk HT12 (i := 5) (oi := ⟨some 63, _, _, _, _, _⟩) rfl (ph_one (by kernel_rfl) hS1) ?_
   try simp only [pts]
   refine AnyTwo.step (i := 6) (o := ⟨some 64, _, _, _, _, _⟩) (by kernel_rfl) rfl (fun K hK => ?_)
   go_simp
   refine hK.out _ _ (ph_one (by kernel_rfl) hS1) ?_
   clear hK K
   try simp only [pts]
   refine AnyTwo.tk HT12 (i := 7) (oi := ⟨some 65, _, _, _, _, _⟩) rfl (ph_one (by kernel_rfl) hS1) ?_
   try simp only [pts]
   refine AnyTwo.tk HT12 (i := 8) (oi := ⟨some 66, _, _, _, _, _⟩) rfl (ph_one (by kernel_rfl) hS1) ?_
   try simp only [pts]
   refine AnyTwo.tk HT12 (i := 9) (oi := ⟨some 67, _, _, _, _, _⟩) rfl (ph_one (by kernel_rfl) hS1) ?_
   try simp only [pts]
   refine AnyTwo.takeAny HT12 (i := 10) (oi := ⟨some 68, _, _, _, _, _⟩) (v := .bool false) rfl (by kernel_rfl) (by kernel_rfl) (by decide +kernel) (by rfl) (fun _ _ _ h => h) (Or.inl ⟨by rfl, ?yp19⟩) (ph_one (by kernel_rfl) hS1) ?rp19
   case yp19 => (intro w hSw; (try dsimp only at hSw); go_simp; try simp [*])
   try simp only [pts]
   refine AnyTwo.tk HT12 (i := 11) (oi := ⟨some 69, _, _, _, _, _⟩) rfl (ph_one (by kernel_rfl) hS1) ?_
   try simp only [pts]
   refine AnyTwo.tk HT12 (i := 12) (oi := ⟨some 70, _, _, _, _, _⟩) rfl (ph_one (by kernel_rfl) hS1) ?_
   try simp only [pts]
   refine AnyTwo.takeAny HT12 (i := 13) (oi := ⟨some 71, _, _, _, _, _⟩) (v := .bool true) rfl (by kernel_rfl) (by kernel_rfl) (by decide +kernel) (by rfl) (fun _ _ _ h => h) (Or.inl ⟨by rfl, ?yp112⟩) (ph_one (by kernel_rfl) hS1) ?rp112
   case yp112 => (intro w hSw; (try dsimp only at hSw); go_simp; try simp [*])
   try simp only [pts]
   refine AnyTwo.tk HT12 (i := 14) (oi := ⟨some 72, _, _, _, _, _⟩) rfl (ph_one (by kernel_rfl) hS1) ?_
   try simp only [pts]
   refine AnyTwo.tk HT12 (i := 15) (oi := ⟨some 73, _, _, _, _, _⟩) rfl (ph_one (by kernel_rfl) hS1) ?_
   try simp only [pts]
   refine AnyTwo.sk HT12 (i := 16) (oi := ⟨some 74, _, _, _, _, _⟩) rfl (ph_one (by kernel_rfl) hS1) ?_
   try simp only [pts]
   refine AnyTwo.sk HT12 (i := 17) (oi := ⟨some 75, _, _, _, _, _⟩) rfl (ph_one (by kernel_rfl) hS1) ?_
   try simp only [pts]
   refine AnyTwo.step (i := 18) (o := ⟨some 76, _, _, _, _, _⟩) (by kernel_rfl) rfl (fun K hK => ?_)
   go_simp
   refine hK.out _ _ (ph_one (by kernel_rfl) hS1) ?_
   clear hK K
   try simp only [pts]
   refine AnyTwo.tk HT12 (i := 19) (oi := ⟨some 77, _, _, _, _, _⟩) rfl (ph_one (by kernel_rfl) hS1) ?_
   try simp only [pts]
   refine AnyTwo.tk HT12 (i := 20) (oi := ⟨some 78, _, _, _, _, _⟩) rfl (ph_one (by kernel_rfl) hS1) ?_
   try simp only [pts]
   refine AnyTwo.tk HT12 (i := 21) (oi := ⟨some 79, _, _, _, _, _⟩) rfl (ph_one (by kernel_rfl) hS1) ?_
   try simp only [pts]
   refine AnyTwo.tk HT12 (i := 22) (oi := ⟨some 80, _, _, _, _, _⟩) rfl (ph_one (by kernel_rfl) hS1) ?_
   try simp only [pts]
   refine AnyTwo.tk HT12 (i := 24) (oi := ⟨some 82, _, _, _, _, _⟩) rfl (ph_one (by kernel_rfl) hS1) ?_
   try simp only [pts]
   refine AnyTwo.step (i := 23) (o := ⟨some 81, _, _, _, _, _⟩) (by kernel_rfl) rfl (fun K hK => ?_)
   go_simp
   refine (HMX.out _ _ ⟨_, rfl, VX.out.sl.below hS1.1⟩).mono ?_
   rintro e w7 ⟨rfl, hb7⟩
   have hS1' : (dS U5 gVX gV gVA gVB X T X1 X2 aVX cVX aV cV aVA cVA aVB cVB) _ := ⟨bAfter hS1.1 hb7, BoxAt.below hS1.2.1 hb7, BoxAt.below hS1.2.2.1 hb7, BoxAt.below hS1.2.2.2.1 hb7, BoxAt.below hS1.2.2.2.2 hb7⟩
   refine hK.out _ _ (ph_one (by kernel_rfl) hS1') ?_
   clear hK K hS1
   have hS1 := hS1'
   clear hS1'
   try simp only [pts]
   refine AnyTwo.step (i := 25) (o := ⟨some 83, _, _, _, _, _⟩) (by kernel_rfl) rfl (fun K hK => ?_)
   go_simp
   refine (HMT.out _ _ ⟨_, rfl, V.out.sl.below hS1.1⟩).mono ?_
   rintro e w7 ⟨rfl, hb7⟩
   have hS1' : (dS U5 gVX gV gVA gVB X T X1 X2 aVX cVX aV cV aVA cVA aVB cVB) _ := ⟨bAfter hS1.1 hb7, BoxAt.below hS1.2.1 hb7, BoxAt.below hS1.2.2.1 hb7, BoxAt.below hS1.2.2.2.1 hb7, BoxAt.below hS1.2.2.2.2 hb7⟩
   refine hK.out _ _ (ph_one (by kernel_rfl) hS1') ?_
   clear hK K hS1
   have hS1 := hS1'
   clear hS1'
   try simp only [pts]
   refine AnyTwo.takeAny HT12 (i := 26) (oi := ⟨some 84, _, _, _, _, _⟩) (v := .bool true) rfl (by kernel_rfl) (by kernel_rfl) (by decide +kernel) (by rfl) (fun _ _ _ h => h) (Or.inl ⟨by rfl, ?yp122⟩) (ph_one (by kernel_rfl) hS1) ?rp122
   case yp122 => (intro w hSw; (try dsimp only at hSw); go_simp; try simp [*])
   try simp only [pts]
   refine AnyTwo.tk HT12 (i := 27) (oi := ⟨some 85, _, _, _, _, _⟩) rfl (ph_one (by kernel_rfl) hS1) ?_
   try simp only [pts]
   refine AnyTwo.step (i := 28) (o := ⟨some 2, _, _, _, _, _⟩) (by kernel_rfl) rfl (fun K hK => ?_)
   go_simp
   refine hK.out _ _ (ph_end (by kernel_rfl) hS1) ?_
   clear hK K
   try simp only [pts]
   refine AnyTwo.done (by kernel_rfl) ?_ _
   clear HT12
   have hb := hS1.1
   replace HB := tuck (bAfter HB.out hb)
   clear hb hS1
   go_wp2_with fail
   go_ret
   exact ⟨rfl, HB.out⟩
  ·skip
   have HXT2 := tuck (HXT.out rfl)
   clear HXT
   have HT12 : ∀ w' : World, (dS U5 gVX gV gVA gVB X T X1 X2 aVX cVX aV cV aVA cVA aVB cVB) w' → (dS U5 gVX gV gVA gVB X T X1 X2 aVX cVX aV cV aVA cVA aVB cVB) w' := fun w' h => h
   refine AnyTwo.begin (dS U5 gVX gV gVA gVB X T X1 X2 aVX cVX aV cV aVA cVA aVB cVB) (dS U5 gVX gV gVA gVB X T X1 X2 aVX cVX aV cV aVA cVA aVB cVB) 28 (by kernel_rfl) ?_
   have hS1 : (dS U5 gVX gV gVA gVB X T X1 X2 aVX cVX aV cV aVA cVA aVB cVB) _ := ⟨(Below.refl _ _).drew, VX.out.var.four, V.out.var.four, VA.out.var.four, VB.out.var.four⟩
   refine AnyTwo.tk HT12 (i := 0) (oi := ⟨some 58, _, _, _, _, _⟩) rfl (ph_one (by kernel_rfl) hS1) ?_
   try simp only [pts]
   refine AnyTwo.step (i := 1) (o := ⟨some 59, _, _, _, _, _⟩) (by kernel_rfl) rfl (fun K hK => ?_)
   go_simp
   refine (HNT.out _ _ ⟨_, rfl, V.out.sl.below hS1.1⟩).mono ?_
   rintro e w7 ⟨rfl, hb7⟩
   have hS1' : (dS U5 gVX gV gVA gVB X T X1 X2 aVX cVX aV cV aVA cVA aVB cVB) _ := ⟨bAfter hS1.1 hb7, BoxAt.below hS1.2.1 hb7, BoxAt.below hS1.2.2.1 hb7, BoxAt.below hS1.2.2.2.1 hb7, BoxAt.below hS1.2.2.2.2 hb7⟩
   refine hK.out _ _ (ph_one (by kernel_rfl) hS1') ?_
   clear hK K hS1
   have hS1 := hS1'
   clear hS1'
   try simp only [pts]
   refine AnyTwo.tk HT12 (i := 2) (oi := ⟨some 60, _, _, _, _, _⟩) rfl (ph_one (by kernel_rfl) hS1) ?_
   try simp only [pts]
   refine AnyTwo.tk HT12 (i := 3) (oi := ⟨some 61, _, _, _, _, _⟩) rfl (ph_one (by kernel_rfl) hS1) ?_
   try simp only [pts]
   refine AnyTwo.tk HT12 (i := 4) (oi := ⟨some 62, _, _, _, _, _⟩) rfl (ph_one (by kernel_rfl) hS1) ?_
   try simp only [pts]
   refine AnyTwo.tk HT12 (i := 5) (oi := ⟨some 63, _, _, _, _, _⟩) rfl (ph_one (by kernel_rfl) hS1) ?_
   try simp only [pts]
   refine AnyTwo.step (i := 6) (o := ⟨some 64, _, _, _, _, _⟩) (by kernel_rfl) rfl (fun K hK => ?_)
   go_simp
   refine (HXT2.out _ _ _ ⟨_, rfl, VX.out.sl.below hS1.1⟩ ⟨_, rfl, V.out.sl.below hS1.1⟩).mono ?_
   rintro e w7 ⟨rfl, hb7⟩
   have hS1' : (dS U5 gVX gV gVA gVB X T X1 X2 aVX cVX aV cV aVA cVA aVB cVB) _ := ⟨bAfter hS1.1 hb7, BoxAt.below hS1.2.1 hb7, BoxAt.below hS1.2.2.1 hb7, BoxAt.below hS1.2.2.2.1 hb7, BoxAt.below hS1.2.2.2.2 hb7⟩
   refine hK.out _ _ (ph_one (by kernel_rfl) hS1') ?_
   clear hK K hS1
   have hS1 := hS1'
   clear hS1'
   try simp only [pts]
   refine AnyTwo.tk HT12 (i := 7) (oi := ⟨some 65, _, _, _, _, _⟩) rfl (ph_one (by kernel_rfl) hS1) ?_
   try simp only [pts]
   refine AnyTwo.tk HT12 (i := 8) (oi := ⟨some 66, _, _, _, _, _⟩) rfl (ph_one (by kernel_rfl) hS1) ?_
   try simp only [pts]
   refine AnyTwo.tk HT12 (i := 9) (oi := ⟨some 67, _, _, _, _, _⟩) rfl (ph_one (by kernel_rfl) hS1) ?_
   try simp only [pts]
   refine AnyTwo.takeAny HT12 (i := 10) (oi := ⟨some 68, _, _, _, _, _⟩) (v := .bool false) rfl (by kernel_rfl) (by kernel_rfl) (by decide +kernel) (by rfl) (fun _ _ _ h => h) (Or.inl ⟨by rfl, ?yq19⟩) (ph_one (by kernel_rfl) hS1) ?rq19
   case yq19 => (intro w hSw; (try dsimp only at hSw); go_simp; try simp [*])
   try simp only [pts]
   refine AnyTwo.tk HT12 (i := 11) (oi := ⟨some 69, _, _, _, _, _⟩) rfl (ph_one (by kernel_rfl) hS1) ?_
   try simp only [pts]
   refine AnyTwo.tk HT12 (i := 12) (oi := ⟨some 70, _, _, _, _, _⟩) rfl (ph_one (by kernel_rfl) hS1) ?_
   try simp only [pts]
   refine AnyTwo.takeAny HT12 (i := 13) (oi := ⟨some 71, _, _, _, _, _⟩) (v := .bool true) rfl (by kernel_rfl) (by kernel_rfl) (by decide +kernel) (by rfl) (fun _ _ _ h => h) (Or.inl ⟨by rfl, ?yq112⟩) (ph_one (by kernel_rfl) hS1) ?rq112
   case yq112 => (intro w hSw; (try dsimp only at hSw); go_simp; try simp [*])
   try simp only [pts]
   refine AnyTwo.tk HT12 (i := 14) (oi := ⟨some 72, _, _, _, _, _⟩) rfl (ph_one (by kernel_rfl) hS1) ?_
   try simp only [pts]
   refine AnyTwo.tk HT12 (i := 15) (oi := ⟨some 73, _, _, _, _, _⟩) rfl (ph_one (by kernel_rfl) hS1) ?_
   try simp only [pts]
   refine AnyTwo.sk HT12 (i := 16) (oi := ⟨some 74, _, _, _, _, _⟩) rfl (ph_one (by kernel_rfl) hS1) ?_
   try simp only [pts]
   refine AnyTwo.sk HT12 (i := 17) (oi := ⟨some 75, _, _, _, _, _⟩) rfl (ph_one (by kernel_rfl) hS1) ?_
   try simp only [pts]
   refine AnyTwo.step (i := 18) (o := ⟨some 76, _, _, _, _, _⟩) (by kernel_rfl) rfl (fun K hK => ?_)
   go_simp
   refine hK.out _ _ (ph_one (by kernel_rfl) hS1) ?_
   clear hK K
   try simp only [pts]
   refine AnyTwo.tk HT12 (i := 19) (oi := ⟨some 77, _, _, _, _, _⟩) rfl (ph_one (by kernel_rfl) hS1) ?_
   try simp only [pts]
   refine AnyTwo.tk HT12 (i := 20) (oi := ⟨some 78, _, _, _, _, _⟩) rfl (ph_one (by kernel_rfl) hS1) ?_
   try simp only [pts]
   refine AnyTwo.tk HT12 (i := 21) (oi := ⟨some 79, _, _, _, _, _⟩) rfl (ph_one (by kernel_rfl) hS1) ?_
   try simp only [pts]
   refine AnyTwo.tk HT12 (i := 22) (oi := ⟨some 80, _, _, _, _, _⟩) rfl (ph_one (by kernel_rfl) hS1) ?_
   try simp only [pts]
   refine AnyTwo.tk HT12 (i := 24) (oi := ⟨some 82, _, _, _, _, _⟩) rfl (ph_one (by kernel_rfl) hS1) ?_
   try simp only [pts]
   refine AnyTwo.step (i := 23) (o := ⟨some 81, _, _, _, _, _⟩) (by kernel_rfl) rfl (fun K hK => ?_)
   go_simp
   refine (HMX.out _ _ ⟨_, rfl, VX.out.sl.below hS1.1⟩).mono ?_
   rintro e w7 ⟨rfl, hb7⟩
   have hS1' : (dS U5 gVX gV gVA gVB X T X1 X2 aVX cVX aV cV aVA cVA aVB cVB) _ := ⟨bAfter hS1.1 hb7, BoxAt.below hS1.2.1 hb7, BoxAt.below hS1.2.2.1 hb7, BoxAt.below hS1.2.2.2.1 hb7, BoxAt.below hS1.2.2.2.2 hb7⟩
   refine hK.out _ _ (ph_one (by kernel_rfl) hS1') ?_
   clear hK K hS1
   have hS1 := hS1'
   clear hS1'
   try simp only [pts]
   refine AnyTwo.step (i := 25) (o := ⟨some 83, _, _, _, _, _⟩) (by kernel_rfl) rfl (fun K hK => ?_)
   go_simp
   refine (HMT.out _ _ ⟨_, rfl, V.out.sl.below hS1.1⟩).mono ?_
   rintro e w7 ⟨rfl, hb7⟩
   have hS1' : (dS U5 gVX gV gVA gVB X T X1 X2 aVX cVX aV cV aVA cVA aVB cVB) _ := ⟨bAfter hS1.1 hb7, BoxAt.below hS1.2.1 hb7, BoxAt.below hS1.2.2.1 hb7, BoxAt.below hS1.2.2.2.1 hb7, BoxAt.below hS1.2.2.2.2 hb7⟩
   refine hK.out _ _ (ph_one (by kernel_rfl) hS1') ?_
   clear hK K hS1
   have hS1 := hS1'
   clear hS1'
   try simp only [pts]
   refine AnyTwo.takeAny HT12 (i := 26) (oi := ⟨some 84, _, _, _, _, _⟩) (v := .bool true) rfl (by kernel_rfl) (by kernel_rfl) (by decide +kernel) (by rfl) (fun _ _ _ h => h) (Or.inl ⟨by rfl, ?yq122⟩) (ph_one (by kernel_rfl) hS1) ?rq122
   case yq122 => (intro w hSw; (try dsimp only at hSw); go_simp; try simp [*])
   try simp only [pts]
   refine AnyTwo.tk HT12 (i := 27) (oi := ⟨some 85, _, _, _, _, _⟩) rfl (ph_one (by kernel_rfl) hS1) ?_
   try simp only [pts]
   refine AnyTwo.step (i := 28) (o := ⟨some 2, _, _, _, _, _⟩) (by kernel_rfl) rfl (fun K hK => ?_)
   go_simp
   refine hK.out _ _ (ph_end (by kernel_rfl) hS1) ?_
   clear hK K
   try simp only [pts]
   refine AnyTwo.done (by kernel_rfl) ?_ _
   clear HT12
   have hb := hS1.1
   replace HB := tuck (bAfter HB.out hb)
   clear hb hS1
   go_wp2_with fail
   go_ret
   exact ⟨rfl, HB.out⟩
 obtain rfl : c2 = 0 := Classical.byContradiction hnc2
 obtain ⟨hvv, he⟩ := HEQ.out rfl rfl
 have HTT : Hid (∀ (w : World) (v1 v2 : Value), TmIn w 0 X1 v1 → TmIn w 0 X2 v2 → Calls Tryz.prog 10 #[v1, v2] w (BoolPost w true)) := by rw [← he]; exact same_v hvv
 clear HEQ hvv he hnc1 hnc2
 cases bn
 ·skip
  clear HXT
  have HT12 : ∀ w' : World, (dS U5 gVX gV gVA gVB X T X1 X2 aVX cVX aV cV aVA cVA aVB cVB) w' → (dS U5 gVX gV gVA gVB X T X1 X2 aVX cVX aV cV aVA cVA aVB cVB) w' := fun w' h => h
  refine AnyTwo.begin (dS U5 gVX gV gVA gVB X T X1 X2 aVX cVX aV cV aVA cVA aVB cVB) (dS U5 gVX gV gVA gVB X T X1 X2 aVX cVX aV cV aVA cVA aVB cVB) 28 (by kernel_rfl) ?_
  have hS1 : (dS U5 gVX gV gVA gVB X T X1 X2 aVX cVX aV cV aVA cVA aVB cVB) _ := ⟨(Below.refl _ _).drew, VX.out.var.four, V.out.var.four, VA.out.var.four, VB.out.var.four⟩
  refine AnyTwo.tk HT12 (i := 0) (oi := ⟨some 58, _, _, _, _, _⟩) rfl (ph_one (by kernel_rfl) hS1) ?_
  try simp only [pts]
  refine AnyTwo.step (i := 1) (o := ⟨some 59, _, _, _, _, _⟩) (by kernel_rfl) rfl (fun K hK => ?_)
  go_simp
  refine (HNT.out _ _ ⟨_, rfl, V.out.sl.below hS1.1⟩).mono ?_
  rintro e w7 ⟨rfl, hb7⟩
  have hS1' : (dS U5 gVX gV gVA gVB X T X1 X2 aVX cVX aV cV aVA cVA aVB cVB) _ := ⟨bAfter hS1.1 hb7, BoxAt.below hS1.2.1 hb7, BoxAt.below hS1.2.2.1 hb7, BoxAt.below hS1.2.2.2.1 hb7, BoxAt.below hS1.2.2.2.2 hb7⟩
  refine hK.out _ _ (ph_one (by kernel_rfl) hS1') ?_
  clear hK K hS1
  have hS1 := hS1'
  clear hS1'
  try simp only [pts]
  refine AnyTwo.tk HT12 (i := 2) (oi := ⟨some 60, _, _, _, _, _⟩) rfl (ph_one (by kernel_rfl) hS1) ?_
  try simp only [pts]
  refine AnyTwo.tk HT12 (i := 3) (oi := ⟨some 61, _, _, _, _, _⟩) rfl (ph_one (by kernel_rfl) hS1) ?_
  try simp only [pts]
  refine AnyTwo.sk HT12 (i := 4) (oi := ⟨some 62, _, _, _, _, _⟩) rfl (ph_one (by kernel_rfl) hS1) ?_
  try simp only [pts]
  refine AnyTwo.sk HT12 (i := 5) (oi := ⟨some 63, _, _, _, _, _⟩) rfl (ph_one (by kernel_rfl) hS1) ?_
  try simp only [pts]
  refine AnyTwo.step (i := 6) (o := ⟨some 64, _, _, _, _, _⟩) (by kernel_rfl) rfl (fun K hK => ?_)
  go_simp
  refine hK.out _ _ (ph_one (by kernel_rfl) hS1) ?_
  clear hK K
  try simp only [pts]
  refine AnyTwo.tk HT12 (i := 7) (oi := ⟨some 65, _, _, _, _, _⟩) rfl (ph_one (by kernel_rfl) hS1) ?_
  try simp only [pts]
  refine AnyTwo.tk HT12 (i := 8) (oi := ⟨some 66, _, _, _, _, _⟩) rfl (ph_one (by kernel_rfl) hS1) ?_
  try simp only [pts]
  refine AnyTwo.tk HT12 (i := 9) (oi := ⟨some 67, _, _, _, _, _⟩) rfl (ph_one (by kernel_rfl) hS1) ?_
  try simp only [pts]
  refine AnyTwo.takeAny HT12 (i := 10) (oi := ⟨some 68, _, _, _, _, _⟩) (v := .bool false) rfl (by kernel_rfl) (by kernel_rfl) (by decide +kernel) (by rfl) (fun _ _ _ h => h) (Or.inl ⟨by rfl, ?yp29⟩) (ph_one (by kernel_rfl) hS1) ?rp29
  case yp29 => (intro w hSw; (try dsimp only at hSw); go_simp; try simp [*])
  try simp only [pts]
  refine AnyTwo.tk HT12 (i := 11) (oi := ⟨some 69, _, _, _, _, _⟩) rfl (ph_one (by kernel_rfl) hS1) ?_
  try simp only [pts]
  refine AnyTwo.tk HT12 (i := 12) (oi := ⟨some 70, _, _, _, _, _⟩) rfl (ph_one (by kernel_rfl) hS1) ?_
  try simp only [pts]
  refine AnyTwo.takeAny HT12 (i := 13) (oi := ⟨some 71, _, _, _, _, _⟩) (v := .bool false) rfl (by kernel_rfl) (by kernel_rfl) (by decide +kernel) (by rfl) (fun _ _ _ h => h) (Or.inl ⟨by rfl, ?yp212⟩) (ph_one (by kernel_rfl) hS1) ?rp212
  case yp212 => (intro w hSw; (try dsimp only at hSw); go_simp; try simp [*])
  try simp only [pts]
  refine AnyTwo.tk HT12 (i := 14) (oi := ⟨some 72, _, _, _, _, _⟩) rfl (ph_one (by kernel_rfl) hS1) ?_
  try simp only [pts]
  refine AnyTwo.tk HT12 (i := 15) (oi := ⟨some 73, _, _, _, _, _⟩) rfl (ph_one (by kernel_rfl) hS1) ?_
  try simp only [pts]
  refine AnyTwo.tk HT12 (i := 16) (oi := ⟨some 74, _, _, _, _, _⟩) rfl (ph_one (by kernel_rfl) hS1) ?_
  try simp only [pts]
  refine AnyTwo.tk HT12 (i := 17) (oi := ⟨some 75, _, _, _, _, _⟩) rfl (ph_one (by kernel_rfl) hS1) ?_
  try simp only [pts]
  refine AnyTwo.step (i := 18) (o := ⟨some 76, _, _, _, _, _⟩) (by kernel_rfl) rfl (fun K hK => ?_)
  go_simp
  refine (HTT.out _ _ _ ⟨_, rfl, VA.out.sl.below hS1.1⟩ ⟨_, rfl, VB.out.sl.below hS1.1⟩).mono ?_
  rintro e w7 ⟨rfl, hb7⟩
  have hS1' : (dS U5 gVX gV gVA gVB X T X1 X2 aVX cVX aV cV aVA cVA aVB cVB) _ := ⟨bAfter hS1.1 hb7, BoxAt.below hS1.2.1 hb7, BoxAt.below hS1.2.2.1 hb7, BoxAt.below hS1.2.2.2.1 hb7, BoxAt.below hS1.2.2.2.2 hb7⟩
  refine hK.out _ _ (ph_one (by kernel_rfl) hS1') ?_
  clear hK K hS1
  have hS1 := hS1'
  clear hS1'
  try simp only [pts]
  refine AnyTwo.tk HT12 (i := 19) (oi := ⟨some 77, _, _, _, _, _⟩) rfl (ph_one (by kernel_rfl) hS1) ?_
  try simp only [pts]
  refine AnyTwo.tk HT12 (i := 20) (oi := ⟨some 78, _, _, _, _, _⟩) rfl (ph_one (by kernel_rfl) hS1) ?_
  try simp only [pts]
  refine AnyTwo.tk HT12 (i := 21) (oi := ⟨some 79, _, _, _, _, _⟩) rfl (ph_one (by kernel_rfl) hS1) ?_
  try simp only [pts]
  refine AnyTwo.tk HT12 (i := 22) (oi := ⟨some 80, _, _, _, _, _⟩) rfl (ph_one (by kernel_rfl) hS1) ?_
  try simp only [pts]
  refine AnyTwo.tk HT12 (i := 24) (oi := ⟨some 82, _, _, _, _, _⟩) rfl (ph_one (by kernel_rfl) hS1) ?_
  try simp only [pts]
  refine AnyTwo.step (i := 23) (o := ⟨some 81, _, _, _, _, _⟩) (by kernel_rfl) rfl (fun K hK => ?_)
  go_simp
  refine (HMX.out _ _ ⟨_, rfl, VX.out.sl.below hS1.1⟩).mono ?_
  rintro e w7 ⟨rfl, hb7⟩
  have hS1' : (dS U5 gVX gV gVA gVB X T X1 X2 aVX cVX aV cV aVA cVA aVB cVB) _ := ⟨bAfter hS1.1 hb7, BoxAt.below hS1.2.1 hb7, BoxAt.below hS1.2.2.1 hb7, BoxAt.below hS1.2.2.2.1 hb7, BoxAt.below hS1.2.2.2.2 hb7⟩
  refine hK.out _ _ (ph_one (by kernel_rfl) hS1') ?_
  clear hK K hS1
  have hS1 := hS1'
  clear hS1'
  try simp only [pts]
  refine AnyTwo.step (i := 25) (o := ⟨some 83, _, _, _, _, _⟩) (by kernel_rfl) rfl (fun K hK => ?_)
  go_simp
  refine (HMT.out _ _ ⟨_, rfl, V.out.sl.below hS1.1⟩).mono ?_
  rintro e w7 ⟨rfl, hb7⟩
  have hS1' : (dS U5 gVX gV gVA gVB X T X1 X2 aVX cVX aV cV aVA cVA aVB cVB) _ := ⟨bAfter hS1.1 hb7, BoxAt.below hS1.2.1 hb7, BoxAt.below hS1.2.2.1 hb7, BoxAt.below hS1.2.2.2.1 hb7, BoxAt.below hS1.2.2.2.2 hb7⟩
  refine hK.out _ _ (ph_one (by kernel_rfl) hS1') ?_
  clear hK K hS1
  have hS1 := hS1'
  clear hS1'
  try simp only [pts]
  refine AnyTwo.takeAny HT12 (i := 26) (oi := ⟨some 84, _, _, _, _, _⟩) (v := .bool true) rfl (by kernel_rfl) (by kernel_rfl) (by decide +kernel) (by rfl) (fun _ _ _ h => h) (Or.inl ⟨by rfl, ?yp222⟩) (ph_one (by kernel_rfl) hS1) ?rp222
  case yp222 => (intro w hSw; (try dsimp only at hSw); go_simp; try simp [*])
  try simp only [pts]
  refine AnyTwo.tk HT12 (i := 27) (oi := ⟨some 85, _, _, _, _, _⟩) rfl (ph_one (by kernel_rfl) hS1) ?_
  try simp only [pts]
  refine AnyTwo.step (i := 28) (o := ⟨some 2, _, _, _, _, _⟩) (by kernel_rfl) rfl (fun K hK => ?_)
  go_simp
  refine hK.out _ _ (ph_end (by kernel_rfl) hS1) ?_
  clear hK K
  try simp only [pts]
  refine AnyTwo.done (by kernel_rfl) ?_ _
  clear HT12
  have hb := hS1.1
  replace HB := tuck (bAfter HB.out hb)
  clear hb hS1
  go_wp2_with fail
  go_ret
  exact ⟨rfl, HB.out⟩
 ·skip
  have HXT2 := tuck (HXT.out rfl)
  clear HXT
  have HT12 : ∀ w' : World, (dS U5 gVX gV gVA gVB X T X1 X2 aVX cVX aV cV aVA cVA aVB cVB) w' → (dS U5 gVX gV gVA gVB X T X1 X2 aVX cVX aV cV aVA cVA aVB cVB) w' := fun w' h => h
  refine AnyTwo.begin (dS U5 gVX gV gVA gVB X T X1 X2 aVX cVX aV cV aVA cVA aVB cVB) (dS U5 gVX gV gVA gVB X T X1 X2 aVX cVX aV cV aVA cVA aVB cVB) 28 (by kernel_rfl) ?_
  have hS1 : (dS U5 gVX gV gVA gVB X T X1 X2 aVX cVX aV cV aVA cVA aVB cVB) _ := ⟨(Below.refl _ _).drew, VX.out.var.four, V.out.var.four, VA.out.var.four, VB.out.var.four⟩
  refine AnyTwo.tk HT12 (i := 0) (oi := ⟨some 58, _, _, _, _, _⟩) rfl (ph_one (by kernel_rfl) hS1) ?_
  try simp only [pts]
  refine AnyTwo.step (i := 1) (o := ⟨some 59, _, _, _, _, _⟩) (by kernel_rfl) rfl (fun K hK => ?_)
  go_simp
  refine (HNT.out _ _ ⟨_, rfl, V.out.sl.below hS1.1⟩).mono ?_
  rintro e w7 ⟨rfl, hb7⟩
  have hS1' : (dS U5 gVX gV gVA gVB X T X1 X2 aVX cVX aV cV aVA cVA aVB cVB) _ := ⟨bAfter hS1.1 hb7, BoxAt.below hS1.2.1 hb7, BoxAt.below hS1.2.2.1 hb7, BoxAt.below hS1.2.2.2.1 hb7, BoxAt.below hS1.2.2.2.2 hb7⟩
  refine hK.out _ _ (ph_one (by kernel_rfl) hS1') ?_
  clear hK K hS1
  have hS1 := hS1'
  clear hS1'
  try simp only [pts]
  refine AnyTwo.tk HT12 (i := 2) (oi := ⟨some 60, _, _, _, _, _⟩) rfl (ph_one (by kernel_rfl) hS1) ?_
  try simp only [pts]
  refine AnyTwo.tk HT12 (i := 3) (oi := ⟨some 61, _, _, _, _, _⟩) rfl (ph_one (by kernel_rfl) hS1) ?_
  try simp only [pts]
  refine AnyTwo.tk HT12 (i := 4) (oi := ⟨some 62, _, _, _, _, _⟩) rfl (ph_one (by kernel_rfl) hS1) ?_
  try simp only [pts]
  refine AnyTwo.tk HT12 (i := 5) (oi := ⟨some 63, _, _, _, _, _⟩) rfl (ph_one (by kernel_rfl) hS1) ?_
  try simp only [pts]
  refine AnyTwo.step (i := 6) (o := ⟨some 64, _, _, _, _, _⟩) (by kernel_rfl) rfl (fun K hK => ?_)
  go_simp
  refine (HXT2.out _ _ _ ⟨_, rfl, VX.out.sl.below hS1.1⟩ ⟨_, rfl, V.out.sl.below hS1.1⟩).mono ?_
  rintro e w7 ⟨rfl, hb7⟩
  have hS1' : (dS U5 gVX gV gVA gVB X T X1 X2 aVX cVX aV cV aVA cVA aVB cVB) _ := ⟨bAfter hS1.1 hb7, BoxAt.below hS1.2.1 hb7, BoxAt.below hS1.2.2.1 hb7, BoxAt.below hS1.2.2.2.1 hb7, BoxAt.below hS1.2.2.2.2 hb7⟩
  refine hK.out _ _ (ph_one (by kernel_rfl) hS1') ?_
  clear hK K hS1
  have hS1 := hS1'
  clear hS1'
  try simp only [pts]
  refine AnyTwo.tk HT12 (i := 7) (oi := ⟨some 65, _, _, _, _, _⟩) rfl (ph_one (by kernel_rfl) hS1) ?_
  try simp only [pts]
  refine AnyTwo.tk HT12 (i := 8) (oi := ⟨some 66, _, _, _, _, _⟩) rfl (ph_one (by kernel_rfl) hS1) ?_
  try simp only [pts]
  refine AnyTwo.tk HT12 (i := 9) (oi := ⟨some 67, _, _, _, _, _⟩) rfl (ph_one (by kernel_rfl) hS1) ?_
  try simp only [pts]
  refine AnyTwo.takeAny HT12 (i := 10) (oi := ⟨some 68, _, _, _, _, _⟩) (v := .bool false) rfl (by kernel_rfl) (by kernel_rfl) (by decide +kernel) (by rfl) (fun _ _ _ h => h) (Or.inl ⟨by rfl, ?yq29⟩) (ph_one (by kernel_rfl) hS1) ?rq29
  case yq29 => (intro w hSw; (try dsimp only at hSw); go_simp; try simp [*])
  try simp only [pts]
  refine AnyTwo.tk HT12 (i := 11) (oi := ⟨some 69, _, _, _, _, _⟩) rfl (ph_one (by kernel_rfl) hS1) ?_
  try simp only [pts]
  refine AnyTwo.tk HT12 (i := 12) (oi := ⟨some 70, _, _, _, _, _⟩) rfl (ph_one (by kernel_rfl) hS1) ?_
  try simp only [pts]
  refine AnyTwo.takeAny HT12 (i := 13) (oi := ⟨some 71, _, _, _, _, _⟩) (v := .bool false) rfl (by kernel_rfl) (by kernel_rfl) (by decide +kernel) (by rfl) (fun _ _ _ h => h) (Or.inl ⟨by rfl, ?yq212⟩) (ph_one (by kernel_rfl) hS1) ?rq212
  case yq212 => (intro w hSw; (try dsimp only at hSw); go_simp; try simp [*])
  try simp only [pts]
  refine AnyTwo.tk HT12 (i := 14) (oi := ⟨some 72, _, _, _, _, _⟩) rfl (ph_one (by kernel_rfl) hS1) ?_
  try simp only [pts]
  refine AnyTwo.tk HT12 (i := 15) (oi := ⟨some 73, _, _, _, _, _⟩) rfl (ph_one (by kernel_rfl) hS1) ?_
  try simp only [pts]
  refine AnyTwo.tk HT12 (i := 16) (oi := ⟨some 74, _, _, _, _, _⟩) rfl (ph_one (by kernel_rfl) hS1) ?_
  try simp only [pts]
  refine AnyTwo.tk HT12 (i := 17) (oi := ⟨some 75, _, _, _, _, _⟩) rfl (ph_one (by kernel_rfl) hS1) ?_
  try simp only [pts]
  refine AnyTwo.step (i := 18) (o := ⟨some 76, _, _, _, _, _⟩) (by kernel_rfl) rfl (fun K hK => ?_)
  go_simp
  refine (HTT.out _ _ _ ⟨_, rfl, VA.out.sl.below hS1.1⟩ ⟨_, rfl, VB.out.sl.below hS1.1⟩).mono ?_
  rintro e w7 ⟨rfl, hb7⟩
  have hS1' : (dS U5 gVX gV gVA gVB X T X1 X2 aVX cVX aV cV aVA cVA aVB cVB) _ := ⟨bAfter hS1.1 hb7, BoxAt.below hS1.2.1 hb7, BoxAt.below hS1.2.2.1 hb7, BoxAt.below hS1.2.2.2.1 hb7, BoxAt.below hS1.2.2.2.2 hb7⟩
  refine hK.out _ _ (ph_one (by kernel_rfl) hS1') ?_
  clear hK K hS1
  have hS1 := hS1'
  clear hS1'
  try simp only [pts]
  refine AnyTwo.tk HT12 (i := 19) (oi := ⟨some 77, _, _, _, _, _⟩) rfl (ph_one (by kernel_rfl) hS1) ?_
  try simp only [pts]
  refine AnyTwo.tk HT12 (i := 20) (oi := ⟨some 78, _, _, _, _, _⟩) rfl (ph_one (by kernel_rfl) hS1) ?_
  try simp only [pts]
  refine AnyTwo.tk HT12 (i := 21) (oi := ⟨some 79, _, _, _, _, _⟩) rfl (ph_one (by kernel_rfl) hS1) ?_
  try simp only [pts]
  refine AnyTwo.tk HT12 (i := 22) (oi := ⟨some 80, _, _, _, _, _⟩) rfl (ph_one (by kernel_rfl) hS1) ?_
  try simp only [pts]
  refine AnyTwo.tk HT12 (i := 24) (oi := ⟨some 82, _, _, _, _, _⟩) rfl (ph_one (by kernel_rfl) hS1) ?_
  try simp only [pts]
  refine AnyTwo.step (i := 23) (o := ⟨some 81, _, _, _, _, _⟩) (by kernel_rfl) rfl (fun K hK => ?_)
  go_simp
  refine (HMX.out _ _ ⟨_, rfl, VX.out.sl.below hS1.1⟩).mono ?_
  rintro e w7 ⟨rfl, hb7⟩
  have hS1' : (dS U5 gVX gV gVA gVB X T X1 X2 aVX cVX aV cV aVA cVA aVB cVB) _ := ⟨bAfter hS1.1 hb7, BoxAt.below hS1.2.1 hb7, BoxAt.below hS1.2.2.1 hb7, BoxAt.below hS1.2.2.2.1 hb7, BoxAt.below hS1.2.2.2.2 hb7⟩
  refine hK.out _ _ (ph_one (by kernel_rfl) hS1') ?_
  clear hK K hS1
  have hS1 := hS1'
  clear hS1'
  try simp only [pts]
  refine AnyTwo.step (i := 25) (o := ⟨some 83, _, _, _, _, _⟩) (by kernel_rfl) rfl (fun K hK => ?_)
  go_simp
  refine (HMT.out _ _ ⟨_, rfl, V.out.sl.below hS1.1⟩).mono ?_
  rintro e w7 ⟨rfl, hb7⟩
  have hS1' : (dS U5 gVX gV gVA gVB X T X1 X2 aVX cVX aV cV aVA cVA aVB cVB) _ := ⟨bAfter hS1.1 hb7, BoxAt.below hS1.2.1 hb7, BoxAt.below hS1.2.2.1 hb7, BoxAt.below hS1.2.2.2.1 hb7, BoxAt.below hS1.2.2.2.2 hb7⟩
  refine hK.out _ _ (ph_one (by kernel_rfl) hS1') ?_
  clear hK K hS1
  have hS1 := hS1'
  clear hS1'
  try simp only [pts]
  refine AnyTwo.takeAny HT12 (i := 26) (oi := ⟨some 84, _, _, _, _, _⟩) (v := .bool true) rfl (by kernel_rfl) (by kernel_rfl) (by decide +kernel) (by rfl) (fun _ _ _ h => h) (Or.inl ⟨by rfl, ?yq222⟩) (ph_one (by kernel_rfl) hS1) ?rq222
  case yq222 => (intro w hSw; (try dsimp only at hSw); go_simp; try simp [*])
  try simp only [pts]
  refine AnyTwo.tk HT12 (i := 27) (oi := ⟨some 85, _, _, _, _, _⟩) rfl (ph_one (by kernel_rfl) hS1) ?_
  try simp only [pts]
  refine AnyTwo.step (i := 28) (o := ⟨some 2, _, _, _, _, _⟩) (by kernel_rfl) rfl (fun K hK => ?_)
  go_simp
  refine hK.out _ _ (ph_end (by kernel_rfl) hS1) ?_
  clear hK K
  try simp only [pts]
  refine AnyTwo.done (by kernel_rfl) ?_ _
  clear HT12
  have hb := hS1.1
  replace HB := tuck (bAfter HB.out hb)
  clear hb hS1
  go_wp2_with fail
  go_ret
  exact ⟨rfl, HB.out⟩
set_option maxRecDepth 100000 in
theorem lifted (os : Os) (started : os.Started) (H : Type) (enc : TypeId × Value → H) :
  ReturnsInHanded {} Tryz.checked os 3 .any (Rows.fnDevelopTermSpec.pre6 enc Tryz.prog Tryz.f3 Rows.fnDevelopTermRow.domain false) (Rows.fnDevelopTermSpec.post enc Tryz.prog Tryz.f3 false true false false) := by
 refine returnsInHanded_of_change (C := Tryz.checked) own started (by kernel_rfl) Tryz.func3
  (ChangeSpec.witness6 (enc := enc) (C := Tryz.checked) false ⟨#[], #[.slice none 0 0], []⟩ 8 (by kernel_rfl) (by kernel_rfl) (by kernel_rfl) (by kernel_rfl)) ?_
 intro W base args ds gs before hval0 hW hcnd _
 have hval : ∀ (j : Nat) t v, Tryz.f3.params[j]? = some t → args[j]? = some v → Value.okWide Tryz.prog W .any base t v := hval0
 have hW' := hW
 obtain ⟨p, q, hA0, hV, rfl, hfz, hnd⟩ := hW
 have hA : DataW.TrodAll enc Tryz.prog W 0 (fun _ => true) true Tryz.f3.params.toList args.toList ds p := hA0
 rw [Tryz.params3] at hA hval
 obtain ⟨v0, vs0, d0, ds0, p0, q0, hargs, rfl, rfl, h0, r0⟩ := trodAll_cons hA
 obtain ⟨rfl, rfl, rfl⟩ := trodAll_nil r0
 obtain rfl : args = #[v0] := by cases args; simp_all
 obtain ⟨U0, ad0, bb0, oo0, len0, cap0, rfl, hlc0, hcm0, hbl0, hby0⟩ := open_bytes (hval 0 22 v0 rfl rfl) h0
 refine (walk U0 ad0 bb0 oo0 len0 cap0 W hlc0 hcm0 hby0).mono fun e W' ⟨he, hb⟩ => ?_
 subst he
 exact ⟨_, rfl, law_post rfl rfl (fun gs h => by subst h; rfl) (by rw [Tryz.params3]; exact readable_FnDevelopTerm) laid hW' hb⟩
theorem over : Rows.fnDevelopTermRow.holds Tryz.pinned (OpenSpec.ofChange Rows.fnDevelopTermSpec) :=
 OpenClaim.holds_of_wide 3 Tryz.f3 rfl rfl rfl rfl rfl rfl rfl ⟨rfl, rfl, rfl, rfl, rfl⟩ rfl rfl rfl rfl rfl (by kernel_rfl) Tryz.func3 (by kernel_rfl)
  (of_decide_eq_true (by kernel_rfl)) (by unfold Func.isWrapper; first | (rw [if_pos (by decide +kernel)]; kernel_rfl) | (rw [if_neg (by decide +kernel)]; exact ⟨rfl, rfl⟩))
  (fun os started H enc _ => lifted os started H enc)
theorem proved : Rows.FnDevelopTermSaid :=
 over
end Go.Proofs.YtlnpebdmekccaaaGreat.fnDevelopTerm
