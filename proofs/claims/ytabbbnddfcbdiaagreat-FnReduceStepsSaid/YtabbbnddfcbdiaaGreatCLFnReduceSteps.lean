/-
  The law FnReduceSteps: whatever the bytes, the number of steps is exact.
-/
import Derived.Test.YtabbbnddfcbdiaaGreatC29
import Derived.Test.YtabbbnddfcbdiaaGreatC33
import Derived.IntWalk
namespace Go.Proofs.YtabbbnddfcbdiaaGreat.fnReduceSteps
open Go.ChangeShapes Go.WideShapes Go.ChangeAt Go.RowKit Go.Deep
set_option linter.unusedVariables false
theorem readable_FnReduceSteps : ∀ t ∈ (#[22] : Array TypeId).toList, Tryz.prog.readableRec t = true ∧ t < Tryz.prog.types.size := by
 intro t ht
 simp at ht
 subst ht
 exact ⟨by kernel_rfl, of_decide_eq_true (by kernel_rfl)⟩
theorem laid : laidOutB Tryz.prog = true := by kernel_rfl
set_option maxRecDepth 100000 in
set_option maxHeartbeats 1600000 in
theorem walk (U : Nat → Int) (a : Option Addr) (b o len cap : Nat) (w : World) (hlc : len ≤ cap) (hcm : cap ≤ maxLen) (hby : Bytes U a b o len w) : Calls Tryz.prog 13 #[.slice a len cap] w fun e w' => e = .returned (.bool true) ∧ Below w.heap.size w w' := by
 unfold maxLen at hcm
 by_cases hl : 1048576 < len
 ·have hl' : (1048576 : Int) < (len : Int) := by omega
  clear hby
  go_enter Tryz.func13, Tryz.ntmps13
  go_wp2
  go_ret
  exact ⟨rfl, Below.refl _ _⟩
 have hl' : ¬ (1048576 : Int) < (len : Int) := by omega
 have HD := tuck (dReduceSteps_any w (by omega) hlc hby)
 clear hby
 go_enter Tryz.func13, Tryz.ntmps13
 go_wp2_with fail
 refine HD.out.mono ?_
 rintro e w1 ⟨T, v, x, rfl, ⟨s, rfl, hin⟩, hsz, hx0, hx1, hb⟩
 obtain ⟨aV, cV, rfl⟩ := hin.form
 have V := tuck (TV.new (hin.mono (Nat.zero_le _)))
 have HB := tuck (bAfter hb (below1 w1 (.cells #[.int .i64 T.kind, .int .i64 T.num, .slice aV T.kids.length cV] 25)))
 have HSZ : Hid (sizes T.kids ≤ 1048576) := tuck (by have := T.size_eq; omega)
 clear hin hb HD hsz
 go_wp2_with fail
 generalize w1.alloc (.cells #[.int .i64 T.kind, .int .i64 T.num, .slice aV T.kids.length cV] 25) = U0 at *
 generalize w1.heap.size = gV at *
 by_cases hok : NormOk T x
 rotate_left
 ·skip
  have HIM : Hid (∀ (w : World) (v : Value), TmIn w 0 T v → Calls Tryz.prog 39 #[v, .int .i64 x] w (IPair w 0 3)) := fun w v h => by
   have h2 := redNI_any T x w v h; rwa [show redN T x = 0 from if_neg hok, normC_no hok] at h2
  have HSP : Hid (∀ (w : World) (v : Value), TmIn w 0 T v → Calls Tryz.prog 40 #[v, .int .i64 x] w (IPair w 0 3)) := fun w v h => by
   have h2 := redNS_any T x w v h; rwa [show redN T x = 0 from if_neg hok, normC_no hok] at h2
  clear hok
  refine (HIM.out _ _ V.out.tm).mono ?_
  rintro e u21 ⟨rfl, hb⟩
  replace V := tuck (V.out.below hb)
  replace HB := tuck (bAfter HB.out hb)
  clear hb
  obtain ⟨zV, c0V, c1V, c2V, cfV⟩ := V.out.facts
  go_wp2_with fail
  refine (HSP.out _ _ V.out.tm).mono ?_
  rintro e u22 ⟨rfl, hb⟩
  clear zV c0V c1V c2V cfV
  replace V := tuck (V.out.below hb)
  replace HB := tuck (bAfter HB.out hb)
  clear hb
  obtain ⟨zV, c0V, c1V, c2V, cfV⟩ := V.out.facts
  go_wp2_with fail
  go_ret
  exact ⟨rfl, HB.out⟩
 obtain ⟨F, rfl⟩ : ∃ F : Nat, x = F := ⟨x.toNat, by have := hok.2.1; omega⟩
 obtain ⟨m, hm⟩ : ∃ m : Nat, m = (runGo false false F T).2.2 := ⟨_, rfl⟩
 have hmF : m ≤ F := by rw [hm]; exact runGo_steps F T
 have hF : F ≤ 200 := by have := hok.2.2; omega
 have hcode : normC false false T F = (runGo false false F T).2.1 := by rw [normC_ok hok, Int.toNat_natCast]
 have hred : redN T F = (m : Int) := by rw [hm]; unfold redN; rw [if_pos hok, Int.toNat_natCast]
 have hokm : NormOk T (m : Int) := ⟨hok.1, by omega, by omega⟩
 have kle : decide ((m : Int) ≤ (F : Int)) = true := decide_eq_true (by omega)
 obtain ⟨X1, hX1⟩ : ∃ X, X = normT false false T F := ⟨_, rfl⟩
 obtain ⟨X2, hX2⟩ : ∃ X, X = normT false false T m := ⟨_, rfl⟩
 obtain ⟨c2, hc2⟩ : ∃ c, c = normC false false T m := ⟨_, rfl⟩
 have H2 : Hid (∀ (w : World) (v : Value), TmIn w 0 T v → Calls Tryz.prog 16 #[v, .int .i64 m] w (SCodePost w c2 X2)) := fun w v h => by
  have h2 := normI_p T m w v h; rwa [← hc2, ← hX2] at h2
 rcases runGo_code (rl := false) (mo := false) F T with hcd | hcd | hcd
 ·skip
  have hc1 : normC false false T F = 0 := hcode.trans hcd
  have HIM : Hid (∀ (w : World) (v : Value), TmIn w 0 T v → Calls Tryz.prog 39 #[v, .int .i64 F] w (IPair w (m : Int) 0)) := fun w v h => by
   have h2 := redNI_any T F w v h; rwa [hred, hc1] at h2
  have HSP : Hid (∀ (w : World) (v : Value), TmIn w 0 T v → Calls Tryz.prog 40 #[v, .int .i64 F] w (IPair w (m : Int) 0)) := fun w v h => by
   have h2 := redNS_any T F w v h; rwa [hred, hc1] at h2
  have H1 : Hid (∀ (w : World) (v : Value), TmIn w 0 T v → Calls Tryz.prog 16 #[v, .int .i64 F] w (SCodePost w 0 X1)) := fun w v h => by
   have h2 := normI_p T F w v h; rwa [hc1, ← hX1] at h2
  have hc20 : c2 = 0 := by rw [hc2, normC_ok hokm, Int.toNat_natCast, hm]; exact runGo_exact F T hcd
  subst hc20
  clear hc2
  clear hc1 hcd hcode hred hokm hm hX1 hX2 hok hF
  refine (HIM.out _ _ V.out.tm).mono ?_
  rintro e u21 ⟨rfl, hb⟩
  replace V := tuck (V.out.below hb)
  replace HB := tuck (bAfter HB.out hb)
  clear hb
  obtain ⟨zV, c0V, c1V, c2V, cfV⟩ := V.out.facts
  go_wp2_with fail
  refine (HSP.out _ _ V.out.tm).mono ?_
  rintro e u22 ⟨rfl, hb⟩
  clear zV c0V c1V c2V cfV
  replace V := tuck (V.out.below hb)
  replace HB := tuck (bAfter HB.out hb)
  clear hb
  obtain ⟨zV, c0V, c1V, c2V, cfV⟩ := V.out.facts
  go_wp2_with fail
  refine (H1.out _ _ V.out.tm).mono ?_
  rintro e u23 ⟨hb, vv, rfl, ss, rfl, hin⟩
  obtain ⟨aVA, cVA, rfl⟩ := hin.form
  clear zV c0V c1V c2V cfV
  replace V := tuck (V.out.below hb)
  replace HB := tuck (bAfter HB.out hb)
  have HNVA := tuck hin
  clear hb hin
  obtain ⟨zV, c0V, c1V, c2V, cfV⟩ := V.out.facts
  go_wp2_with fail
  clear zV c0V c1V c2V cfV
  have VA := tuck (TV.new HNVA.out)
  have hb := below1 u23 (.cells #[.int .i64 X1.kind, .int .i64 X1.num, .slice aVA X1.kids.length cVA] 25)
  replace V := tuck (V.out.below hb)
  replace HB := tuck (bAfter HB.out hb)
  clear hb HNVA
  generalize u23.alloc (.cells #[.int .i64 X1.kind, .int .i64 X1.num, .slice aVA X1.kids.length cVA] 25) = U23 at *
  generalize u23.heap.size = gVA at *
  refine (H2.out _ _ V.out.tm).mono ?_
  rintro e u24 ⟨hb, vv, rfl, ss, rfl, hin⟩
  obtain ⟨aVB, cVB, rfl⟩ := hin.form
  replace V := tuck (V.out.below hb)
  replace VA := tuck (VA.out.below hb)
  replace HB := tuck (bAfter HB.out hb)
  have HNVB := tuck hin
  clear hb hin
  obtain ⟨zV, c0V, c1V, c2V, cfV⟩ := V.out.facts
  obtain ⟨zVA, c0VA, c1VA, c2VA, cfVA⟩ := VA.out.facts
  go_wp2_with fail
  clear zV c0V c1V c2V cfV zVA c0VA c1VA c2VA cfVA
  have VB := tuck (TV.new HNVB.out)
  have hb := below1 u24 (.cells #[.int .i64 X2.kind, .int .i64 X2.num, .slice aVB X2.kids.length cVB] 25)
  replace V := tuck (V.out.below hb)
  replace VA := tuck (VA.out.below hb)
  replace HB := tuck (bAfter HB.out hb)
  clear hb HNVB
  generalize u24.alloc (.cells #[.int .i64 X2.kind, .int .i64 X2.num, .slice aVB X2.kids.length cVB] 25) = U24 at *
  generalize u24.heap.size = gVB at *
  go_ret
  exact ⟨rfl, HB.out⟩
 ·skip
  have hc1 : normC false false T F = 1 := hcode.trans hcd
  have HIM : Hid (∀ (w : World) (v : Value), TmIn w 0 T v → Calls Tryz.prog 39 #[v, .int .i64 F] w (IPair w (m : Int) 1)) := fun w v h => by
   have h2 := redNI_any T F w v h; rwa [hred, hc1] at h2
  have HSP : Hid (∀ (w : World) (v : Value), TmIn w 0 T v → Calls Tryz.prog 40 #[v, .int .i64 F] w (IPair w (m : Int) 1)) := fun w v h => by
   have h2 := redNS_any T F w v h; rwa [hred, hc1] at h2
  have H1 : Hid (∀ (w : World) (v : Value), TmIn w 0 T v → Calls Tryz.prog 16 #[v, .int .i64 F] w (SCodePost w 1 X1)) := fun w v h => by
   have h2 := normI_p T F w v h; rwa [hc1, ← hX1] at h2
  obtain rfl : F = m := (hm.trans (runGo_fuel F T hcd)).symm
  clear hc1 hcd hcode hred hokm hm hX1 hX2 hok hF hc2
  refine (HIM.out _ _ V.out.tm).mono ?_
  rintro e u21 ⟨rfl, hb⟩
  replace V := tuck (V.out.below hb)
  replace HB := tuck (bAfter HB.out hb)
  clear hb
  obtain ⟨zV, c0V, c1V, c2V, cfV⟩ := V.out.facts
  go_wp2_with fail
  refine (HSP.out _ _ V.out.tm).mono ?_
  rintro e u22 ⟨rfl, hb⟩
  clear zV c0V c1V c2V cfV
  replace V := tuck (V.out.below hb)
  replace HB := tuck (bAfter HB.out hb)
  clear hb
  obtain ⟨zV, c0V, c1V, c2V, cfV⟩ := V.out.facts
  go_wp2_with fail
  refine (H1.out _ _ V.out.tm).mono ?_
  rintro e u23 ⟨hb, vv, rfl, ss, rfl, hin⟩
  obtain ⟨aVA, cVA, rfl⟩ := hin.form
  clear zV c0V c1V c2V cfV
  replace V := tuck (V.out.below hb)
  replace HB := tuck (bAfter HB.out hb)
  have HNVA := tuck hin
  clear hb hin
  obtain ⟨zV, c0V, c1V, c2V, cfV⟩ := V.out.facts
  go_wp2_with fail
  clear zV c0V c1V c2V cfV
  have VA := tuck (TV.new HNVA.out)
  have hb := below1 u23 (.cells #[.int .i64 X1.kind, .int .i64 X1.num, .slice aVA X1.kids.length cVA] 25)
  replace V := tuck (V.out.below hb)
  replace HB := tuck (bAfter HB.out hb)
  clear hb HNVA
  generalize u23.alloc (.cells #[.int .i64 X1.kind, .int .i64 X1.num, .slice aVA X1.kids.length cVA] 25) = U23 at *
  generalize u23.heap.size = gVA at *
  refine (H2.out _ _ V.out.tm).mono ?_
  rintro e u24 ⟨hb, vv, rfl, ss, rfl, hin⟩
  obtain ⟨aVB, cVB, rfl⟩ := hin.form
  replace V := tuck (V.out.below hb)
  replace VA := tuck (VA.out.below hb)
  replace HB := tuck (bAfter HB.out hb)
  have HNVB := tuck hin
  clear hb hin
  obtain ⟨zV, c0V, c1V, c2V, cfV⟩ := V.out.facts
  obtain ⟨zVA, c0VA, c1VA, c2VA, cfVA⟩ := VA.out.facts
  go_wp2_with fail
  clear zV c0V c1V c2V cfV zVA c0VA c1VA c2VA cfVA
  have VB := tuck (TV.new HNVB.out)
  have hb := below1 u24 (.cells #[.int .i64 X2.kind, .int .i64 X2.num, .slice aVB X2.kids.length cVB] 25)
  replace V := tuck (V.out.below hb)
  replace VA := tuck (VA.out.below hb)
  replace HB := tuck (bAfter HB.out hb)
  clear hb HNVB
  generalize u24.alloc (.cells #[.int .i64 X2.kind, .int .i64 X2.num, .slice aVB X2.kids.length cVB] 25) = U24 at *
  generalize u24.heap.size = gVB at *
  go_ret
  exact ⟨rfl, HB.out⟩
 ·skip
  have hc1 : normC false false T F = 2 := hcode.trans hcd
  have HIM : Hid (∀ (w : World) (v : Value), TmIn w 0 T v → Calls Tryz.prog 39 #[v, .int .i64 F] w (IPair w (m : Int) 2)) := fun w v h => by
   have h2 := redNI_any T F w v h; rwa [hred, hc1] at h2
  have HSP : Hid (∀ (w : World) (v : Value), TmIn w 0 T v → Calls Tryz.prog 40 #[v, .int .i64 F] w (IPair w (m : Int) 2)) := fun w v h => by
   have h2 := redNS_any T F w v h; rwa [hred, hc1] at h2
  have H1 : Hid (∀ (w : World) (v : Value), TmIn w 0 T v → Calls Tryz.prog 16 #[v, .int .i64 F] w (SCodePost w 2 X1)) := fun w v h => by
   have h2 := normI_p T F w v h; rwa [hc1, ← hX1] at h2
  clear hc1 hcd hcode hred hokm hm hX1 hX2 hok hF hc2
  refine (HIM.out _ _ V.out.tm).mono ?_
  rintro e u21 ⟨rfl, hb⟩
  replace V := tuck (V.out.below hb)
  replace HB := tuck (bAfter HB.out hb)
  clear hb
  obtain ⟨zV, c0V, c1V, c2V, cfV⟩ := V.out.facts
  go_wp2_with fail
  refine (HSP.out _ _ V.out.tm).mono ?_
  rintro e u22 ⟨rfl, hb⟩
  clear zV c0V c1V c2V cfV
  replace V := tuck (V.out.below hb)
  replace HB := tuck (bAfter HB.out hb)
  clear hb
  obtain ⟨zV, c0V, c1V, c2V, cfV⟩ := V.out.facts
  go_wp2_with fail
  refine (H1.out _ _ V.out.tm).mono ?_
  rintro e u23 ⟨hb, vv, rfl, ss, rfl, hin⟩
  obtain ⟨aVA, cVA, rfl⟩ := hin.form
  clear zV c0V c1V c2V cfV
  replace V := tuck (V.out.below hb)
  replace HB := tuck (bAfter HB.out hb)
  have HNVA := tuck hin
  clear hb hin
  obtain ⟨zV, c0V, c1V, c2V, cfV⟩ := V.out.facts
  go_wp2_with fail
  clear zV c0V c1V c2V cfV
  have VA := tuck (TV.new HNVA.out)
  have hb := below1 u23 (.cells #[.int .i64 X1.kind, .int .i64 X1.num, .slice aVA X1.kids.length cVA] 25)
  replace V := tuck (V.out.below hb)
  replace HB := tuck (bAfter HB.out hb)
  clear hb HNVA
  generalize u23.alloc (.cells #[.int .i64 X1.kind, .int .i64 X1.num, .slice aVA X1.kids.length cVA] 25) = U23 at *
  generalize u23.heap.size = gVA at *
  refine (H2.out _ _ V.out.tm).mono ?_
  rintro e u24 ⟨hb, vv, rfl, ss, rfl, hin⟩
  obtain ⟨aVB, cVB, rfl⟩ := hin.form
  replace V := tuck (V.out.below hb)
  replace VA := tuck (VA.out.below hb)
  replace HB := tuck (bAfter HB.out hb)
  have HNVB := tuck hin
  clear hb hin
  obtain ⟨zV, c0V, c1V, c2V, cfV⟩ := V.out.facts
  obtain ⟨zVA, c0VA, c1VA, c2VA, cfVA⟩ := VA.out.facts
  go_wp2_with fail
  clear zV c0V c1V c2V cfV zVA c0VA c1VA c2VA cfVA
  have VB := tuck (TV.new HNVB.out)
  have hb := below1 u24 (.cells #[.int .i64 X2.kind, .int .i64 X2.num, .slice aVB X2.kids.length cVB] 25)
  replace V := tuck (V.out.below hb)
  replace VA := tuck (VA.out.below hb)
  replace HB := tuck (bAfter HB.out hb)
  clear hb HNVB
  generalize u24.alloc (.cells #[.int .i64 X2.kind, .int .i64 X2.num, .slice aVB X2.kids.length cVB] 25) = U24 at *
  generalize u24.heap.size = gVB at *
  go_ret
  exact ⟨rfl, HB.out⟩
set_option maxRecDepth 100000 in
theorem lifted (os : Os) (started : os.Started) (H : Type) (enc : TypeId × Value → H) :
  ReturnsInHanded {} Tryz.checked os 13 .any (Rows.fnReduceStepsSpec.pre6 enc Tryz.prog Tryz.f13 Rows.fnReduceStepsRow.domain false) (Rows.fnReduceStepsSpec.post enc Tryz.prog Tryz.f13 false true false false) := by
 refine returnsInHanded_of_change (C := Tryz.checked) own started (by kernel_rfl) Tryz.func13
  (ChangeSpec.witness6 (enc := enc) (C := Tryz.checked) false ⟨#[], #[.slice none 0 0], []⟩ 8 (by kernel_rfl) (by kernel_rfl) (by kernel_rfl) (by kernel_rfl)) ?_
 intro W base args ds gs before hval0 hW hcnd _
 have hval : ∀ (j : Nat) t v, Tryz.f13.params[j]? = some t → args[j]? = some v → Value.okWide Tryz.prog W .any base t v := hval0
 have hW' := hW
 obtain ⟨p, q, hA0, hV, rfl, hfz, hnd⟩ := hW
 have hA : DataW.TrodAll enc Tryz.prog W 0 (fun _ => true) true Tryz.f13.params.toList args.toList ds p := hA0
 rw [Tryz.params13] at hA hval
 obtain ⟨v0, vs0, d0, ds0, p0, q0, hargs, rfl, rfl, h0, r0⟩ := trodAll_cons hA
 obtain ⟨rfl, rfl, rfl⟩ := trodAll_nil r0
 obtain rfl : args = #[v0] := by cases args; simp_all
 obtain ⟨U0, ad0, bb0, oo0, len0, cap0, rfl, hlc0, hcm0, hbl0, hby0⟩ := open_bytes (hval 0 22 v0 rfl rfl) h0
 refine (walk U0 ad0 bb0 oo0 len0 cap0 W hlc0 hcm0 hby0).mono fun e W' ⟨he, hb⟩ => ?_
 subst he
 exact ⟨_, rfl, law_post rfl rfl (fun gs h => by subst h; rfl) (by rw [Tryz.params13]; exact readable_FnReduceSteps) laid hW' hb⟩
theorem over : Rows.fnReduceStepsRow.holds Tryz.pinned (OpenSpec.ofChange Rows.fnReduceStepsSpec) :=
 OpenClaim.holds_of_wide 13 Tryz.f13 rfl rfl rfl rfl rfl rfl rfl ⟨rfl, rfl, rfl, rfl, rfl⟩ rfl rfl rfl rfl rfl (by kernel_rfl) Tryz.func13 (by kernel_rfl)
  (of_decide_eq_true (by kernel_rfl)) (by unfold Func.isWrapper; first | (rw [if_pos (by decide +kernel)]; kernel_rfl) | (rw [if_neg (by decide +kernel)]; exact ⟨rfl, rfl⟩))
  (fun os started H enc _ => lifted os started H enc)
theorem proved : Rows.FnReduceStepsSaid :=
 over
end Go.Proofs.YtabbbnddfcbdiaaGreat.fnReduceSteps
