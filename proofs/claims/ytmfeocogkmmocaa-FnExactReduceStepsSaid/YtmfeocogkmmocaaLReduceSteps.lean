/-
  The law FnExactReduceSteps: for every term (no ring among its parts) and every int, ReduceSteps answers as its model, and writes into no argument.
-/
import Derived.Test.YtmfeocogkmmocaaOpen
import Derived.Test.YtmfeocogkmmocaaLawT
import Derived.Test.YtmfeocogkmmocaaRedSt
namespace Go.Proofs.Ytmfeocogkmmocaa.fnExactReduceSteps
open Go.ChangeShapes Go.WideShapes Go.ChangeAt Go.RowKit Go.Deep
set_option linter.unusedVariables false

theorem readable_FnExactReduceSteps : ∀ t ∈ (#[24, 3] : Array TypeId).toList, Try.prog.readableRec t = true ∧ t < Try.prog.types.size := by
  intro t ht
  simp at ht
  rcases ht with rfl | rfl
  all_goals exact ⟨by kernel_rfl, of_decide_eq_true (by kernel_rfl)⟩
theorem laid : laidOutB Try.prog = true := by kernel_rfl

set_option maxRecDepth 100000 in
/-- The walk. -/
theorem walk (t : Tm) (x0 : Int) (w : World) (v : Value) (h : TmIn w 0 t v) : Calls Try.prog 6 #[v, .int .i64 x0] w fun e w' => e = .returned (.bool true) ∧ Below w.heap.size w w' := by
  obtain ⟨s, rfl, hs⟩ := h
  obtain ⟨sa, sc, rfl⟩ := hs.form
  have HS := tuck hs
  have HSZ : Hid (∀ (w : World), SlIn w 0 t.kids (.slice sa t.kids.length sc) → Calls Try.prog 12 #[.agg #[.int .i64 t.kind, .int .i64 t.num, .slice sa t.kids.length sc], .int .i64 1048576] w (SzPost w (szV t.kids 1048576))) := fun w h => szT_any t 1048576 w _ (by omega) (by omega) ⟨_, rfl, h⟩
  by_cases hsz : sizes t.kids ≤ 1048576
  rotate_left
  · rw [szV_not (by omega)] at HSZ
    clear hs
    go_enter Try.func6, Try.ntmps6
    go_wp2_with (go_at_call 12; refine (HSZ.out _ (HS.out.below (below1 _ _))).mono ?_; rintro e w1 ⟨rfl, hb⟩; have HX := tuck ((BoxAt.new w t.kind t.num (.slice sa t.kids.length sc) 24).below hb); obtain ⟨z1, c0, c1, c2⟩ := HX.out; have HB := tuck (bAfter (below1 _ _) hb); clear hb)
    go_ret
    exact ⟨rfl, HB.out⟩
  rw [szV_of (by omega)] at HSZ
  have HTO : Hid (∀ (w : World), SlIn w 0 t.kids (.slice sa t.kids.length sc) → Calls Try.prog 14 #[.agg #[.int .i64 t.kind, .int .i64 t.num, .slice sa t.kids.length sc]] w (ToPostT w t)) := fun w h => toT_any t w _ hsz ⟨_, rfl, h⟩
  have HV1 : Hid (∀ (w : World) (s : Value), SlIn w 0 t.kids s → Calls Try.prog 23 #[.agg #[.int .i64 t.kind, .int .i64 t.num, s], .int .i64 x0] w (IPair w (redN t x0) (normC false false t x0))) := fun w s h => redNS_any t x0 w _ ⟨_, rfl, h⟩
  have HV2 : Hid (∀ (w : World) (s : Value), SlIn w 0 t.kids s → Calls Try.prog 24 #[.agg #[.int .i64 t.kind, .int .i64 t.num, s], .int .i64 x0] w (IPair w (redN t x0) (normC false false t x0))) := fun w s h => redNI_any t x0 w _ ⟨_, rfl, h⟩
  have HEQ : Hid (∀ (w : World) (v1 v2 : Value), TmIn w 0 t v1 → TmIn w 0 t v2 → Calls Try.prog 16 #[v1, v2] w (EqPost w true)) := fun w v1 v2 h1 h2 => by have := eqT_any t t w v1 v2 h1 h2; rwa [same_self] at this
  have hm : (0 : Int) ≤ 1048576 - (sizes t.kids : Int) := by omega
  clear hs hsz
  generalize (1048576 : Int) - (sizes t.kids : Int) = left at *
  have hr1 : (redN t x0 != redN t x0) = false := by simp
  have hr2 : (normC false false t x0 != normC false false t x0) = false := by simp
  generalize redN t x0 = r1 at *
  generalize normC false false t x0 = r2 at *
  go_enter Try.func6, Try.ntmps6
  go_wp2_with (go_at_call 12; refine (HSZ.out _ (HS.out.below (below1 _ _))).mono ?_; rintro e w1 ⟨rfl, hb⟩; have HX := tuck ((BoxAt.new w t.kind t.num (.slice sa t.kids.length sc) 24).below hb); obtain ⟨z1, c0, c1, c2⟩ := HX.out; have HB := tuck (bAfter (below1 _ _) hb); clear hb)
  refine (HTO.out _ (HS.out.below HB.out)).mono ?_
  rintro e w2 ⟨v, rfl, ⟨s2, rfl, hin⟩, hb⟩
  replace HX := tuck (HX.out.below hb)
  replace HB := tuck (bAfter HB.out hb)
  clear z1 c0 c1 c2 hb
  obtain ⟨z2, c0, c1, c2⟩ := HX.out
  have HIN := tuck (hin.mono (Nat.zero_le _))
  clear hin
  go_wp2_with (go_at_call 23; refine (HV1.out _ _ HIN.out).mono ?_; rintro e w3 ⟨rfl, hb⟩; replace HX := tuck (HX.out.below hb); replace HB := tuck (bAfter HB.out hb); clear z2 c0 c1 c2 hb HIN; obtain ⟨z3, c0, c1, c2⟩ := HX.out)
  refine (HTO.out _ (HS.out.below HB.out)).mono ?_
  rintro e w4 ⟨v, rfl, ⟨s5, rfl, hin⟩, hb⟩
  obtain ⟨a5, n5, rfl⟩ := hin.form
  replace HX := tuck (HX.out.below hb)
  replace HB := tuck (bAfter HB.out hb)
  clear z3 c0 c1 c2 hb
  obtain ⟨z4, c0, c1, c2⟩ := HX.out
  have HIN := tuck (hin.mono (Nat.zero_le _))
  clear hin
  go_wp2_with (go_at_call 24; refine (HV2.out _ _ (HIN.out.below (below1 _ _))).mono ?_; rintro e w5 ⟨rfl, hb⟩; replace HX := tuck ((HX.out.below (below1 _ _)).below hb); have HX5 := tuck ((BoxAt.new w4 t.kind t.num (.slice a5 t.kids.length n5) 28).below hb); replace HIN := tuck ((HIN.out.below (below1 _ _)).below hb); replace HB := tuck (bAfter HB.out (bAfter (below1 _ _) hb)); clear z4 c0 c1 c2 hb)
  go_region_held3 (fun w' => Below w.heap.size w w' ∧ SlIn w' 0 t.kids (.slice sa t.kids.length sc) ∧ SlIn w' 0 t.kids (.slice a5 t.kids.length n5) ∧ (w.heap.size < w'.heap.size ∧ w'.cell? ⟨w.heap.size, 0, none⟩ = some (.int .i64 t.kind) ∧ w'.cell? ⟨w.heap.size, 1, none⟩ = some (.int .i64 t.num) ∧ w'.cell? ⟨w.heap.size, 2, none⟩ = some (.slice sa t.kids.length sc)) ∧ (w4.heap.size < w'.heap.size ∧ w'.cell? ⟨w4.heap.size, 0, none⟩ = some (.int .i64 t.kind) ∧ w'.cell? ⟨w4.heap.size, 1, none⟩ = some (.int .i64 t.num) ∧ w'.cell? ⟨w4.heap.size, 2, none⟩ = some (.slice a5 t.kids.length n5))) (first | exact ⟨HB.out.drew, HS.out.below HB.out.drew, HIN.out.below (Below.refl _ _).drew, HX.out, HX5.out⟩ | exact held1 (by assumption) hb6 | exact held1 (by assumption) hb7) (first | (go_at_call 14; refine (HTO.out _ (held_arg (by assumption))).mono ?_; rintro e w6 ⟨v, rfl, ⟨s6, rfl, hin6⟩, hb6⟩) | (go_at_call 16; refine (HEQ.out _ _ _ ⟨_, rfl, held_x (by assumption)⟩ ⟨_, rfl, hin6.mono (Nat.zero_le _)⟩).mono ?_; rintro e w7 ⟨rfl, hb7⟩))
  go_wp2_with fail
  go_ret
  exact ⟨rfl, held_end (by assumption)⟩

set_option maxRecDepth 100000 in
theorem lifted (os : Os) (started : os.Started) (H : Type) (enc : TypeId × Value → H) :
    ReturnsInHanded {} Try.checked os 6 .any (Rows.fnExactReduceStepsSpec.pre6 enc Try.prog Try.f6 Rows.fnExactReduceStepsRow.domain false) (Rows.fnExactReduceStepsSpec.post enc Try.prog Try.f6 false true false false) := by
  refine returnsInHanded_of_change (C := Try.checked) own started (by kernel_rfl) Try.func6
    (ChangeSpec.witness6 (enc := enc) (C := Try.checked) false ⟨#[], #[.agg #[.int .i64 0, .int .i64 0, .slice none 0 0], .int .i64 0], []⟩ 8 (by kernel_rfl) (by kernel_rfl) (by kernel_rfl) (by kernel_rfl)) ?_
  intro W base args ds gs before hval0 hW hcnd _
  have hval : ∀ (j : Nat) t v, Try.f6.params[j]? = some t → args[j]? = some v → Value.okWide Try.prog W .any base t v := hval0
  have hW' := hW
  obtain ⟨p, q, hA0, hV, rfl, hfz, hnd⟩ := hW
  have hA : DataW.TrodAll enc Try.prog W 0 (fun _ => true) true Try.f6.params.toList args.toList ds p := hA0
  rw [Try.params6] at hA hval
  obtain ⟨v0, vs0, d0, ds0, p0, q0, hargs, rfl, rfl, h0, r0⟩ := trodAll_cons hA
  obtain ⟨v1, vs1, d1, ds1, p1, q1, rfl, rfl, rfl, h1, r1⟩ := trodAll_cons r0
  obtain ⟨rfl, rfl, rfl⟩ := trodAll_nil r1
  obtain rfl : args = #[v0, v1] := by cases args; simp_all
  obtain ⟨t0, ht0⟩ := open_term (hval 0 24 v0 rfl rfl) h0
  obtain ⟨a1, rfl, rfl, rfl, wf1⟩ := open_int Try.underlying3 (hval 1 3 v1 rfl rfl) h1
  refine (walk t0 a1 W v0 ht0).mono fun e W' ⟨he, hb⟩ => ?_
  subst he
  exact ⟨_, rfl, law_post rfl rfl (fun gs h => by subst h; rfl) (by rw [Try.params6]; exact readable_FnExactReduceSteps) laid hW' hb⟩

theorem over : Rows.fnExactReduceStepsRow.holds Try.pinned (OpenSpec.ofChange Rows.fnExactReduceStepsSpec) :=
  OpenClaim.holds_of_wide 6 Try.f6 rfl rfl rfl rfl rfl rfl rfl ⟨rfl, rfl, rfl, rfl, rfl⟩ rfl rfl rfl rfl rfl (by kernel_rfl) Try.func6 (by kernel_rfl)
    (of_decide_eq_true (by kernel_rfl)) (by unfold Func.isWrapper; first | (rw [if_pos (by decide +kernel)]; kernel_rfl) | (rw [if_neg (by decide +kernel)]; exact ⟨rfl, rfl⟩))
    (fun os started H enc _ => lifted os started H enc)

theorem proved : Rows.FnExactReduceStepsSaid :=
  over
end Go.Proofs.Ytmfeocogkmmocaa.fnExactReduceSteps
