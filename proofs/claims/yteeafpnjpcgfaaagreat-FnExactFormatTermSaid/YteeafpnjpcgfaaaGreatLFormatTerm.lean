/-
  The law FnExactFormatTerm: for every term (no ring among its parts), FormatTerm answers as its model, and writes into no argument.
-/
import Derived.Test.YteeafpnjpcgfaaaGreatOpen
import Derived.Test.YteeafpnjpcgfaaaGreatLawT
import Derived.Test.YteeafpnjpcgfaaaGreatTextD
import Derived.Test.YteeafpnjpcgfaaaGreatFmD
namespace Go.Proofs.YteeafpnjpcgfaaaGreat.fnExactFormatTerm
open Go.ChangeShapes Go.WideShapes Go.ChangeAt Go.RowKit Go.Deep
set_option linter.unusedVariables false

theorem readable_FnExactFormatTerm : ∀ t ∈ (#[24] : Array TypeId).toList, Tryz.prog.readableRec t = true ∧ t < Tryz.prog.types.size := by
  intro t ht
  simp at ht
  subst ht
  exact ⟨by kernel_rfl, of_decide_eq_true (by kernel_rfl)⟩
theorem laid : laidOutB Tryz.prog = true := by kernel_rfl

set_option maxRecDepth 100000 in
/-- The walk. -/
theorem walk (t : Tm) (w : World) (v : Value) (h : TmIn w 0 t v) : Calls Tryz.prog 3 #[v] w fun e w' => e = .returned (.bool true) ∧ Below w.heap.size w w' := by
  obtain ⟨s, rfl, hs⟩ := h
  obtain ⟨sa, sc, rfl⟩ := hs.form
  have HS := tuck hs
  have HSZ : Hid (∀ (w : World), SlIn w 0 t.kids (.slice sa t.kids.length sc) → Calls Tryz.prog 8 #[.agg #[.int .i64 t.kind, .int .i64 t.num, .slice sa t.kids.length sc], .int .i64 1048576] w (SzPost w (szV t.kids 1048576))) := fun w h => szT_any t 1048576 w _ (by omega) (by omega) ⟨_, rfl, h⟩
  by_cases hsz : sizes t.kids ≤ 1048576
  rotate_left
  · rw [szV_not (by omega)] at HSZ
    clear hs
    go_enter Tryz.func3, Tryz.ntmps3
    go_wp2_with (go_at_call 8; refine (HSZ.out _ (HS.out.below (below1 _ _))).mono ?_; rintro e w1 ⟨rfl, hb⟩; have HX := tuck ((BoxAt.new w t.kind t.num (.slice sa t.kids.length sc) 24).below hb); obtain ⟨z1, c0, c1, c2⟩ := HX.out; have HB := tuck (bAfter (below1 _ _) hb); clear hb)
    go_ret
    exact ⟨rfl, HB.out⟩
  rw [szV_of (by omega)] at HSZ
  have HTO : Hid (∀ (w : World), SlIn w 0 t.kids (.slice sa t.kids.length sc) → Calls Tryz.prog 10 #[.agg #[.int .i64 t.kind, .int .i64 t.num, .slice sa t.kids.length sc]] w (ToPostT w t)) := fun w h => toT_any t w _ hsz ⟨_, rfl, h⟩
  have HV1 : Hid (∀ (w : World) (s : Value), SlIn w 0 t.kids s → Calls Tryz.prog 9 #[.agg #[.int .i64 t.kind, .int .i64 t.num, s]] w (StrPost w (fmtOf t))) := fun w s h => format_any t w _ ⟨_, rfl, h⟩
  have HV2 : Hid (∀ (w : World) (s : Value), SlIn w 0 t.kids s → Calls Tryz.prog 11 #[.agg #[.int .i64 t.kind, .int .i64 t.num, s]] w (StrPost w (fmtOf t))) := fun w s h => formatI_any t w _ ⟨_, rfl, h⟩
  have HEQ : Hid (∀ (w : World) (v1 v2 : Value), TmIn w 0 t v1 → TmIn w 0 t v2 → Calls Tryz.prog 12 #[v1, v2] w (EqPost w true)) := fun w v1 v2 h1 h2 => by have := eqT_any t t w v1 v2 h1 h2; rwa [same_self] at this
  have hm : (0 : Int) ≤ 1048576 - (sizes t.kids : Int) := by omega
  clear hs hsz
  generalize fmtOf t = r at *
  have hrr : (r.toList == r.toList) = true := by simp
  generalize (1048576 : Int) - (sizes t.kids : Int) = left at *
  go_enter Tryz.func3, Tryz.ntmps3
  go_wp2_with (go_at_call 8; refine (HSZ.out _ (HS.out.below (below1 _ _))).mono ?_; rintro e w1 ⟨rfl, hb⟩; have HX := tuck ((BoxAt.new w t.kind t.num (.slice sa t.kids.length sc) 24).below hb); obtain ⟨z1, c0, c1, c2⟩ := HX.out; have HB := tuck (bAfter (below1 _ _) hb); clear hb)
  refine (HTO.out _ (HS.out.below HB.out)).mono ?_
  rintro e w2 ⟨v, rfl, ⟨s2, rfl, hin⟩, hb⟩
  replace HX := tuck (HX.out.below hb)
  replace HB := tuck (bAfter HB.out hb)
  clear z1 c0 c1 c2 hb
  obtain ⟨z2, c0, c1, c2⟩ := HX.out
  have HIN := tuck (hin.mono (Nat.zero_le _))
  clear hin
  go_wp2_with (go_at_call 9; refine (HV1.out _ _ HIN.out).mono ?_; rintro e w3 ⟨rfl, hb⟩; replace HX := tuck (HX.out.below hb); replace HB := tuck (bAfter HB.out hb); clear z2 c0 c1 c2 hb HIN; obtain ⟨z3, c0, c1, c2⟩ := HX.out)
  refine (HTO.out _ (HS.out.below HB.out)).mono ?_
  rintro e w4 ⟨v, rfl, ⟨s5, rfl, hin⟩, hb⟩
  obtain ⟨a5, n5, rfl⟩ := hin.form
  replace HX := tuck (HX.out.below hb)
  replace HB := tuck (bAfter HB.out hb)
  clear z3 c0 c1 c2 hb
  obtain ⟨z4, c0, c1, c2⟩ := HX.out
  have HIN := tuck (hin.mono (Nat.zero_le _))
  clear hin
  go_wp2_with (go_at_call 11; refine (HV2.out _ _ (HIN.out.below (below1 _ _))).mono ?_; rintro e w5 ⟨rfl, hb⟩; replace HX := tuck ((HX.out.below (below1 _ _)).below hb); have HX5 := tuck ((BoxAt.new w4 t.kind t.num (.slice a5 t.kids.length n5) 29).below hb); replace HIN := tuck ((HIN.out.below (below1 _ _)).below hb); replace HB := tuck (bAfter HB.out (bAfter (below1 _ _) hb)); clear z4 c0 c1 c2 hb)
  go_region_held3 (fun w' => Below w.heap.size w w' ∧ SlIn w' 0 t.kids (.slice sa t.kids.length sc) ∧ SlIn w' 0 t.kids (.slice a5 t.kids.length n5) ∧ (w.heap.size < w'.heap.size ∧ w'.cell? ⟨w.heap.size, 0, none⟩ = some (.int .i64 t.kind) ∧ w'.cell? ⟨w.heap.size, 1, none⟩ = some (.int .i64 t.num) ∧ w'.cell? ⟨w.heap.size, 2, none⟩ = some (.slice sa t.kids.length sc)) ∧ (w4.heap.size < w'.heap.size ∧ w'.cell? ⟨w4.heap.size, 0, none⟩ = some (.int .i64 t.kind) ∧ w'.cell? ⟨w4.heap.size, 1, none⟩ = some (.int .i64 t.num) ∧ w'.cell? ⟨w4.heap.size, 2, none⟩ = some (.slice a5 t.kids.length n5))) (first | exact ⟨HB.out.drew, HS.out.below HB.out.drew, HIN.out.below (Below.refl _ _).drew, HX.out, HX5.out⟩ | exact held1 (by assumption) hb6 | exact held1 (by assumption) hb7) (first | (go_at_call 10; refine (HTO.out _ (held_arg (by assumption))).mono ?_; rintro e w6 ⟨v, rfl, ⟨s6, rfl, hin6⟩, hb6⟩) | (go_at_call 12; refine (HEQ.out _ _ _ ⟨_, rfl, held_x (by assumption)⟩ ⟨_, rfl, hin6.mono (Nat.zero_le _)⟩).mono ?_; rintro e w7 ⟨rfl, hb7⟩))
  go_wp2_with fail
  go_ret
  exact ⟨rfl, held_end (by assumption)⟩

set_option maxRecDepth 100000 in
theorem lifted (os : Os) (started : os.Started) (H : Type) (enc : TypeId × Value → H) :
    ReturnsInHanded {} Tryz.checked os 3 .any (Rows.fnExactFormatTermSpec.pre6 enc Tryz.prog Tryz.f3 Rows.fnExactFormatTermRow.domain false) (Rows.fnExactFormatTermSpec.post enc Tryz.prog Tryz.f3 false true false false) := by
  refine returnsInHanded_of_change (C := Tryz.checked) own started (by kernel_rfl) Tryz.func3
    (ChangeSpec.witness6 (enc := enc) (C := Tryz.checked) false ⟨#[], #[.agg #[.int .i64 0, .int .i64 0, .slice none 0 0]], []⟩ 8 (by kernel_rfl) (by kernel_rfl) (by kernel_rfl) (by kernel_rfl)) ?_
  intro W base args ds gs before hval0 hW hcnd _
  have hval : ∀ (j : Nat) t v, Tryz.f3.params[j]? = some t → args[j]? = some v → Value.okWide Tryz.prog W .any base t v := hval0
  have hW' := hW
  obtain ⟨p, q, hA0, hV, rfl, hfz, hnd⟩ := hW
  have hA : DataW.TrodAll enc Tryz.prog W 0 (fun _ => true) true Tryz.f3.params.toList args.toList ds p := hA0
  rw [Tryz.params3] at hA hval
  obtain ⟨v0, vs0, d0, ds0, p0, q0, hargs, rfl, rfl, h0, r0⟩ := trodAll_cons hA
  obtain ⟨rfl, rfl, rfl⟩ := trodAll_nil r0
  obtain rfl : args = #[v0] := by cases args; simp_all
  obtain ⟨t0, ht0⟩ := open_term (hval 0 24 v0 rfl rfl) h0
  refine (walk t0 W v0 ht0).mono fun e W' ⟨he, hb⟩ => ?_
  subst he
  exact ⟨_, rfl, law_post rfl rfl (fun gs h => by subst h; rfl) (by rw [Tryz.params3]; exact readable_FnExactFormatTerm) laid hW' hb⟩

theorem over : Rows.fnExactFormatTermRow.holds Tryz.pinned (OpenSpec.ofChange Rows.fnExactFormatTermSpec) :=
  OpenClaim.holds_of_wide 3 Tryz.f3 rfl rfl rfl rfl rfl rfl rfl ⟨rfl, rfl, rfl, rfl, rfl⟩ rfl rfl rfl rfl rfl (by kernel_rfl) Tryz.func3 (by kernel_rfl)
    (of_decide_eq_true (by kernel_rfl)) (by unfold Func.isWrapper; first | (rw [if_pos (by decide +kernel)]; kernel_rfl) | (rw [if_neg (by decide +kernel)]; exact ⟨rfl, rfl⟩))
    (fun os started H enc _ => lifted os started H enc)

theorem proved : Rows.FnExactFormatTermSaid :=
  over
end Go.Proofs.YteeafpnjpcgfaaaGreat.fnExactFormatTerm
