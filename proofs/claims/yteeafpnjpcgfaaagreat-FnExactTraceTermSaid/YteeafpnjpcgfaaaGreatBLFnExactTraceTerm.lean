/-
  The law FnExactTraceTerm: for every term (no ring among its parts), TraceTerm answers as its model, writes into no argument, and its answer is memory of its own.
-/
import Derived.Test.YteeafpnjpcgfaaaGreatB02
import Derived.Test.YteeafpnjpcgfaaaGreatB20
import Derived.Test.YteeafpnjpcgfaaaGreatB21
import Derived.Test.YteeafpnjpcgfaaaGreatB22
import Derived.Test.YteeafpnjpcgfaaaGreatB25
import Derived.Test.YteeafpnjpcgfaaaGreatB28
import Derived.Test.YteeafpnjpcgfaaaGreatB44
import Derived.Test.YteeafpnjpcgfaaaGreatB46
import Derived.Test.YteeafpnjpcgfaaaGreatB54
import Derived.ChangeAlike
import Derived.Deep.DeepCutAuto
import Derived.RegionTactic
namespace Go.Proofs.YteeafpnjpcgfaaaGreat.fnExactTraceTerm
open Go.ChangeShapes Go.WideShapes Go.ChangeAt Go.RowKit Go.Deep
set_option linter.unusedVariables false
theorem readable_FnExactTraceTerm : ∀ t ∈ (#[24] : Array TypeId).toList, Tryz.prog.readableRec t = true ∧ t < Tryz.prog.types.size := by
 intro t ht
 simp at ht
 subst ht
 all_goals exact ⟨by kernel_rfl, of_decide_eq_true (by kernel_rfl)⟩
theorem laid : laidOutB Tryz.prog = true := by kernel_rfl
set_option maxRecDepth 100000 in
set_option maxHeartbeats 4000000 in
/-- The walk. -/
theorem walk (t : Tm) (w : World) (vt : Value) (ht : TmIn w 0 t vt) : Calls Tryz.prog 7 #[vt] w fun e w' => e = .returned (.bool true) ∧ Below w.heap.size w w' := by
 obtain ⟨st, rfl, ht⟩ := ht
 obtain ⟨ta, tc, rfl⟩ := ht.form
 have HSt := tuck ht
 clear ht
 have HSZt : Hid (∀ (w : World), SlIn w 0 t.kids (.slice ta t.kids.length tc) → Calls Tryz.prog 8 #[.agg #[.int .i64 t.kind, .int .i64 t.num, (.slice ta t.kids.length tc)], .int .i64 1048576] w (SzPost w (szV t.kids 1048576))) := fun w h => szT_any t 1048576 w _ (by omega) (by omega) ⟨_, rfl, h⟩
 by_cases hszt : (sizes t.kids : Int) ≤ 1048576
 rotate_left
 ·rw [szV_not (by omega)] at HSZt
  clear hszt
  go_enter Tryz.func7, Tryz.ntmps7
  go_wp2_with fail
  refine (HSZt.out _ (HSt.out.below (below1 _ _))).mono ?_
  rintro e w1 ⟨rfl, hb⟩
  have HXt := tuck ((BoxAt.new w t.kind t.num (.slice ta t.kids.length tc) 24).below hb)
  have HB : Hid (Bel w w1) := tuck ⟨bAfter (below1 _ _) hb⟩
  clear hb
  obtain ⟨zt, c0t, c1t, c2t⟩ := HXt.out
  go_wp2_with fail
  go_ret
  exact ⟨rfl, HB.out.be⟩
 rw [szV_of (by omega)] at HSZt
 obtain ⟨left1, hleft1⟩ : ∃ left : Int, left = 1048576 - (sizes t.kids : Int) := ⟨_, rfl⟩
 have hl1a : (0 : Int) ≤ left1 := by omega
 have hl1b : left1 ≤ 1048576 := by omega
 rw [← hleft1] at HSZt
 obtain ⟨R0, hR0⟩ : ∃ R : List Tm, R = traceL t := ⟨_, rfl⟩
 have HSP : Hid (∀ (w : World) (vt : Value), TmIn w 0 t vt → Calls Tryz.prog 23 #[vt] w (fun e w' => Below w.heap.size w w' ∧ ∃ (a0 : Option Addr) (c0 : Nat), e = .returned (.slice a0 R0.length c0) ∧ SlIn w' w.heap.size R0 (.slice a0 R0.length c0))) := fun w vt ht => by subst hR0; exact traceS_any t w vt ht
 have HIM : Hid (∀ (w : World) (vt : Value), TmIn w 0 t vt → Calls Tryz.prog 24 #[vt] w (fun e w' => Below w.heap.size w w' ∧ ∃ (a0 : Option Addr) (c0 : Nat) (F0 : List Nat), e = .returned (.slice a0 R0.length c0) ∧ SlOwn w' R0 (.slice a0 R0.length c0) F0 ∧ (F0).Nodup ∧ ∀ g ∈ F0, w.heap.size ≤ g ∧ g < w'.heap.size)) := fun w vt ht => by subst hR0; exact traceI_any t w vt ht
 have hszR0 : sizes R0 ≤ 1000000 := by subst hR0; exact traceL_sizes t
 clear hR0
 have HTOt : Hid (∀ (w : World), SlIn w 0 t.kids (.slice ta t.kids.length tc) → Calls Tryz.prog 10 #[.agg #[.int .i64 t.kind, .int .i64 t.num, (.slice ta t.kids.length tc)]] w fun e w' => Below w.heap.size w w' ∧ ∃ a c F, e = .returned (.agg #[.int .i64 t.kind, .int .i64 t.num, .slice a t.kids.length c]) ∧ SlOwn w' t.kids (.slice a t.kids.length c) F ∧ F.Nodup ∧ ∀ g ∈ F, w.heap.size ≤ g ∧ g < w'.heap.size) := fun w h => toO_made t w _ (by omega) ⟨_, rfl, h⟩
 have HEQt : Hid (∀ (w : World) (v1 v2 : Value), TmIn w 0 t v1 → TmIn w 0 t v2 → Calls Tryz.prog 12 #[v1, v2] w (EqPost w true)) := fun w v1 v2 h1 h2 => by have := eqT_any t t w v1 v2 h1 h2; rwa [same_self] at this
 have HEQR0 : Hid (∀ (w : World) (v1 v2 : Value), SlIn w 0 R0 v1 → SlIn w 0 R0 v2 → Calls Tryz.prog 25 #[v1, v2] w (EqPost w true)) := fun w v1 v2 h1 h2 => by have := eqS_any R0 R0 w v1 v2 h1 h2; rwa [same_self] at this
 have hkt : (0 : Int) ≤ 1 ∧ (1 : Int) + 2 * (sizes t.kids : Int) ≤ 4611686018427387904 := by omega
 have HKt := tuck hkt
 have hkend : ¬ ((1 : Int) + 2 * (sizes t.kids : Int)) < 0 := by omega
 have hm0 : (0 : Int) ≤ 1 ∧ (1 : Int) + 2 * (sizes R0 : Int) ≤ 4611686018427387904 := by omega
 have HM0 := tuck hm0
 have hmn0 : ¬ ((1 : Int) + 2 * (sizes R0 : Int)) < 0 := by omega
 clear hszR0 hszt hleft1 hl1b hkt hm0
 go_enter Tryz.func7, Tryz.ntmps7
 go_wp2_with fail
 refine (HSZt.out _ (HSt.out.below (below1 _ _))).mono ?_
 rintro e w1 ⟨rfl, hb⟩
 have HXt := tuck ((BoxAt.new w t.kind t.num (.slice ta t.kids.length tc) 24).below hb)
 have HB : Hid (Bel w w1) := tuck ⟨bAfter (below1 _ _) hb⟩
 clear hb
 obtain ⟨zt, c0t, c1t, c2t⟩ := HXt.out
 go_wp2_with fail
 refine (HTOt.out _ (HSt.out.below HB.out.be)).mono ?_
 rintro e wc8t ⟨hb, u8ta, u8tc, FUt, rfl, hsx, hnx, hFx⟩
 have H8t := tuck (hsx.sl (B := 0) (fun _ _ => Nat.zero_le _))
 replace HXt := tuck (HXt.out.below hb)
 replace HB := tuck (HB.out.below hb)
 clear hb hsx hnx hFx
 clear zt c0t c1t c2t
 obtain ⟨zt, c0t, c1t, c2t⟩ := HXt.out
 go_wp2_with fail
 refine (HSP.out _ _ ⟨_, rfl, H8t.out⟩).mono ?_
 rintro e w8 ⟨hb, u8a0, u8c0, rfl, hw0⟩
 have H8W0 := tuck (hw0.mono (B' := 0) (Nat.zero_le _))
 replace HXt := tuck (HXt.out.below hb)
 replace HB := tuck (HB.out.below hb)
 clear hb hw0
 clear H8t
 clear zt c0t c1t c2t
 obtain ⟨zt, c0t, c1t, c2t⟩ := HXt.out
 go_wp2_with fail
 clear zt c0t c1t c2t
 have HBW : Hid (Bel w8 w8) := tuck ⟨Below.refl _ _⟩
 have HL1t : Hid (w.heap.size < w8.heap.size) := tuck HXt.out.1
 have HL0 : Hid (w.heap.size ≤ w8.heap.size) := tuck HB.out.be.size
 refine (HTOt.out _ (HSt.out.below HB.out.be)).mono ?_
 rintro e wxt ⟨hb, uxta, uxtc, Ft, rfl, hsx, hnx, hFx⟩
 have HOt := tuck (OwnB.of hsx hnx hFx)
 have HNt := tuck hb.size
 replace HXt := tuck (HXt.out.below hb)
 replace HB := tuck (HB.out.below hb)
 replace HBW := tuck (HBW.out.below hb)
 clear hb hsx hnx hFx
 obtain ⟨zt, c0t, c1t, c2t⟩ := HXt.out
 go_wp2_with fail
 clear zt c0t c1t c2t
 have hbx := below1 wxt (.cells #[.int .i64 t.kind, .int .i64 t.num, .slice uxta t.kids.length uxtc] 29)
 have VXt := tuck (VarAt.new wxt t.kind t.num (.slice uxta t.kids.length uxtc))
 have hzz : wxt.heap.size < (wxt.alloc (.cells #[.int .i64 t.kind, .int .i64 t.num, .slice uxta t.kids.length uxtc] 29)).heap.size := by simp
 replace HXt := tuck (HXt.out.below hbx)
 replace HB := tuck (HB.out.below hbx)
 replace HBW := tuck (HBW.out.below hbx)
 replace HOt := tuck (HOt.out.below hbx)
 clear hbx
 generalize wxt.alloc (.cells #[.int .i64 t.kind, .int .i64 t.num, .slice uxta t.kids.length uxtc] 29) = WXt at *
 generalize wxt.heap.size = gxt at *
 have HZXt := tuck hzz
 clear hzz
 refine (HIM.out _ _ ⟨_, rfl, HOt.out.sl⟩).mono ?_
 rintro e wG ⟨hb, Ga0, Gc0, FG0, rfl, hw0, hnd, hF⟩
 have HOG0 := tuck (OwnB.of hw0 hnd hF)
 have HNG := tuck hb.size
 replace HXt := tuck (HXt.out.below hb)
 replace HB := tuck (HB.out.below hb)
 replace HBW := tuck (HBW.out.below hb)
 replace HOt := tuck (HOt.out.below hb)
 replace VXt := tuck (VXt.out.below hb)
 clear hb hnd hF hw0
 obtain ⟨zt, c0t, c1t, c2t⟩ := HXt.out
 obtain ⟨zxt, x0t, x1t, x2t, xft⟩ := VXt.out.facts
 go_wp2_with fail
 clear zxt x0t x1t x2t xft
 clear zt c0t c1t c2t
 refine (HEQR0.out _ _ _ (HOG0.out.sl) (H8W0.out.below HBW.out.be)).mono ?_
 rintro e wE0 ⟨rfl, hb⟩
 replace HXt := tuck (HXt.out.below hb)
 replace HB := tuck (HB.out.below hb)
 replace HBW := tuck (HBW.out.below hb)
 replace HOt := tuck (HOt.out.below hb)
 replace VXt := tuck (VXt.out.below hb)
 replace HOG0 := tuck (HOG0.out.below hb)
 clear hb
 obtain ⟨zt, c0t, c1t, c2t⟩ := HXt.out
 obtain ⟨zxt, x0t, x1t, x2t, xft⟩ := VXt.out.facts
 go_wp2_with fail
 clear zxt x0t x1t x2t xft
 clear zt c0t c1t c2t
 go_region_held3 (fun w' => Below wE0.heap.size wE0 w' ∧ (w.heap.size < w'.heap.size ∧ w'.cell? ⟨w.heap.size, 0, none⟩ = some (.int .i64 t.kind) ∧ w'.cell? ⟨w.heap.size, 1, none⟩ = some (.int .i64 t.num) ∧ w'.cell? ⟨w.heap.size, 2, none⟩ = some (.slice ta t.kids.length tc)) ∧ (gxt < w'.heap.size ∧ w'.cell? ⟨gxt, 0, none⟩ = some (.int .i64 t.kind) ∧ w'.cell? ⟨gxt, 1, none⟩ = some (.int .i64 t.num) ∧ w'.cell? ⟨gxt, 2, none⟩ = some (.slice uxta t.kids.length uxtc))) (first | exact ⟨(Below.refl _ _).drew, HXt.out, VXt.out.four⟩ | exact holdT (by assumption) hb71 | exact holdT (by assumption) hb72) (first | (go_at_call 10; refine (HTOt.out _ (HSt.out.below (bAfter HB.out.be (hold_be (by assumption))))).mono ?_; rintro e w71t ⟨hb71, qa, qc, F71, rfl, hs71, -, -⟩) | (go_at_call 12; refine (HEQt.out _ _ _ ⟨_, rfl, HOt.out.sl.below (hold_be (by assumption))⟩ ⟨_, rfl, hs71.sl (fun _ _ => Nat.zero_le _)⟩).mono ?_; rintro e w72t ⟨rfl, hb72⟩))
 have hb : Below wE0.heap.size wE0 w72t := hold_be (by assumption)
 replace HXt := tuck (HXt.out.below hb)
 replace HB := tuck (HB.out.below hb)
 replace HBW := tuck (HBW.out.below hb)
 replace HOt := tuck (HOt.out.below hb)
 replace VXt := tuck (VXt.out.below hb)
 replace HOG0 := tuck (HOG0.out.below hb)
 clear hb hb71 hb72 hs71
 obtain ⟨zt, c0t, c1t, c2t⟩ := HXt.out
 obtain ⟨zxt, x0t, x1t, x2t, xft⟩ := VXt.out.facts
 go_wp2_with fail
 clear zxt x0t x1t x2t xft
 clear zt c0t c1t c2t
 have geHOt := HOt.out.ge
 have ltHOt := HOt.out.lt
 have geHOG0 := HOG0.out.ge
 have ltHOG0 := HOG0.out.lt
 refine (markT_any t Ft (1) _ _ HKt.out.1 HKt.out.2 HOt.out.nd HOt.out.lts HOt.out.own).mono ?_
 rintro e wmt ⟨rfl, hown, hbut⟩
 have e0 := HL1t.out; have e1 := HL0.out; have e2 := HNt.out; have e3 := HZXt.out; have e4 := HNG.out
 skip
 replace HXt := tuck (HXt.out.but hbut (fun hf => by have h1 := geHOt _ hf; have h2 := ltHOt _ hf; omega))
 replace HB := tuck (HB.out.but hbut (fun g hf => by have h1 := geHOt _ hf; have h2 := ltHOt _ hf; omega))
 replace HBW := tuck (HBW.out.but hbut (fun g hf => by have h1 := geHOt _ hf; have h2 := ltHOt _ hf; omega))
 replace HOG0 := tuck (HOG0.out.but hbut (fun g hg hf => by have h1 := geHOt _ hf; have h2 := ltHOt _ hf; have h3 := geHOG0 _ hg; have h4 := ltHOG0 _ hg; omega))
 clear hbut hown geHOt ltHOt geHOG0 ltHOG0
 clear e0 e1 e2 e3 e4
 clear VXt
 clear HOt
 obtain ⟨zt, c0t, c1t, c2t⟩ := HXt.out
 go_wp2_with fail
 clear zt c0t c1t c2t
 refine (HEQR0.out _ _ _ (HOG0.out.sl) (H8W0.out.below HBW.out.be)).mono ?_
 rintro e wK0 ⟨rfl, hb⟩
 replace HXt := tuck (HXt.out.below hb)
 replace HB := tuck (HB.out.below hb)
 replace HBW := tuck (HBW.out.below hb)
 replace HOG0 := tuck (HOG0.out.below hb)
 clear hb
 obtain ⟨zt, c0t, c1t, c2t⟩ := HXt.out
 go_wp2_with fail
 clear zt c0t c1t c2t
 have geHOG0 := HOG0.out.ge
 have ltHOG0 := HOG0.out.lt
 refine (markL_but R0 FG0 (1) _ _ HM0.out.1 HM0.out.2 HOG0.out.nd HOG0.out.own).mono ?_
 rintro e wn0 ⟨rfl, hown, hbut⟩
 have e0 := HL1t.out; have e1 := HL0.out; have e2 := HNt.out; have e3 := HZXt.out; have e4 := HNG.out
 skip
 replace HXt := tuck (HXt.out.but hbut (fun hf => by have h1 := geHOG0 _ hf; have h2 := ltHOG0 _ hf; omega))
 replace HB := tuck (HB.out.but hbut (fun g hf => by have h1 := geHOG0 _ hf; have h2 := ltHOG0 _ hf; omega))
 replace HBW := tuck (HBW.out.but hbut (fun g hf => by have h1 := geHOG0 _ hf; have h2 := ltHOG0 _ hf; omega))
 replace HOG0 := tuck (HOG0.out.marked hown hbut.size)
 clear hbut hown geHOG0 ltHOG0
 clear e0 e1 e2 e3 e4
 obtain ⟨zt, c0t, c1t, c2t⟩ := HXt.out
 go_wp2_with fail
 clear zt c0t c1t c2t
 refine (heldL_any R0 0 (1) _ _ HM0.out.1 HM0.out.2 HOG0.out.sl).mono ?_
 rintro e wh0 ⟨rfl, hb⟩
 replace HXt := tuck (HXt.out.below hb)
 replace HB := tuck (HB.out.below hb)
 replace HBW := tuck (HBW.out.below hb)
 replace HOG0 := tuck (HOG0.out.below hb)
 clear hb
 obtain ⟨zt, c0t, c1t, c2t⟩ := HXt.out
 go_wp2_with fail
 clear zt c0t c1t c2t
 obtain ⟨zt, c0t, c1t, c2t⟩ := HXt.out
 refine (HTOt.out _ (HSt.out.below HB.out.be)).mono ?_
 rintro e wcHt ⟨hb, uHta, uHtc, FUt, rfl, hsx, hnx, hFx⟩
 have HHt := tuck (hsx.sl (B := 0) (fun _ _ => Nat.zero_le _))
 replace HXt := tuck (HXt.out.below hb)
 replace HB := tuck (HB.out.below hb)
 replace HBW := tuck (HBW.out.below hb)
 replace HOG0 := tuck (HOG0.out.below hb)
 clear hb hsx hnx hFx
 clear zt c0t c1t c2t
 obtain ⟨zt, c0t, c1t, c2t⟩ := HXt.out
 go_wp2_with fail
 refine (HIM.out _ _ ⟨_, rfl, HHt.out⟩).mono ?_
 rintro e wH ⟨hb, uHa0, uHc0, FH0, rfl, hw0, hnd, hF⟩
 have HHW0 := tuck (hw0.sl (B := 0) (fun _ _ => Nat.zero_le _))
 replace HXt := tuck (HXt.out.below hb)
 replace HB := tuck (HB.out.below hb)
 replace HBW := tuck (HBW.out.below hb)
 replace HOG0 := tuck (HOG0.out.below hb)
 clear hb hnd hF hw0
 clear HHt
 clear zt c0t c1t c2t
 obtain ⟨zt, c0t, c1t, c2t⟩ := HXt.out
 go_wp2_with fail
 clear zt c0t c1t c2t
 refine (HEQR0.out _ _ _ (HHW0.out) (H8W0.out.below HBW.out.be)).mono ?_
 rintro e wF0 ⟨rfl, hb⟩
 replace HXt := tuck (HXt.out.below hb)
 replace HB := tuck (HB.out.below hb)
 replace HBW := tuck (HBW.out.below hb)
 replace HOG0 := tuck (HOG0.out.below hb)
 replace HHW0 := tuck (HHW0.out.below hb)
 clear hb
 obtain ⟨zt, c0t, c1t, c2t⟩ := HXt.out
 go_wp2_with fail
 clear zt c0t c1t c2t
 refine (heldL_any R0 0 (1) _ _ HM0.out.1 HM0.out.2 HOG0.out.sl).mono ?_
 rintro e wi0 ⟨rfl, hb⟩
 replace HXt := tuck (HXt.out.below hb)
 replace HB := tuck (HB.out.below hb)
 replace HBW := tuck (HBW.out.below hb)
 replace HOG0 := tuck (HOG0.out.below hb)
 clear hb
 go_wp2_with fail
 go_ret
 exact ⟨rfl, HB.out.be⟩
set_option maxRecDepth 100000 in
theorem lifted (os : Os) (started : os.Started) (H : Type) (enc : TypeId × Value → H) :
  ReturnsInHanded {} Tryz.checked os 7 .any (Rows.fnExactTraceTermSpec.pre6 enc Tryz.prog Tryz.f7 Rows.fnExactTraceTermRow.domain false) (Rows.fnExactTraceTermSpec.post enc Tryz.prog Tryz.f7 false true false false) := by
 refine returnsInHanded_of_change (C := Tryz.checked) own started (by kernel_rfl) Tryz.func7
  (ChangeSpec.witness6 (enc := enc) (C := Tryz.checked) false ⟨#[], #[.agg #[.int .i64 0, .int .i64 0, .slice none 0 0]], []⟩ 8 (by kernel_rfl) (by kernel_rfl) (by kernel_rfl) (by kernel_rfl)) ?_
 intro W base args ds gs before hval0 hW hcnd _
 have hval : ∀ (j : Nat) t v, Tryz.f7.params[j]? = some t → args[j]? = some v → Value.okWide Tryz.prog W .any base t v := hval0
 have hW' := hW
 obtain ⟨p, q, hA0, hV, rfl, hfz, hnd⟩ := hW
 have hA : DataW.TrodAll enc Tryz.prog W 0 (fun _ => true) true Tryz.f7.params.toList args.toList ds p := hA0
 rw [Tryz.params7] at hA hval
 obtain ⟨v0, vs0, d0, ds0, p0, q0, hargs, rfl, rfl, h0, r0⟩ := trodAll_cons hA
 obtain ⟨rfl, rfl, rfl⟩ := trodAll_nil r0
 obtain rfl : args = #[v0] := by cases args; simp_all
 obtain ⟨t0, ht0⟩ := open_term (hval 0 24 v0 rfl rfl) h0
 refine (walk t0 W v0 ht0).mono fun e W' ⟨he, hb⟩ => ?_
 subst he
 exact ⟨_, rfl, law_post rfl rfl (fun gs h => by subst h; rfl) (by rw [Tryz.params7]; exact readable_FnExactTraceTerm) laid hW' hb⟩
theorem over : Rows.fnExactTraceTermRow.holds Tryz.pinned (OpenSpec.ofChange Rows.fnExactTraceTermSpec) :=
 OpenClaim.holds_of_wide 7 Tryz.f7 rfl rfl rfl rfl rfl rfl rfl ⟨rfl, rfl, rfl, rfl, rfl⟩ rfl rfl rfl rfl rfl (by kernel_rfl) Tryz.func7 (by kernel_rfl)
  (of_decide_eq_true (by kernel_rfl)) (by unfold Func.isWrapper; first | (rw [if_pos (by decide +kernel)]; kernel_rfl) | (rw [if_neg (by decide +kernel)]; exact ⟨rfl, rfl⟩))
  (fun os started H enc _ => lifted os started H enc)
theorem proved : Rows.FnExactTraceTermSaid :=
 over
end Go.Proofs.YteeafpnjpcgfaaaGreat.fnExactTraceTerm
