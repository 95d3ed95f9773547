/-
  The law FnExactRedexPlaces: for every term (no ring among its parts), RedexPlaces answers as its model, writes into no argument, and its answer is memory of its own.
-/
import Derived.Test.YtihlbbbajaepoaaB02
import Derived.Test.YtihlbbbajaepoaaB20
import Derived.Test.YtihlbbbajaepoaaB22
import Derived.Test.YtihlbbbajaepoaaB50
import Derived.Deep.DeepCutAuto
namespace Go.Proofs.Ytihlbbbajaepoaa.fnExactRedexPlaces
open Go.ChangeShapes Go.WideShapes Go.ChangeAt Go.RowKit Go.Deep
set_option linter.unusedVariables false
theorem readable_FnExactRedexPlaces : ∀ t ∈ (#[24] : Array TypeId).toList, Try.prog.readableRec t = true ∧ t < Try.prog.types.size := by
 intro t ht
 simp at ht
 subst ht
 all_goals exact ⟨by kernel_rfl, of_decide_eq_true (by kernel_rfl)⟩
theorem laid : laidOutB Try.prog = true := by kernel_rfl
set_option maxRecDepth 100000 in
set_option maxHeartbeats 4000000 in
/-- The walk. -/
theorem walk (t : Tm) (w : World) (vt : Value) (ht : TmIn w 0 t vt) : Calls Try.prog 4 #[vt] w fun e w' => e = .returned (.bool true) ∧ Below w.heap.size w w' := by
 obtain ⟨st, rfl, ht⟩ := ht
 obtain ⟨ta, tc, rfl⟩ := ht.form
 have HSt := tuck ht
 clear ht
 have HSZt : Hid (∀ (w : World), SlIn w 0 t.kids (.slice ta t.kids.length tc) → Calls Try.prog 8 #[.agg #[.int .i64 t.kind, .int .i64 t.num, (.slice ta t.kids.length tc)], .int .i64 1048576] w (SzPost w (szV t.kids 1048576))) := fun w h => szT_any t 1048576 w _ (by omega) (by omega) ⟨_, rfl, h⟩
 by_cases hszt : (sizes t.kids : Int) ≤ 1048576
 rotate_left
 ·rw [szV_not (by omega)] at HSZt
  clear hszt
  go_enter Try.func4, Try.ntmps4
  go_wp2_with fail
  refine (HSZt.out _ (HSt.out.below (below1 _ _))).mono ?_
  rintro e w1 ⟨rfl, hb⟩
  have HXt := tuck ((BoxAt.new w t.kind t.num (.slice ta t.kids.length tc) 24).below hb)
  have HB : Hid (Bel w w1) := tuck ⟨bAfter (below1 _ _) hb⟩
  clear hb
  obtain ⟨zt, c0t, c1t, c2t⟩ := HXt.out
  go_wp2_with fail
  go_ret
  exact ⟨rfl, HB.out.be⟩
 rw [szV_of (by omega)] at HSZt
 obtain ⟨left1, hleft1⟩ : ∃ left : Int, left = 1048576 - (sizes t.kids : Int) := ⟨_, rfl⟩
 have hl1a : (0 : Int) ≤ left1 := by omega
 have hl1b : left1 ≤ 1048576 := by omega
 rw [← hleft1] at HSZt
 obtain ⟨R0, hR0⟩ : ∃ R : List ((Int → Int) × Nat), R = placesP true t := ⟨_, rfl⟩
 have HSP : Hid (∀ (w : World) (vt : Value), TmIn w 0 t vt → Calls Try.prog 17 #[vt] w (fun e w' => Below w.heap.size w w' ∧ ∃ (a0 : Option Addr) (c0 : Nat), e = .returned (.slice a0 R0.length c0) ∧ RowP w.heap.size R0 (.slice a0 R0.length c0) w')) := fun w vt ht => by subst hR0; exact (redexPlacesS_any t w vt ht).mono fun _ _ h => h.law
 have HIM : Hid (∀ (w : World) (vt : Value), TmIn w 0 t vt → Calls Try.prog 18 #[vt] w (fun e w' => Below w.heap.size w w' ∧ ∃ (a0 : Option Addr) (c0 : Nat), e = .returned (.slice a0 R0.length c0) ∧ RowQ (fun _ => False) w.heap.size R0 (.slice a0 R0.length c0) w')) := fun w vt ht => by subst hR0; exact (redexPlacesI_any t w vt ht).mono fun _ _ h => h.law
 have hszR0 : tot R0 ≤ 1000000 := by subst hR0; exact (placesP_small true t).1
 have HLR0 := tuck (show R0.length ≤ 1048576 ∧ ∀ x ∈ R0, x.2 ≤ 1048576 by subst hR0; exact (placesP_small true t).2)
 clear hR0
 have HTOt : Hid (∀ (w : World), SlIn w 0 t.kids (.slice ta t.kids.length tc) → Calls Try.prog 10 #[.agg #[.int .i64 t.kind, .int .i64 t.num, (.slice ta t.kids.length tc)]] w fun e w' => Below w.heap.size w w' ∧ ∃ a c F, e = .returned (.agg #[.int .i64 t.kind, .int .i64 t.num, .slice a t.kids.length c]) ∧ SlOwn w' t.kids (.slice a t.kids.length c) F ∧ F.Nodup ∧ ∀ g ∈ F, w.heap.size ≤ g ∧ g < w'.heap.size) := fun w h => toO_made t w _ (by omega) ⟨_, rfl, h⟩
 have HEQt : Hid (∀ (w : World) (v1 v2 : Value), TmIn w 0 t v1 → TmIn w 0 t v2 → Calls Try.prog 13 #[v1, v2] w (EqPost w true)) := fun w v1 v2 h1 h2 => by have := eqT_any t t w v1 v2 h1 h2; rwa [same_self] at this
 have HEQR0 : Hid (∀ (w : World) (B1 B2 : Nat) (v1 v2 : Value), RowP B1 R0 v1 w → RowP B2 R0 v2 w → Calls Try.prog 12 #[v1, v2] w (EqPost w true)) := tuck fun w B1 B2 v1 v2 h1 h2 => eqIntSS_any R0 B1 B2 w v1 v2 HLR0.out.1 HLR0.out.2 h1 h2
 have hkt : (0 : Int) ≤ 1 ∧ (1 : Int) + 2 * (sizes t.kids : Int) ≤ 4611686018427387904 := by omega
 have HKt := tuck hkt
 have hkend : ¬ ((1 : Int) + 2 * (sizes t.kids : Int)) < 0 := by omega
 have hm0 : (0 : Int) ≤ 1 ∧ (1 : Int) + (tot R0 : Int) ≤ 4611686018427387904 := by omega
 have HM0 := tuck hm0
 have hmn0 : ¬ ((1 : Int) + (tot R0 : Int)) < 0 := by omega
 clear hszR0 hszt hleft1 hl1b hkt hm0
 go_enter Try.func4, Try.ntmps4
 go_wp2_with fail
 refine (HSZt.out _ (HSt.out.below (below1 _ _))).mono ?_
 rintro e w1 ⟨rfl, hb⟩
 have HXt := tuck ((BoxAt.new w t.kind t.num (.slice ta t.kids.length tc) 24).below hb)
 have HB : Hid (Bel w w1) := tuck ⟨bAfter (below1 _ _) hb⟩
 clear hb
 obtain ⟨zt, c0t, c1t, c2t⟩ := HXt.out
 go_wp2_with fail
 refine (HTOt.out _ (HSt.out.below HB.out.be)).mono ?_
 rintro e wc8t ⟨hb, u8ta, u8tc, FUt, rfl, hsx, hnx, hFx⟩
 have H8t := tuck (hsx.sl (B := 0) (fun _ _ => Nat.zero_le _))
 replace HXt := tuck (HXt.out.below hb)
 replace HB := tuck (HB.out.below hb)
 clear hb hsx hnx hFx
 clear zt c0t c1t c2t
 obtain ⟨zt, c0t, c1t, c2t⟩ := HXt.out
 go_wp2_with fail
 refine (HSP.out _ _ ⟨_, rfl, H8t.out⟩).mono ?_
 rintro e w8 ⟨hb, u8a0, u8c0, rfl, hw0⟩
 have H8W0 := tuck (hw0.base (b' := 0) (Nat.zero_le _))
 replace HXt := tuck (HXt.out.below hb)
 replace HB := tuck (HB.out.below hb)
 clear hb hw0
 clear H8t
 clear zt c0t c1t c2t
 obtain ⟨zt, c0t, c1t, c2t⟩ := HXt.out
 go_wp2_with fail
 clear zt c0t c1t c2t
 have HBW : Hid (Bel w8 w8) := tuck ⟨Below.refl _ _⟩
 have HL1t : Hid (w.heap.size < w8.heap.size) := tuck HXt.out.1
 have HL0 : Hid (w.heap.size ≤ w8.heap.size) := tuck HB.out.be.size
 refine (HTOt.out _ (HSt.out.below HB.out.be)).mono ?_
 rintro e wxt ⟨hb, uxta, uxtc, Ft, rfl, hsx, hnx, hFx⟩
 have HOt := tuck (OwnB.of hsx hnx hFx)
 have HNt := tuck hb.size
 replace HXt := tuck (HXt.out.below hb)
 replace HB := tuck (HB.out.below hb)
 replace HBW := tuck (HBW.out.below hb)
 clear hb hsx hnx hFx
 obtain ⟨zt, c0t, c1t, c2t⟩ := HXt.out
 go_wp2_with fail
 clear zt c0t c1t c2t
 have hbx := below1 wxt (.cells #[.int .i64 t.kind, .int .i64 t.num, .slice uxta t.kids.length uxtc] 30)
 have VXt := tuck (VarAt.new wxt t.kind t.num (.slice uxta t.kids.length uxtc))
 have hzz : wxt.heap.size < (wxt.alloc (.cells #[.int .i64 t.kind, .int .i64 t.num, .slice uxta t.kids.length uxtc] 30)).heap.size := by simp
 replace HXt := tuck (HXt.out.below hbx)
 replace HB := tuck (HB.out.below hbx)
 replace HBW := tuck (HBW.out.below hbx)
 replace HOt := tuck (HOt.out.below hbx)
 clear hbx
 generalize wxt.alloc (.cells #[.int .i64 t.kind, .int .i64 t.num, .slice uxta t.kids.length uxtc] 30) = WXt at *
 generalize wxt.heap.size = gxt at *
 have HZXt := tuck hzz
 clear hzz
 refine (HIM.out _ _ ⟨_, rfl, HOt.out.sl⟩).mono ?_
 rintro e wG ⟨hb, Ga0, Gc0, rfl, hw0⟩
 have HOG0 := tuck hw0
 have hnd := trivial
 have hF := trivial
 have HNG := tuck hb.size
 replace HXt := tuck (HXt.out.below hb)
 replace HB := tuck (HB.out.below hb)
 replace HBW := tuck (HBW.out.below hb)
 replace HOt := tuck (HOt.out.below hb)
 replace VXt := tuck (VXt.out.below hb)
 clear hb hnd hF hw0
 obtain ⟨zt, c0t, c1t, c2t⟩ := HXt.out
 obtain ⟨zxt, x0t, x1t, x2t, xft⟩ := VXt.out.facts
 go_wp2_with fail
 clear zxt x0t x1t x2t xft
 clear zt c0t c1t c2t
 refine (HEQR0.out _ _ _ _ _ (HOG0.out.rowP) (H8W0.out.below HBW.out.be)).mono ?_
 rintro e wE0 ⟨rfl, hb⟩
 replace HXt := tuck (HXt.out.below hb)
 replace HB := tuck (HB.out.below hb)
 replace HBW := tuck (HBW.out.below hb)
 replace HOt := tuck (HOt.out.below hb)
 replace VXt := tuck (VXt.out.below hb)
 replace HOG0 := tuck (HOG0.out.below hb)
 clear hb
 obtain ⟨zt, c0t, c1t, c2t⟩ := HXt.out
 obtain ⟨zxt, x0t, x1t, x2t, xft⟩ := VXt.out.facts
 go_wp2_with fail
 clear zxt x0t x1t x2t xft
 clear zt c0t c1t c2t
 go_region_held3 (fun w' => Below wE0.heap.size wE0 w' ∧ (w.heap.size < w'.heap.size ∧ w'.cell? ⟨w.heap.size, 0, none⟩ = some (.int .i64 t.kind) ∧ w'.cell? ⟨w.heap.size, 1, none⟩ = some (.int .i64 t.num) ∧ w'.cell? ⟨w.heap.size, 2, none⟩ = some (.slice ta t.kids.length tc)) ∧ (gxt < w'.heap.size ∧ w'.cell? ⟨gxt, 0, none⟩ = some (.int .i64 t.kind) ∧ w'.cell? ⟨gxt, 1, none⟩ = some (.int .i64 t.num) ∧ w'.cell? ⟨gxt, 2, none⟩ = some (.slice uxta t.kids.length uxtc))) (first | exact ⟨(Below.refl _ _).drew, HXt.out, VXt.out.four⟩ | exact holdT (by assumption) hb71 | exact holdT (by assumption) hb72) (first | (go_at_call 10; refine (HTOt.out _ (HSt.out.below (bAfter HB.out.be (hold_be (by assumption))))).mono ?_; rintro e w71t ⟨hb71, qa, qc, F71, rfl, hs71, -, -⟩) | (go_at_call 13; refine (HEQt.out _ _ _ ⟨_, rfl, HOt.out.sl.below (hold_be (by assumption))⟩ ⟨_, rfl, hs71.sl (fun _ _ => Nat.zero_le _)⟩).mono ?_; rintro e w72t ⟨rfl, hb72⟩))
 have hb : Below wE0.heap.size wE0 w72t := hold_be (by assumption)
 replace HXt := tuck (HXt.out.below hb)
 replace HB := tuck (HB.out.below hb)
 replace HBW := tuck (HBW.out.below hb)
 replace HOt := tuck (HOt.out.below hb)
 replace VXt := tuck (VXt.out.below hb)
 replace HOG0 := tuck (HOG0.out.below hb)
 clear hb hb71 hb72 hs71
 obtain ⟨zt, c0t, c1t, c2t⟩ := HXt.out
 obtain ⟨zxt, x0t, x1t, x2t, xft⟩ := VXt.out.facts
 go_wp2_with fail
 clear zxt x0t x1t x2t xft
 clear zt c0t c1t c2t
 have geHOt := HOt.out.ge
 have ltHOt := HOt.out.lt
 refine (markT_any t Ft (1) _ _ HKt.out.1 HKt.out.2 HOt.out.nd HOt.out.lts HOt.out.own).mono ?_
 rintro e wmt ⟨rfl, hown, hbut⟩
 have e0 := HL1t.out; have e1 := HL0.out; have e2 := HNt.out; have e3 := HZXt.out; have e4 := HNG.out
 skip
 replace HXt := tuck (HXt.out.but hbut (fun hf => by have h1 := geHOt _ hf; have h2 := ltHOt _ hf; omega))
 replace HB := tuck (HB.out.but hbut (fun g hf => by have h1 := geHOt _ hf; have h2 := ltHOt _ hf; omega))
 replace HBW := tuck (HBW.out.but hbut (fun g hf => by have h1 := geHOt _ hf; have h2 := ltHOt _ hf; omega))
 replace HOG0 := tuck (HOG0.out.but hbut (fun g hf => by have h1 := geHOt _ hf; have h2 := ltHOt _ hf; omega))
 clear hbut hown geHOt ltHOt
 clear e0 e1 e2 e3 e4
 clear VXt
 clear HOt
 obtain ⟨zt, c0t, c1t, c2t⟩ := HXt.out
 go_wp2_with fail
 clear zt c0t c1t c2t
 refine (HEQR0.out _ _ _ _ _ (HOG0.out.rowP) (H8W0.out.below HBW.out.be)).mono ?_
 rintro e wK0 ⟨rfl, hb⟩
 replace HXt := tuck (HXt.out.below hb)
 replace HB := tuck (HB.out.below hb)
 replace HBW := tuck (HBW.out.below hb)
 replace HOG0 := tuck (HOG0.out.below hb)
 clear hb
 obtain ⟨zt, c0t, c1t, c2t⟩ := HXt.out
 go_wp2_with fail
 clear zt c0t c1t c2t
 refine (markIntSS_any R0 _ (1) _ _ HLR0.out.1 HLR0.out.2 HM0.out.1 HM0.out.2 HOG0.out).mono ?_
 rintro e wn0 ⟨rfl, hown, FZ, hbut, hff⟩
 have e0 := HL1t.out; have e1 := HL0.out; have e2 := HNt.out; have e3 := HZXt.out; have e4 := HNG.out
 skip
 replace HXt := tuck (HXt.out.but hbut (fun hf => by have h1 := hff _ hf; omega))
 replace HB := tuck (HB.out.but hbut (fun g hf => by have h1 := hff _ hf; omega))
 replace HBW := tuck (HBW.out.but hbut (fun g hf => by have h1 := hff _ hf; omega))
 replace HOG0 := tuck hown
 clear hbut hff hown
 clear e0 e1 e2 e3 e4
 obtain ⟨zt, c0t, c1t, c2t⟩ := HXt.out
 go_wp2_with fail
 clear zt c0t c1t c2t
 refine (heldIntSS_any R0 _ (1) _ _ HLR0.out.1 HM0.out.1 HM0.out.2 HOG0.out).mono ?_
 rintro e wh0 ⟨rfl, hb⟩
 replace HXt := tuck (HXt.out.below hb)
 replace HB := tuck (HB.out.below hb)
 replace HBW := tuck (HBW.out.below hb)
 replace HOG0 := tuck (HOG0.out.below hb)
 clear hb
 obtain ⟨zt, c0t, c1t, c2t⟩ := HXt.out
 go_wp2_with fail
 clear zt c0t c1t c2t
 obtain ⟨zt, c0t, c1t, c2t⟩ := HXt.out
 refine (HTOt.out _ (HSt.out.below HB.out.be)).mono ?_
 rintro e wcHt ⟨hb, uHta, uHtc, FUt, rfl, hsx, hnx, hFx⟩
 have HHt := tuck (hsx.sl (B := 0) (fun _ _ => Nat.zero_le _))
 replace HXt := tuck (HXt.out.below hb)
 replace HB := tuck (HB.out.below hb)
 replace HBW := tuck (HBW.out.below hb)
 replace HOG0 := tuck (HOG0.out.below hb)
 clear hb hsx hnx hFx
 clear zt c0t c1t c2t
 obtain ⟨zt, c0t, c1t, c2t⟩ := HXt.out
 go_wp2_with fail
 refine (HIM.out _ _ ⟨_, rfl, HHt.out⟩).mono ?_
 rintro e wH ⟨hb, uHa0, uHc0, rfl, hw0⟩
 have HHW0 := tuck (hw0.rowP.base (b' := 0) (Nat.zero_le _))
 replace HXt := tuck (HXt.out.below hb)
 replace HB := tuck (HB.out.below hb)
 replace HBW := tuck (HBW.out.below hb)
 replace HOG0 := tuck (HOG0.out.below hb)
 clear hb hw0
 clear HHt
 clear zt c0t c1t c2t
 obtain ⟨zt, c0t, c1t, c2t⟩ := HXt.out
 go_wp2_with fail
 clear zt c0t c1t c2t
 refine (HEQR0.out _ _ _ _ _ (HHW0.out) (H8W0.out.below HBW.out.be)).mono ?_
 rintro e wF0 ⟨rfl, hb⟩
 replace HXt := tuck (HXt.out.below hb)
 replace HB := tuck (HB.out.below hb)
 replace HBW := tuck (HBW.out.below hb)
 replace HOG0 := tuck (HOG0.out.below hb)
 replace HHW0 := tuck (HHW0.out.below hb)
 clear hb
 obtain ⟨zt, c0t, c1t, c2t⟩ := HXt.out
 go_wp2_with fail
 clear zt c0t c1t c2t
 refine (heldIntSS_any R0 _ (1) _ _ HLR0.out.1 HM0.out.1 HM0.out.2 HOG0.out).mono ?_
 rintro e wi0 ⟨rfl, hb⟩
 replace HXt := tuck (HXt.out.below hb)
 replace HB := tuck (HB.out.below hb)
 replace HBW := tuck (HBW.out.below hb)
 replace HOG0 := tuck (HOG0.out.below hb)
 clear hb
 go_wp2_with fail
 go_ret
 exact ⟨rfl, HB.out.be⟩
set_option maxRecDepth 100000 in
theorem lifted (os : Os) (started : os.Started) (H : Type) (enc : TypeId × Value → H) :
  ReturnsInHanded {} Try.checked os 4 .any (Rows.fnExactRedexPlacesSpec.pre6 enc Try.prog Try.f4 Rows.fnExactRedexPlacesRow.domain false) (Rows.fnExactRedexPlacesSpec.post enc Try.prog Try.f4 false true false false) := by
 refine returnsInHanded_of_change (C := Try.checked) own started (by kernel_rfl) Try.func4
  (ChangeSpec.witness6 (enc := enc) (C := Try.checked) false ⟨#[], #[.agg #[.int .i64 0, .int .i64 0, .slice none 0 0]], []⟩ 8 (by kernel_rfl) (by kernel_rfl) (by kernel_rfl) (by kernel_rfl)) ?_
 intro W base args ds gs before hval0 hW hcnd _
 have hval : ∀ (j : Nat) t v, Try.f4.params[j]? = some t → args[j]? = some v → Value.okWide Try.prog W .any base t v := hval0
 have hW' := hW
 obtain ⟨p, q, hA0, hV, rfl, hfz, hnd⟩ := hW
 have hA : DataW.TrodAll enc Try.prog W 0 (fun _ => true) true Try.f4.params.toList args.toList ds p := hA0
 rw [Try.params4] at hA hval
 obtain ⟨v0, vs0, d0, ds0, p0, q0, hargs, rfl, rfl, h0, r0⟩ := trodAll_cons hA
 obtain ⟨rfl, rfl, rfl⟩ := trodAll_nil r0
 obtain rfl : args = #[v0] := by cases args; simp_all
 obtain ⟨t0, ht0⟩ := open_term (hval 0 24 v0 rfl rfl) h0
 refine (walk t0 W v0 ht0).mono fun e W' ⟨he, hb⟩ => ?_
 subst he
 exact ⟨_, rfl, law_post rfl rfl (fun gs h => by subst h; rfl) (by rw [Try.params4]; exact readable_FnExactRedexPlaces) laid hW' hb⟩
theorem over : Rows.fnExactRedexPlacesRow.holds Try.pinned (OpenSpec.ofChange Rows.fnExactRedexPlacesSpec) :=
 OpenClaim.holds_of_wide 4 Try.f4 rfl rfl rfl rfl rfl rfl rfl ⟨rfl, rfl, rfl, rfl, rfl⟩ rfl rfl rfl rfl rfl (by kernel_rfl) Try.func4 (by kernel_rfl)
  (of_decide_eq_true (by kernel_rfl)) (by unfold Func.isWrapper; first | (rw [if_pos (by decide +kernel)]; kernel_rfl) | (rw [if_neg (by decide +kernel)]; exact ⟨rfl, rfl⟩))
  (fun os started H enc _ => lifted os started H enc)
theorem proved : Rows.FnExactRedexPlacesSaid :=
 over
end Go.Proofs.Ytihlbbbajaepoaa.fnExactRedexPlaces
