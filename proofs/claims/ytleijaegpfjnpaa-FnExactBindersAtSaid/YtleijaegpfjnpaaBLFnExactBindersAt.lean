/-
  The law FnExactBindersAt: for every term (no ring among its parts) and every list of numbers, BindersAt answers as its model and writes into no argument.
-/
import Derived.Test.YtleijaegpfjnpaaB03
import Derived.Test.YtleijaegpfjnpaaB21
import Derived.Test.YtleijaegpfjnpaaB25
import Derived.Test.YtleijaegpfjnpaaB33
import Derived.Test.YtleijaegpfjnpaaB42
import Derived.Test.YtleijaegpfjnpaaB49
import Derived.Deep.DeepCutAuto
namespace Go.Proofs.Ytleijaegpfjnpaa.fnExactBindersAt
open Go.ChangeShapes Go.WideShapes Go.ChangeAt Go.RowKit Go.Deep
set_option linter.unusedVariables false
theorem readable_FnExactBindersAt : ∀ t ∈ (#[24, 25] : Array TypeId).toList, Try.prog.readableRec t = true ∧ t < Try.prog.types.size := by
 intro t ht
 simp at ht
 rcases ht with rfl | rfl
 all_goals exact ⟨by kernel_rfl, of_decide_eq_true (by kernel_rfl)⟩
theorem laid : laidOutB Try.prog = true := by kernel_rfl
set_option maxRecDepth 100000 in
set_option maxHeartbeats 4000000 in
/-- The walk. -/
theorem walk (t : Tm) (Np : Int → Int) (lenp : Nat) (w : World) (vt : Value) (vp : Value) (ht : TmIn w 0 t vt) (hp : Ints w 0 Np lenp vp) : Calls Try.prog 5 #[vt, vp] w fun e w' => e = .returned (.bool true) ∧ Below w.heap.size w w' := by
 obtain ⟨st, rfl, ht⟩ := ht
 obtain ⟨ta, tc, rfl⟩ := ht.form
 have HSt := tuck ht
 obtain ⟨pa, pc, rfl⟩ := hp.form
 have HSp := tuck hp
 clear ht hp
 by_cases hlenp : lenp ≤ 1048576
 rotate_left
 ·have hlbp : decide ((1048576 : Int) < (lenp : Int)) = true := by simp; omega
  clear hlenp
  go_enter Try.func5, Try.ntmps5
  go_wp2
  go_ret
  exact ⟨rfl, below1 _ _⟩
 have hlbp : decide ((1048576 : Int) < (lenp : Int)) = false := by simp; omega
 have HSZt : Hid (∀ (w : World), SlIn w 0 t.kids (.slice ta t.kids.length tc) → Calls Try.prog 9 #[.agg #[.int .i64 t.kind, .int .i64 t.num, (.slice ta t.kids.length tc)], .int .i64 1048576] w (SzPost w (szV t.kids 1048576))) := fun w h => szT_any t 1048576 w _ (by omega) (by omega) ⟨_, rfl, h⟩
 by_cases hszt : (sizes t.kids : Int) ≤ 1048576
 rotate_left
 ·rw [szV_not (by omega)] at HSZt
  clear hszt
  go_enter Try.func5, Try.ntmps5
  go_wp2_with fail
  refine (HSZt.out _ (HSt.out.below (below1 _ _))).mono ?_
  rintro e w1 ⟨rfl, hb⟩
  have HXt := tuck ((BoxAt.new w t.kind t.num (.slice ta t.kids.length tc) 24).below hb)
  have HB : Hid (Bel w w1) := tuck ⟨bAfter (below1 _ _) hb⟩
  clear hb
  obtain ⟨zt, c0t, c1t, c2t⟩ := HXt.out
  go_wp2_with fail
  go_ret
  exact ⟨rfl, HB.out.be⟩
 rw [szV_of (by omega)] at HSZt
 obtain ⟨left1, hleft1⟩ : ∃ left : Int, left = 1048576 - (sizes t.kids : Int) := ⟨_, rfl⟩
 have hl1a : (0 : Int) ≤ left1 := by omega
 have hl1b : left1 ≤ 1048576 := by omega
 rw [← hleft1] at HSZt
 obtain ⟨R0, hR0⟩ : ∃ R : Int, R = orNone (IsPlace t Np lenp) (bindersIn (wayP t Np lenp)) := ⟨_, rfl⟩
 obtain ⟨R1, hR1⟩ : ∃ R : Bool, R = tr (IsPlace t Np lenp) := ⟨_, rfl⟩
 have HSP : Hid (∀ (w : World) (vt : Value) (vp : Value), TmIn w 0 t vt → Ints w 0 Np lenp vp → Calls Try.prog 21 #[vt, vp] w (fun e w' => Below w.heap.size w w' ∧ e = .returned (.tuple #[.int .i64 R0, .bool R1]))) := fun w vt vp ht hp => by subst hR0; subst hR1; exact bindersS_any t Np lenp hlenp w vt vp ht hp
 have HIM : Hid (∀ (w : World) (vt : Value) (vp : Value), TmIn w 0 t vt → Ints w 0 Np lenp vp → Calls Try.prog 22 #[vt, vp] w (fun e w' => Below w.heap.size w w' ∧ e = .returned (.tuple #[.int .i64 R0, .bool R1]))) := fun w vt vp ht hp => by subst hR0; subst hR1; exact bindersI_any t Np lenp hlenp w vt vp ht hp
 clear hR0 hR1
 have HTOt : Hid (∀ (w : World), SlIn w 0 t.kids (.slice ta t.kids.length tc) → Calls Try.prog 11 #[.agg #[.int .i64 t.kind, .int .i64 t.num, (.slice ta t.kids.length tc)]] w fun e w' => Below w.heap.size w w' ∧ ∃ a c F, e = .returned (.agg #[.int .i64 t.kind, .int .i64 t.num, .slice a t.kids.length c]) ∧ SlOwn w' t.kids (.slice a t.kids.length c) F ∧ F.Nodup ∧ ∀ g ∈ F, w.heap.size ≤ g ∧ g < w'.heap.size) := fun w h => toO_made t w _ (by omega) ⟨_, rfl, h⟩
 have HEQt : Hid (∀ (w : World) (v1 v2 : Value), TmIn w 0 t v1 → TmIn w 0 t v2 → Calls Try.prog 14 #[v1, v2] w (EqPost w true)) := fun w v1 v2 h1 h2 => by have := eqT_any t t w v1 v2 h1 h2; rwa [same_self] at this
 have HTOp : Hid (∀ (w : World), Ints w 0 Np lenp (.slice pa lenp pc) → Calls Try.prog 12 #[(.slice pa lenp pc)] w (ToInts w Np lenp)) := fun w h => toInts_any Np lenp w _ hlenp h
 have HEQp : Hid (∀ (w : World) (v1 v2 : Value), Ints w 0 Np lenp v1 → Ints w 0 Np lenp v2 → Calls Try.prog 15 #[v1, v2] w (EqPost w true)) := fun w v1 v2 h1 h2 => eqInts_any Np lenp w v1 v2 hlenp h1 h2
 have hrr0 : (R0 != R0) = false := by simp
 have hrr1 : (R1 != R1) = false := by simp
 have hkt : (0 : Int) ≤ 1 ∧ (1 : Int) + 2 * (sizes t.kids : Int) ≤ 4611686018427387904 := by omega
 have HKt := tuck hkt
 have hkp : (0 : Int) ≤ (1 : Int) + 2 * (sizes t.kids : Int) ∧ (1 : Int) + 2 * (sizes t.kids : Int) + (lenp : Int) ≤ 4611686018427387904 := by omega
 have HKp := tuck hkp
 have hkend : ¬ ((1 : Int) + 2 * (sizes t.kids : Int) + (lenp : Int)) < 0 := by omega
 clear hszt hleft1 hl1b hkt hkp
 have HLENp := tuck hlenp
 clear hlenp
 go_enter Try.func5, Try.ntmps5
 go_wp2_with fail
 refine (HSZt.out _ (HSt.out.below (below1 _ _))).mono ?_
 rintro e w1 ⟨rfl, hb⟩
 have HXt := tuck ((BoxAt.new w t.kind t.num (.slice ta t.kids.length tc) 24).below hb)
 have HB : Hid (Bel w w1) := tuck ⟨bAfter (below1 _ _) hb⟩
 clear hb
 obtain ⟨zt, c0t, c1t, c2t⟩ := HXt.out
 go_wp2_with fail
 refine (HTOt.out _ (HSt.out.below HB.out.be)).mono ?_
 rintro e wc8t ⟨hb, u8ta, u8tc, FUt, rfl, hsx, hnx, hFx⟩
 have H8t := tuck (hsx.sl (B := 0) (fun _ _ => Nat.zero_le _))
 replace HXt := tuck (HXt.out.below hb)
 replace HB := tuck (HB.out.below hb)
 clear hb hsx hnx hFx
 clear zt c0t c1t c2t
 obtain ⟨zt, c0t, c1t, c2t⟩ := HXt.out
 go_wp2_with fail
 refine (HTOp.out _ (HSp.out.below HB.out.be)).mono ?_
 rintro e wc8p ⟨hb, v, rfl, hio⟩
 obtain rfl := hio.form
 have H8p := tuck (hio.ints.mono (Nat.zero_le _))
 replace HXt := tuck (HXt.out.below hb)
 replace HB := tuck (HB.out.below hb)
 replace H8t := tuck (H8t.out.below hb)
 clear hb hio
 clear zt c0t c1t c2t
 obtain ⟨zt, c0t, c1t, c2t⟩ := HXt.out
 go_wp2_with fail
 refine (HSP.out _ _ _ ⟨_, rfl, H8t.out⟩ H8p.out).mono ?_
 rintro e w8 ⟨hb, rfl⟩
 replace HXt := tuck (HXt.out.below hb)
 replace HB := tuck (HB.out.below hb)
 clear hb 
 clear H8t H8p
 clear zt c0t c1t c2t
 obtain ⟨zt, c0t, c1t, c2t⟩ := HXt.out
 go_wp2_with fail
 clear zt c0t c1t c2t
 have HBW : Hid (Bel w8 w8) := tuck ⟨Below.refl _ _⟩
 have HL1t : Hid (w.heap.size < w8.heap.size) := tuck HXt.out.1
 have HL0 : Hid (w.heap.size ≤ w8.heap.size) := tuck HB.out.be.size
 refine (HTOt.out _ (HSt.out.below HB.out.be)).mono ?_
 rintro e wxt ⟨hb, uxta, uxtc, Ft, rfl, hsx, hnx, hFx⟩
 have HOt := tuck (OwnB.of hsx hnx hFx)
 have HNt := tuck hb.size
 replace HXt := tuck (HXt.out.below hb)
 replace HB := tuck (HB.out.below hb)
 replace HBW := tuck (HBW.out.below hb)
 clear hb hsx hnx hFx
 obtain ⟨zt, c0t, c1t, c2t⟩ := HXt.out
 go_wp2_with fail
 clear zt c0t c1t c2t
 have hbx := below1 wxt (.cells #[.int .i64 t.kind, .int .i64 t.num, .slice uxta t.kids.length uxtc] 29)
 have VXt := tuck (VarAt.new wxt t.kind t.num (.slice uxta t.kids.length uxtc))
 have hzz : wxt.heap.size < (wxt.alloc (.cells #[.int .i64 t.kind, .int .i64 t.num, .slice uxta t.kids.length uxtc] 29)).heap.size := by simp
 replace HXt := tuck (HXt.out.below hbx)
 replace HB := tuck (HB.out.below hbx)
 replace HBW := tuck (HBW.out.below hbx)
 replace HOt := tuck (HOt.out.below hbx)
 clear hbx
 generalize wxt.alloc (.cells #[.int .i64 t.kind, .int .i64 t.num, .slice uxta t.kids.length uxtc] 29) = WXt at *
 generalize wxt.heap.size = gxt at *
 have HZXt := tuck hzz
 clear hzz
 refine (HTOp.out _ (HSp.out.below HB.out.be)).mono ?_
 rintro e wxp ⟨hb, v, rfl, hio⟩
 obtain rfl := hio.form
 have HOp := tuck hio
 have HLp := tuck hio.lt
 have HNp := tuck hb.size
 replace HXt := tuck (HXt.out.below hb)
 replace HB := tuck (HB.out.below hb)
 replace HBW := tuck (HBW.out.below hb)
 replace HOt := tuck (HOt.out.below hb)
 replace VXt := tuck (VXt.out.below hb)
 clear hb hio
 obtain ⟨zt, c0t, c1t, c2t⟩ := HXt.out
 obtain ⟨zxt, x0t, x1t, x2t, xft⟩ := VXt.out.facts
 go_wp2_with fail
 clear zxt x0t x1t x2t xft
 clear zt c0t c1t c2t
 refine (HIM.out _ _ _ ⟨_, rfl, HOt.out.sl⟩ (HOp.out.ints.mono (Nat.zero_le _))).mono ?_
 rintro e wG ⟨hb, rfl⟩
 replace HXt := tuck (HXt.out.below hb)
 replace HB := tuck (HB.out.below hb)
 replace HBW := tuck (HBW.out.below hb)
 replace HOt := tuck (HOt.out.below hb)
 replace VXt := tuck (VXt.out.below hb)
 replace HOp := tuck (HOp.out.below hb)
 clear hb
 obtain ⟨zt, c0t, c1t, c2t⟩ := HXt.out
 obtain ⟨zxt, x0t, x1t, x2t, xft⟩ := VXt.out.facts
 go_wp2_with fail
 clear zxt x0t x1t x2t xft
 clear zt c0t c1t c2t
 go_region_held3 (fun w' => Below wG.heap.size wG w' ∧ (w.heap.size < w'.heap.size ∧ w'.cell? ⟨w.heap.size, 0, none⟩ = some (.int .i64 t.kind) ∧ w'.cell? ⟨w.heap.size, 1, none⟩ = some (.int .i64 t.num) ∧ w'.cell? ⟨w.heap.size, 2, none⟩ = some (.slice ta t.kids.length tc)) ∧ (gxt < w'.heap.size ∧ w'.cell? ⟨gxt, 0, none⟩ = some (.int .i64 t.kind) ∧ w'.cell? ⟨gxt, 1, none⟩ = some (.int .i64 t.num) ∧ w'.cell? ⟨gxt, 2, none⟩ = some (.slice uxta t.kids.length uxtc))) (first | exact ⟨(Below.refl _ _).drew, HXt.out, VXt.out.four⟩ | exact holdT (by assumption) hb71 | exact holdT (by assumption) hb72) (first | (go_at_call 11; refine (HTOt.out _ (HSt.out.below (bAfter HB.out.be (hold_be (by assumption))))).mono ?_; rintro e w71t ⟨hb71, qa, qc, F71, rfl, hs71, -, -⟩) | (go_at_call 14; refine (HEQt.out _ _ _ ⟨_, rfl, HOt.out.sl.below (hold_be (by assumption))⟩ ⟨_, rfl, hs71.sl (fun _ _ => Nat.zero_le _)⟩).mono ?_; rintro e w72t ⟨rfl, hb72⟩))
 have hb : Below wG.heap.size wG w72t := hold_be (by assumption)
 replace HXt := tuck (HXt.out.below hb)
 replace HB := tuck (HB.out.below hb)
 replace HBW := tuck (HBW.out.below hb)
 replace HOt := tuck (HOt.out.below hb)
 replace VXt := tuck (VXt.out.below hb)
 replace HOp := tuck (HOp.out.below hb)
 clear hb hb71 hb72 hs71
 obtain ⟨zt, c0t, c1t, c2t⟩ := HXt.out
 obtain ⟨zxt, x0t, x1t, x2t, xft⟩ := VXt.out.facts
 go_wp2_with fail
 clear zxt x0t x1t x2t xft
 clear zt c0t c1t c2t
 refine (HTOp.out _ (HSp.out.below HB.out.be)).mono ?_
 rintro e w73p ⟨hb, v, rfl, hio⟩
 obtain rfl := hio.form
 have Hyp := tuck (hio.ints.mono (Nat.zero_le _))
 replace HXt := tuck (HXt.out.below hb)
 replace HB := tuck (HB.out.below hb)
 replace HBW := tuck (HBW.out.below hb)
 replace HOt := tuck (HOt.out.below hb)
 replace VXt := tuck (VXt.out.below hb)
 replace HOp := tuck (HOp.out.below hb)
 clear hb hio
 obtain ⟨zt, c0t, c1t, c2t⟩ := HXt.out
 obtain ⟨zxt, x0t, x1t, x2t, xft⟩ := VXt.out.facts
 go_wp2_with fail
 clear zxt x0t x1t x2t xft
 clear zt c0t c1t c2t
 refine (HEQp.out _ _ _ (HOp.out.ints.mono (Nat.zero_le _)) Hyp.out).mono ?_
 rintro e w74p ⟨rfl, hb⟩
 replace HXt := tuck (HXt.out.below hb)
 replace HB := tuck (HB.out.below hb)
 replace HBW := tuck (HBW.out.below hb)
 replace HOt := tuck (HOt.out.below hb)
 replace VXt := tuck (VXt.out.below hb)
 replace HOp := tuck (HOp.out.below hb)
 clear hb Hyp
 obtain ⟨zt, c0t, c1t, c2t⟩ := HXt.out
 obtain ⟨zxt, x0t, x1t, x2t, xft⟩ := VXt.out.facts
 go_wp2_with fail
 clear zxt x0t x1t x2t xft
 clear zt c0t c1t c2t
 go_ret
 exact ⟨rfl, HB.out.be⟩
set_option maxRecDepth 100000 in
theorem lifted (os : Os) (started : os.Started) (H : Type) (enc : TypeId × Value → H) :
  ReturnsInHanded {} Try.checked os 5 .any (Rows.fnExactBindersAtSpec.pre6 enc Try.prog Try.f5 Rows.fnExactBindersAtRow.domain false) (Rows.fnExactBindersAtSpec.post enc Try.prog Try.f5 false true false false) := by
 refine returnsInHanded_of_change (C := Try.checked) own started (by kernel_rfl) Try.func5
  (ChangeSpec.witness6 (enc := enc) (C := Try.checked) false ⟨#[], #[.agg #[.int .i64 0, .int .i64 0, .slice none 0 0], .slice none 0 0], []⟩ 8 (by kernel_rfl) (by kernel_rfl) (by kernel_rfl) (by kernel_rfl)) ?_
 intro W base args ds gs before hval0 hW hcnd _
 have hval : ∀ (j : Nat) t v, Try.f5.params[j]? = some t → args[j]? = some v → Value.okWide Try.prog W .any base t v := hval0
 have hW' := hW
 obtain ⟨p, q, hA0, hV, rfl, hfz, hnd⟩ := hW
 have hA : DataW.TrodAll enc Try.prog W 0 (fun _ => true) true Try.f5.params.toList args.toList ds p := hA0
 rw [Try.params5] at hA hval
 obtain ⟨v0, vs0, d0, ds0, p0, q0, hargs, rfl, rfl, h0, r0⟩ := trodAll_cons hA
 obtain ⟨v1, vs1, d1, ds1, p1, q1, rfl, rfl, rfl, h1, r1⟩ := trodAll_cons r0
 obtain ⟨rfl, rfl, rfl⟩ := trodAll_nil r1
 obtain rfl : args = #[v0, v1] := by cases args; simp_all
 obtain ⟨t0, ht0⟩ := open_term (hval 0 24 v0 rfl rfl) h0
 obtain ⟨N1, len1, hi1⟩ := open_intsl (hval 1 25 v1 rfl rfl) h1
 refine (walk t0 N1 len1 W v0 v1 ht0 hi1).mono fun e W' ⟨he, hb⟩ => ?_
 subst he
 exact ⟨_, rfl, law_post rfl rfl (fun gs h => by subst h; rfl) (by rw [Try.params5]; exact readable_FnExactBindersAt) laid hW' hb⟩
theorem over : Rows.fnExactBindersAtRow.holds Try.pinned (OpenSpec.ofChange Rows.fnExactBindersAtSpec) :=
 OpenClaim.holds_of_wide 5 Try.f5 rfl rfl rfl rfl rfl rfl rfl ⟨rfl, rfl, rfl, rfl, rfl⟩ rfl rfl rfl rfl rfl (by kernel_rfl) Try.func5 (by kernel_rfl)
  (of_decide_eq_true (by kernel_rfl)) (by unfold Func.isWrapper; first | (rw [if_pos (by decide +kernel)]; kernel_rfl) | (rw [if_neg (by decide +kernel)]; exact ⟨rfl, rfl⟩))
  (fun os started H enc _ => lifted os started H enc)
theorem proved : Rows.FnExactBindersAtSaid :=
 over
end Go.Proofs.Ytleijaegpfjnpaa.fnExactBindersAt
