/-
  The law FnExactContractAt: for every term (no ring among its parts) and every list of numbers, ContractAt answers as its model, writes into no argument, and its answer is memory of its own.
-/
import Derived.Test.YtleijaegpfjnpaaGreatC02
import Derived.Test.YtleijaegpfjnpaaGreatC21
import Derived.Test.YtleijaegpfjnpaaGreatC25
import Derived.Test.YtleijaegpfjnpaaGreatC33
import Derived.Test.YtleijaegpfjnpaaGreatC53
import Derived.Test.YtleijaegpfjnpaaGreatC54
import Derived.Deep.DeepCutAuto
namespace Go.Proofs.YtleijaegpfjnpaaGreat.fnExactContractAt
open Go.ChangeShapes Go.WideShapes Go.ChangeAt Go.RowKit Go.Deep
set_option linter.unusedVariables false
theorem readable_FnExactContractAt : ∀ t ∈ (#[24, 25] : Array TypeId).toList, Tryz.prog.readableRec t = true ∧ t < Tryz.prog.types.size := by
 intro t ht
 simp at ht
 rcases ht with rfl | rfl
 all_goals exact ⟨by kernel_rfl, of_decide_eq_true (by kernel_rfl)⟩
theorem laid : laidOutB Tryz.prog = true := by kernel_rfl
set_option maxRecDepth 100000 in
set_option maxHeartbeats 4000000 in
/-- The walk. -/
theorem walk (t : Tm) (Np : Int → Int) (lenp : Nat) (w : World) (vt : Value) (vp : Value) (ht : TmIn w 0 t vt) (hp : Ints w 0 Np lenp vp) : Calls Tryz.prog 3 #[vt, vp] w fun e w' => e = .returned (.bool true) ∧ Below w.heap.size w w' := by
 obtain ⟨st, rfl, ht⟩ := ht
 obtain ⟨ta, tc, rfl⟩ := ht.form
 have HSt := tuck ht
 obtain ⟨pa, pc, rfl⟩ := hp.form
 have HSp := tuck hp
 clear ht hp
 by_cases hlenp : lenp ≤ 1048576
 rotate_left
 ·have hlbp : decide ((1048576 : Int) < (lenp : Int)) = true := by simp; omega
  clear hlenp
  go_enter Tryz.func3, Tryz.ntmps3
  go_wp2
  go_ret
  exact ⟨rfl, below1 _ _⟩
 have hlbp : decide ((1048576 : Int) < (lenp : Int)) = false := by simp; omega
 have HSZt : Hid (∀ (w : World), SlIn w 0 t.kids (.slice ta t.kids.length tc) → Calls Tryz.prog 4 #[.agg #[.int .i64 t.kind, .int .i64 t.num, (.slice ta t.kids.length tc)], .int .i64 1048576] w (SzPost w (szV t.kids 1048576))) := fun w h => szT_any t 1048576 w _ (by omega) (by omega) ⟨_, rfl, h⟩
 by_cases hszt : (sizes t.kids : Int) ≤ 1048576
 rotate_left
 ·rw [szV_not (by omega)] at HSZt
  clear hszt
  go_enter Tryz.func3, Tryz.ntmps3
  go_wp2_with fail
  refine (HSZt.out _ (HSt.out.below (below1 _ _))).mono ?_
  rintro e w1 ⟨rfl, hb⟩
  have HXt := tuck ((BoxAt.new w t.kind t.num (.slice ta t.kids.length tc) 24).below hb)
  have HB : Hid (Bel w w1) := tuck ⟨bAfter (below1 _ _) hb⟩
  clear hb
  obtain ⟨zt, c0t, c1t, c2t⟩ := HXt.out
  go_wp2_with fail
  go_ret
  exact ⟨rfl, HB.out.be⟩
 rw [szV_of (by omega)] at HSZt
 obtain ⟨left1, hleft1⟩ : ∃ left : Int, left = 1048576 - (sizes t.kids : Int) := ⟨_, rfl⟩
 have hl1a : (0 : Int) ≤ left1 := by omega
 have hl1b : left1 ≤ 1048576 := by omega
 rw [← hleft1] at HSZt
 obtain ⟨R0, hR0⟩ : ∃ R : Tm, R = orZero (ContrAt t Np lenp) (contrAt t Np lenp) := ⟨_, rfl⟩
 obtain ⟨R1, hR1⟩ : ∃ R : Bool, R = tr (ContrAt t Np lenp) := ⟨_, rfl⟩
 have HSP : Hid (∀ (w : World) (vt : Value) (vp : Value), TmIn w 0 t vt → IntsC w 0 Np lenp vp → Calls Tryz.prog 5 #[vt, vp] w (fun e w' => Below w.heap.size w w' ∧ ∃ (a0 : Option Addr) (c0 : Nat), e = .returned (.tuple #[.agg #[.int .i64 R0.kind, .int .i64 R0.num, .slice a0 R0.kids.length c0], .bool R1]) ∧ SlIn w' w.heap.size R0.kids (.slice a0 R0.kids.length c0))) := fun w vt vp ht hp => by subst hR0; subst hR1; exact contractAtS_any t Np lenp hlenp w vt vp ht hp
 have HIM : Hid (∀ (w : World) (vt : Value) (vp : Value), TmIn w 0 t vt → IntsC w 0 Np lenp vp → Calls Tryz.prog 8 #[vt, vp] w (fun e w' => Below w.heap.size w w' ∧ ∃ (a0 : Option Addr) (c0 : Nat) (F0 : List Nat), e = .returned (.tuple #[.agg #[.int .i64 R0.kind, .int .i64 R0.num, .slice a0 R0.kids.length c0], .bool R1]) ∧ SlOwn w' R0.kids (.slice a0 R0.kids.length c0) F0 ∧ (F0).Nodup ∧ ∀ g ∈ F0, w.heap.size ≤ g ∧ g < w'.heap.size)) := fun w vt vp ht hp => by subst hR0; subst hR1; exact (contractAtI_any t Np lenp hlenp w vt vp ht hp.ints).mono fun _ _ h => h.law
 have hszR0 : sizes R0.kids ≤ 1000000 := by subst hR0; subst hR1; exact Nat.le_trans (orZero_szs fun h => h.2.2) (by decide)
 clear hR0 hR1
 have HTOt : Hid (∀ (w : World), SlIn w 0 t.kids (.slice ta t.kids.length tc) → Calls Tryz.prog 6 #[.agg #[.int .i64 t.kind, .int .i64 t.num, (.slice ta t.kids.length tc)]] w fun e w' => Below w.heap.size w w' ∧ ∃ a c F, e = .returned (.agg #[.int .i64 t.kind, .int .i64 t.num, .slice a t.kids.length c]) ∧ SlOwn w' t.kids (.slice a t.kids.length c) F ∧ F.Nodup ∧ ∀ g ∈ F, w.heap.size ≤ g ∧ g < w'.heap.size) := fun w h => toO_made t w _ (by omega) ⟨_, rfl, h⟩
 have HEQt : Hid (∀ (w : World) (v1 v2 : Value), TmIn w 0 t v1 → TmIn w 0 t v2 → Calls Tryz.prog 9 #[v1, v2] w (EqPost w true)) := fun w v1 v2 h1 h2 => by have := eqT_any t t w v1 v2 h1 h2; rwa [same_self] at this
 have HTOp : Hid (∀ (w : World), Ints w 0 Np lenp (.slice pa lenp pc) → Calls Tryz.prog 7 #[(.slice pa lenp pc)] w (ToInts w Np lenp)) := fun w h => toInts_any Np lenp w _ hlenp h
 have HEQp : Hid (∀ (w : World) (v1 v2 : Value), Ints w 0 Np lenp v1 → Ints w 0 Np lenp v2 → Calls Tryz.prog 10 #[v1, v2] w (EqPost w true)) := fun w v1 v2 h1 h2 => eqInts_any Np lenp w v1 v2 hlenp h1 h2
 have HEQR0 : Hid (∀ (w : World) (v1 v2 : Value), TmIn w 0 R0 v1 → TmIn w 0 R0 v2 → Calls Tryz.prog 9 #[v1, v2] w (EqPost w true)) := fun w v1 v2 h1 h2 => by have := eqT_any R0 R0 w v1 v2 h1 h2; rwa [same_self] at this
 have hrr1 : (R1 != R1) = false := by simp
 have hkt : (0 : Int) ≤ 1 ∧ (1 : Int) + 2 * (sizes t.kids : Int) ≤ 4611686018427387904 := by omega
 have HKt := tuck hkt
 have hkp : (0 : Int) ≤ (1 : Int) + 2 * (sizes t.kids : Int) ∧ (1 : Int) + 2 * (sizes t.kids : Int) + (lenp : Int) ≤ 4611686018427387904 := by omega
 have HKp := tuck hkp
 have hkend : ¬ ((1 : Int) + 2 * (sizes t.kids : Int) + (lenp : Int)) < 0 := by omega
 have hm0 : (0 : Int) ≤ 1 ∧ (1 : Int) + 2 * (sizes R0.kids : Int) ≤ 4611686018427387904 := by omega
 have HM0 := tuck hm0
 have hmn0 : ¬ ((1 : Int) + 2 * (sizes R0.kids : Int)) < 0 := by omega
 clear hszR0 hszt hleft1 hl1b hkt hkp hm0
 have HLENp := tuck hlenp
 clear hlenp
 go_enter Tryz.func3, Tryz.ntmps3
 go_wp2_with fail
 refine (HSZt.out _ (HSt.out.below (below1 _ _))).mono ?_
 rintro e w1 ⟨rfl, hb⟩
 have HXt := tuck ((BoxAt.new w t.kind t.num (.slice ta t.kids.length tc) 24).below hb)
 have HB : Hid (Bel w w1) := tuck ⟨bAfter (below1 _ _) hb⟩
 clear hb
 obtain ⟨zt, c0t, c1t, c2t⟩ := HXt.out
 go_wp2_with fail
 refine (HTOt.out _ (HSt.out.below HB.out.be)).mono ?_
 rintro e wc8t ⟨hb, u8ta, u8tc, FUt, rfl, hsx, hnx, hFx⟩
 have H8t := tuck (hsx.sl (B := 0) (fun _ _ => Nat.zero_le _))
 replace HXt := tuck (HXt.out.below hb)
 replace HB := tuck (HB.out.below hb)
 clear hb hsx hnx hFx
 clear zt c0t c1t c2t
 obtain ⟨zt, c0t, c1t, c2t⟩ := HXt.out
 go_wp2_with fail
 refine (HTOp.out _ (HSp.out.below HB.out.be)).mono ?_
 rintro e wc8p ⟨hb, v, rfl, hio⟩
 obtain rfl := hio.form
 have H8p := tuck (hio.intsC.mono (Nat.zero_le _))
 replace HXt := tuck (HXt.out.below hb)
 replace HB := tuck (HB.out.below hb)
 replace H8t := tuck (H8t.out.below hb)
 clear hb hio
 clear zt c0t c1t c2t
 obtain ⟨zt, c0t, c1t, c2t⟩ := HXt.out
 go_wp2_with fail
 refine (HSP.out _ _ _ ⟨_, rfl, H8t.out⟩ H8p.out).mono ?_
 rintro e w8 ⟨hb, u8a0, u8c0, rfl, hw0⟩
 have H8W0 := tuck (hw0.mono (B' := 0) (Nat.zero_le _))
 replace HXt := tuck (HXt.out.below hb)
 replace HB := tuck (HB.out.below hb)
 clear hb hw0
 clear H8t H8p
 clear zt c0t c1t c2t
 obtain ⟨zt, c0t, c1t, c2t⟩ := HXt.out
 go_wp2_with fail
 have hbx := below1 w8 (.cells #[.int .i64 R0.kind, .int .i64 R0.num, .slice u8a0 R0.kids.length u8c0] 29)
 have V8 := tuck (VarAt.new w8 R0.kind R0.num (.slice u8a0 R0.kids.length u8c0))
 have hzz : w8.heap.size < (w8.alloc (.cells #[.int .i64 R0.kind, .int .i64 R0.num, .slice u8a0 R0.kids.length u8c0] 29)).heap.size := by simp
 replace HXt := tuck (HXt.out.below hbx)
 replace HB := tuck (HB.out.below hbx)
 replace H8W0 := tuck (H8W0.out.below hbx)
 clear hbx
 generalize w8.alloc (.cells #[.int .i64 R0.kind, .int .i64 R0.num, .slice u8a0 R0.kids.length u8c0] 29) = W8 at *
 generalize w8.heap.size = g8 at *
 have HZ8 := tuck hzz
 clear hzz
 clear zt c0t c1t c2t
 have HBW : Hid (Bel W8 W8) := tuck ⟨Below.refl _ _⟩
 have HL1t : Hid (w.heap.size < W8.heap.size) := tuck HXt.out.1
 have HL0 : Hid (w.heap.size ≤ W8.heap.size) := tuck HB.out.be.size
 have HL8 : Hid (g8 < W8.heap.size) := tuck V8.out.facts.1
 refine (HTOt.out _ (HSt.out.below HB.out.be)).mono ?_
 rintro e wxt ⟨hb, uxta, uxtc, Ft, rfl, hsx, hnx, hFx⟩
 have HOt := tuck (OwnB.of hsx hnx hFx)
 have HNt := tuck hb.size
 replace HXt := tuck (HXt.out.below hb)
 replace HB := tuck (HB.out.below hb)
 replace V8 := tuck (V8.out.below hb)
 replace HBW := tuck (HBW.out.below hb)
 clear hb hsx hnx hFx
 obtain ⟨zt, c0t, c1t, c2t⟩ := HXt.out
 obtain ⟨z8, b0, b1, b2, bf⟩ := V8.out.facts
 go_wp2_with fail
 clear z8 b0 b1 b2 bf
 clear zt c0t c1t c2t
 have hbx := below1 wxt (.cells #[.int .i64 t.kind, .int .i64 t.num, .slice uxta t.kids.length uxtc] 29)
 have VXt := tuck (VarAt.new wxt t.kind t.num (.slice uxta t.kids.length uxtc))
 have hzz : wxt.heap.size < (wxt.alloc (.cells #[.int .i64 t.kind, .int .i64 t.num, .slice uxta t.kids.length uxtc] 29)).heap.size := by simp
 replace HXt := tuck (HXt.out.below hbx)
 replace HB := tuck (HB.out.below hbx)
 replace V8 := tuck (V8.out.below hbx)
 replace HBW := tuck (HBW.out.below hbx)
 replace HOt := tuck (HOt.out.below hbx)
 clear hbx
 generalize wxt.alloc (.cells #[.int .i64 t.kind, .int .i64 t.num, .slice uxta t.kids.length uxtc] 29) = WXt at *
 generalize wxt.heap.size = gxt at *
 have HZXt := tuck hzz
 clear hzz
 refine (HTOp.out _ (HSp.out.below HB.out.be)).mono ?_
 rintro e wxp ⟨hb, v, rfl, hio⟩
 obtain rfl := hio.form
 have HOp := tuck hio
 have HLp := tuck hio.lt
 have HNp := tuck hb.size
 replace HXt := tuck (HXt.out.below hb)
 replace HB := tuck (HB.out.below hb)
 replace V8 := tuck (V8.out.below hb)
 replace HBW := tuck (HBW.out.below hb)
 replace HOt := tuck (HOt.out.below hb)
 replace VXt := tuck (VXt.out.below hb)
 clear hb hio
 obtain ⟨zt, c0t, c1t, c2t⟩ := HXt.out
 obtain ⟨z8, b0, b1, b2, bf⟩ := V8.out.facts
 obtain ⟨zxt, x0t, x1t, x2t, xft⟩ := VXt.out.facts
 go_wp2_with fail
 clear z8 b0 b1 b2 bf zxt x0t x1t x2t xft
 clear zt c0t c1t c2t
 refine (HIM.out _ _ _ ⟨_, rfl, HOt.out.sl⟩ (HOp.out.intsC.mono (Nat.zero_le _))).mono ?_
 rintro e wG ⟨hb, Ga0, Gc0, FG0, rfl, hw0, hnd, hF⟩
 have HOG0 := tuck (OwnB.of hw0 hnd hF)
 have HNG := tuck hb.size
 replace HXt := tuck (HXt.out.below hb)
 replace HB := tuck (HB.out.below hb)
 replace V8 := tuck (V8.out.below hb)
 replace HBW := tuck (HBW.out.below hb)
 replace HOt := tuck (HOt.out.below hb)
 replace VXt := tuck (VXt.out.below hb)
 replace HOp := tuck (HOp.out.below hb)
 clear hb hnd hF hw0
 obtain ⟨zt, c0t, c1t, c2t⟩ := HXt.out
 obtain ⟨z8, b0, b1, b2, bf⟩ := V8.out.facts
 obtain ⟨zxt, x0t, x1t, x2t, xft⟩ := VXt.out.facts
 go_wp2_with fail
 clear z8 b0 b1 b2 bf zxt x0t x1t x2t xft
 clear zt c0t c1t c2t
 have hbx := below1 wG (.cells #[.int .i64 R0.kind, .int .i64 R0.num, .slice Ga0 R0.kids.length Gc0] 29)
 have VG := tuck (VarAt.new wG R0.kind R0.num (.slice Ga0 R0.kids.length Gc0))
 have hzz : wG.heap.size < (wG.alloc (.cells #[.int .i64 R0.kind, .int .i64 R0.num, .slice Ga0 R0.kids.length Gc0] 29)).heap.size := by simp
 replace HXt := tuck (HXt.out.below hbx)
 replace HB := tuck (HB.out.below hbx)
 replace V8 := tuck (V8.out.below hbx)
 replace HBW := tuck (HBW.out.below hbx)
 replace HOt := tuck (HOt.out.below hbx)
 replace VXt := tuck (VXt.out.below hbx)
 replace HOp := tuck (HOp.out.below hbx)
 replace HOG0 := tuck (HOG0.out.below hbx)
 clear hbx
 generalize wG.alloc (.cells #[.int .i64 R0.kind, .int .i64 R0.num, .slice Ga0 R0.kids.length Gc0] 29) = WG at *
 generalize wG.heap.size = gG at *
 have HZG := tuck hzz
 clear hzz
 refine (HEQR0.out _ _ _ ⟨_, rfl, HOG0.out.sl⟩ ⟨_, rfl, H8W0.out.below HBW.out.be⟩).mono ?_
 rintro e wE0 ⟨rfl, hb⟩
 replace HXt := tuck (HXt.out.below hb)
 replace HB := tuck (HB.out.below hb)
 replace V8 := tuck (V8.out.below hb)
 replace HBW := tuck (HBW.out.below hb)
 replace HOt := tuck (HOt.out.below hb)
 replace VXt := tuck (VXt.out.below hb)
 replace HOp := tuck (HOp.out.below hb)
 replace HOG0 := tuck (HOG0.out.below hb)
 replace VG := tuck (VG.out.below hb)
 clear hb
 obtain ⟨zt, c0t, c1t, c2t⟩ := HXt.out
 obtain ⟨z8, b0, b1, b2, bf⟩ := V8.out.facts
 obtain ⟨z11, d0, d1, d2, df⟩ := VG.out.facts
 obtain ⟨zxt, x0t, x1t, x2t, xft⟩ := VXt.out.facts
 go_wp2_with fail
 clear z8 b0 b1 b2 bf z11 d0 d1 d2 df zxt x0t x1t x2t xft
 clear zt c0t c1t c2t
 go_region_held3 (fun w' => Below wE0.heap.size wE0 w' ∧ (w.heap.size < w'.heap.size ∧ w'.cell? ⟨w.heap.size, 0, none⟩ = some (.int .i64 t.kind) ∧ w'.cell? ⟨w.heap.size, 1, none⟩ = some (.int .i64 t.num) ∧ w'.cell? ⟨w.heap.size, 2, none⟩ = some (.slice ta t.kids.length tc)) ∧ (gxt < w'.heap.size ∧ w'.cell? ⟨gxt, 0, none⟩ = some (.int .i64 t.kind) ∧ w'.cell? ⟨gxt, 1, none⟩ = some (.int .i64 t.num) ∧ w'.cell? ⟨gxt, 2, none⟩ = some (.slice uxta t.kids.length uxtc))) (first | exact ⟨(Below.refl _ _).drew, HXt.out, VXt.out.four⟩ | exact holdT (by assumption) hb71 | exact holdT (by assumption) hb72) (first | (go_at_call 6; refine (HTOt.out _ (HSt.out.below (bAfter HB.out.be (hold_be (by assumption))))).mono ?_; rintro e w71t ⟨hb71, qa, qc, F71, rfl, hs71, -, -⟩) | (go_at_call 9; refine (HEQt.out _ _ _ ⟨_, rfl, HOt.out.sl.below (hold_be (by assumption))⟩ ⟨_, rfl, hs71.sl (fun _ _ => Nat.zero_le _)⟩).mono ?_; rintro e w72t ⟨rfl, hb72⟩))
 have hb : Below wE0.heap.size wE0 w72t := hold_be (by assumption)
 replace HXt := tuck (HXt.out.below hb)
 replace HB := tuck (HB.out.below hb)
 replace V8 := tuck (V8.out.below hb)
 replace HBW := tuck (HBW.out.below hb)
 replace HOt := tuck (HOt.out.below hb)
 replace VXt := tuck (VXt.out.below hb)
 replace HOp := tuck (HOp.out.below hb)
 replace HOG0 := tuck (HOG0.out.below hb)
 replace VG := tuck (VG.out.below hb)
 clear hb hb71 hb72 hs71
 obtain ⟨zt, c0t, c1t, c2t⟩ := HXt.out
 obtain ⟨z8, b0, b1, b2, bf⟩ := V8.out.facts
 obtain ⟨z11, d0, d1, d2, df⟩ := VG.out.facts
 obtain ⟨zxt, x0t, x1t, x2t, xft⟩ := VXt.out.facts
 go_wp2_with fail
 clear z8 b0 b1 b2 bf z11 d0 d1 d2 df zxt x0t x1t x2t xft
 clear zt c0t c1t c2t
 refine (HTOp.out _ (HSp.out.below HB.out.be)).mono ?_
 rintro e w73p ⟨hb, v, rfl, hio⟩
 obtain rfl := hio.form
 have Hyp := tuck (hio.intsC.mono (Nat.zero_le _))
 replace HXt := tuck (HXt.out.below hb)
 replace HB := tuck (HB.out.below hb)
 replace V8 := tuck (V8.out.below hb)
 replace HBW := tuck (HBW.out.below hb)
 replace HOt := tuck (HOt.out.below hb)
 replace VXt := tuck (VXt.out.below hb)
 replace HOp := tuck (HOp.out.below hb)
 replace HOG0 := tuck (HOG0.out.below hb)
 replace VG := tuck (VG.out.below hb)
 clear hb hio
 obtain ⟨zt, c0t, c1t, c2t⟩ := HXt.out
 obtain ⟨z8, b0, b1, b2, bf⟩ := V8.out.facts
 obtain ⟨z11, d0, d1, d2, df⟩ := VG.out.facts
 obtain ⟨zxt, x0t, x1t, x2t, xft⟩ := VXt.out.facts
 go_wp2_with fail
 clear z8 b0 b1 b2 bf z11 d0 d1 d2 df zxt x0t x1t x2t xft
 clear zt c0t c1t c2t
 refine (HEQp.out _ _ _ (HOp.out.ints.mono (Nat.zero_le _)) Hyp.out.ints).mono ?_
 rintro e w74p ⟨rfl, hb⟩
 replace HXt := tuck (HXt.out.below hb)
 replace HB := tuck (HB.out.below hb)
 replace V8 := tuck (V8.out.below hb)
 replace HBW := tuck (HBW.out.below hb)
 replace HOt := tuck (HOt.out.below hb)
 replace VXt := tuck (VXt.out.below hb)
 replace HOp := tuck (HOp.out.below hb)
 replace HOG0 := tuck (HOG0.out.below hb)
 replace VG := tuck (VG.out.below hb)
 clear hb Hyp
 obtain ⟨zt, c0t, c1t, c2t⟩ := HXt.out
 obtain ⟨z8, b0, b1, b2, bf⟩ := V8.out.facts
 obtain ⟨z11, d0, d1, d2, df⟩ := VG.out.facts
 obtain ⟨zxt, x0t, x1t, x2t, xft⟩ := VXt.out.facts
 go_wp2_with fail
 clear z8 b0 b1 b2 bf z11 d0 d1 d2 df zxt x0t x1t x2t xft
 clear zt c0t c1t c2t
 have geHOt := HOt.out.ge
 have ltHOt := HOt.out.lt
 have geHOG0 := HOG0.out.ge
 have ltHOG0 := HOG0.out.lt
 refine (markT_any t Ft (1) _ _ HKt.out.1 HKt.out.2 HOt.out.nd HOt.out.lts HOt.out.own).mono ?_
 rintro e wmt ⟨rfl, hown, hbut⟩
 have e0 := HL1t.out; have e1 := HL0.out; have e2 := HL8.out; have e3 := HNt.out; have e4 := HZXt.out; have e5 := HNp.out; have e6 := HLp.out; have e7 := HNG.out; have e8 := HZG.out
 skip
 replace HXt := tuck (HXt.out.but hbut (fun hf => by have h1 := geHOt _ hf; have h2 := ltHOt _ hf; omega))
 replace HB := tuck (HB.out.but hbut (fun g hf => by have h1 := geHOt _ hf; have h2 := ltHOt _ hf; omega))
 replace V8 := tuck (V8.out.but hbut (fun hf => by have h1 := geHOt _ hf; have h2 := ltHOt _ hf; omega))
 replace HBW := tuck (HBW.out.but hbut (fun g hf => by have h1 := geHOt _ hf; have h2 := ltHOt _ hf; omega))
 replace HOp := tuck (HOp.out.but hbut (fun hf => by have h1 := geHOt _ hf; have h2 := ltHOt _ hf; omega))
 replace HOG0 := tuck (HOG0.out.but hbut (fun g hg hf => by have h1 := geHOt _ hf; have h2 := ltHOt _ hf; have h3 := geHOG0 _ hg; have h4 := ltHOG0 _ hg; omega))
 replace VG := tuck (VG.out.but hbut (fun hf => by have h1 := geHOt _ hf; have h2 := ltHOt _ hf; omega))
 clear hbut hown geHOt ltHOt geHOG0 ltHOG0
 clear e0 e1 e2 e3 e4 e5 e6 e7 e8
 clear VXt
 clear HOt
 obtain ⟨zt, c0t, c1t, c2t⟩ := HXt.out
 obtain ⟨z8, b0, b1, b2, bf⟩ := V8.out.facts
 obtain ⟨z11, d0, d1, d2, df⟩ := VG.out.facts
 go_wp2_with fail
 clear z8 b0 b1 b2 bf z11 d0 d1 d2 df
 clear zt c0t c1t c2t
 have geHOG0 := HOG0.out.ge
 have ltHOG0 := HOG0.out.lt
 refine (markInts_any Np lenp _ ((1 : Int) + 2 * (sizes t.kids : Int)) _ _ HLENp.out HKp.out.1 HKp.out.2 HOp.out).mono ?_
 rintro e wmp ⟨rfl, hbut⟩
 have e0 := HL1t.out; have e1 := HL0.out; have e2 := HL8.out; have e3 := HNt.out; have e4 := HZXt.out; have e5 := HNp.out; have e6 := HLp.out; have e7 := HNG.out; have e8 := HZG.out
 skip
 replace HXt := tuck (HXt.out.but hbut (fun hf => by have h1 := List.mem_singleton.1 hf; omega))
 replace HB := tuck (HB.out.but hbut (fun g hf => by have h1 := List.mem_singleton.1 hf; omega))
 replace V8 := tuck (V8.out.but hbut (fun hf => by have h1 := List.mem_singleton.1 hf; omega))
 replace HBW := tuck (HBW.out.but hbut (fun g hf => by have h1 := List.mem_singleton.1 hf; omega))
 replace HOG0 := tuck (HOG0.out.but hbut (fun g hg hf => by have h1 := List.mem_singleton.1 hf; have h3 := geHOG0 _ hg; have h4 := ltHOG0 _ hg; omega))
 replace VG := tuck (VG.out.but hbut (fun hf => by have h1 := List.mem_singleton.1 hf; omega))
 clear hbut geHOG0 ltHOG0
 clear e0 e1 e2 e3 e4 e5 e6 e7 e8
 clear HOp
 obtain ⟨zt, c0t, c1t, c2t⟩ := HXt.out
 obtain ⟨z8, b0, b1, b2, bf⟩ := V8.out.facts
 obtain ⟨z11, d0, d1, d2, df⟩ := VG.out.facts
 go_wp2_with fail
 clear z8 b0 b1 b2 bf z11 d0 d1 d2 df
 clear zt c0t c1t c2t
 refine (HEQR0.out _ _ _ ⟨_, rfl, HOG0.out.sl⟩ ⟨_, rfl, H8W0.out.below HBW.out.be⟩).mono ?_
 rintro e wK0 ⟨rfl, hb⟩
 replace HXt := tuck (HXt.out.below hb)
 replace HB := tuck (HB.out.below hb)
 replace V8 := tuck (V8.out.below hb)
 replace HBW := tuck (HBW.out.below hb)
 replace HOG0 := tuck (HOG0.out.below hb)
 replace VG := tuck (VG.out.below hb)
 clear hb
 obtain ⟨zt, c0t, c1t, c2t⟩ := HXt.out
 obtain ⟨z8, b0, b1, b2, bf⟩ := V8.out.facts
 obtain ⟨z11, d0, d1, d2, df⟩ := VG.out.facts
 go_wp2_with fail
 clear z8 b0 b1 b2 bf z11 d0 d1 d2 df
 clear zt c0t c1t c2t
 have geHOG0 := HOG0.out.ge
 have ltHOG0 := HOG0.out.lt
 refine (markT_any R0 FG0 (1) _ _ HM0.out.1 HM0.out.2 HOG0.out.nd HOG0.out.lts HOG0.out.own).mono ?_
 rintro e wn0 ⟨rfl, hown, hbut⟩
 have e0 := HL1t.out; have e1 := HL0.out; have e2 := HL8.out; have e3 := HNt.out; have e4 := HZXt.out; have e5 := HNp.out; have e6 := HLp.out; have e7 := HNG.out; have e8 := HZG.out
 skip
 replace HXt := tuck (HXt.out.but hbut (fun hf => by have h1 := geHOG0 _ hf; have h2 := ltHOG0 _ hf; omega))
 replace HB := tuck (HB.out.but hbut (fun g hf => by have h1 := geHOG0 _ hf; have h2 := ltHOG0 _ hf; omega))
 replace V8 := tuck (V8.out.but hbut (fun hf => by have h1 := geHOG0 _ hf; have h2 := ltHOG0 _ hf; omega))
 replace HBW := tuck (HBW.out.but hbut (fun g hf => by have h1 := geHOG0 _ hf; have h2 := ltHOG0 _ hf; omega))
 replace VG := tuck (VG.out.but hbut (fun hf => by have h1 := geHOG0 _ hf; have h2 := ltHOG0 _ hf; omega))
 replace HOG0 := tuck (HOG0.out.marked hown hbut.size)
 clear hbut hown geHOG0 ltHOG0
 clear e0 e1 e2 e3 e4 e5 e6 e7 e8
 obtain ⟨zt, c0t, c1t, c2t⟩ := HXt.out
 obtain ⟨z8, b0, b1, b2, bf⟩ := V8.out.facts
 obtain ⟨z11, d0, d1, d2, df⟩ := VG.out.facts
 go_wp2_with fail
 clear z8 b0 b1 b2 bf z11 d0 d1 d2 df
 clear zt c0t c1t c2t
 refine (heldT_any R0 R0.kids 0 (1) _ _ HM0.out.1 HM0.out.2 HOG0.out.sl).mono ?_
 rintro e wh0 ⟨rfl, hb⟩
 replace HXt := tuck (HXt.out.below hb)
 replace HB := tuck (HB.out.below hb)
 replace V8 := tuck (V8.out.below hb)
 replace HBW := tuck (HBW.out.below hb)
 replace HOG0 := tuck (HOG0.out.below hb)
 replace VG := tuck (VG.out.below hb)
 clear hb
 obtain ⟨zt, c0t, c1t, c2t⟩ := HXt.out
 obtain ⟨z8, b0, b1, b2, bf⟩ := V8.out.facts
 obtain ⟨z11, d0, d1, d2, df⟩ := VG.out.facts
 go_wp2_with fail
 clear z8 b0 b1 b2 bf z11 d0 d1 d2 df
 clear zt c0t c1t c2t
 obtain ⟨zt, c0t, c1t, c2t⟩ := HXt.out
 refine (HTOt.out _ (HSt.out.below HB.out.be)).mono ?_
 rintro e wcHt ⟨hb, uHta, uHtc, FUt, rfl, hsx, hnx, hFx⟩
 have HHt := tuck (hsx.sl (B := 0) (fun _ _ => Nat.zero_le _))
 replace HXt := tuck (HXt.out.below hb)
 replace HB := tuck (HB.out.below hb)
 replace V8 := tuck (V8.out.below hb)
 replace HBW := tuck (HBW.out.below hb)
 replace HOG0 := tuck (HOG0.out.below hb)
 replace VG := tuck (VG.out.below hb)
 clear hb hsx hnx hFx
 clear zt c0t c1t c2t
 obtain ⟨zt, c0t, c1t, c2t⟩ := HXt.out
 obtain ⟨z8, b0, b1, b2, bf⟩ := V8.out.facts
 obtain ⟨z11, d0, d1, d2, df⟩ := VG.out.facts
 go_wp2_with fail
 clear z8 b0 b1 b2 bf z11 d0 d1 d2 df
 refine (HTOp.out _ (HSp.out.below HB.out.be)).mono ?_
 rintro e wcHp ⟨hb, v, rfl, hio⟩
 obtain rfl := hio.form
 have HHp := tuck (hio.intsC.mono (Nat.zero_le _))
 replace HXt := tuck (HXt.out.below hb)
 replace HB := tuck (HB.out.below hb)
 replace V8 := tuck (V8.out.below hb)
 replace HBW := tuck (HBW.out.below hb)
 replace HOG0 := tuck (HOG0.out.below hb)
 replace VG := tuck (VG.out.below hb)
 replace HHt := tuck (HHt.out.below hb)
 clear hb hio
 clear zt c0t c1t c2t
 obtain ⟨zt, c0t, c1t, c2t⟩ := HXt.out
 obtain ⟨z8, b0, b1, b2, bf⟩ := V8.out.facts
 obtain ⟨z11, d0, d1, d2, df⟩ := VG.out.facts
 go_wp2_with fail
 clear z8 b0 b1 b2 bf z11 d0 d1 d2 df
 refine (HIM.out _ _ _ ⟨_, rfl, HHt.out⟩ HHp.out).mono ?_
 rintro e wH ⟨hb, uHa0, uHc0, FH0, rfl, hw0, hnd, hF⟩
 have HHW0 := tuck (hw0.sl (B := 0) (fun _ _ => Nat.zero_le _))
 replace HXt := tuck (HXt.out.below hb)
 replace HB := tuck (HB.out.below hb)
 replace V8 := tuck (V8.out.below hb)
 replace HBW := tuck (HBW.out.below hb)
 replace HOG0 := tuck (HOG0.out.below hb)
 replace VG := tuck (VG.out.below hb)
 clear hb hnd hF hw0
 clear HHt HHp
 clear zt c0t c1t c2t
 obtain ⟨zt, c0t, c1t, c2t⟩ := HXt.out
 obtain ⟨z8, b0, b1, b2, bf⟩ := V8.out.facts
 obtain ⟨z11, d0, d1, d2, df⟩ := VG.out.facts
 go_wp2_with fail
 clear z8 b0 b1 b2 bf z11 d0 d1 d2 df
 have hbx := below1 wH (.cells #[.int .i64 R0.kind, .int .i64 R0.num, .slice uHa0 R0.kids.length uHc0] 29)
 have VH := tuck (VarAt.new wH R0.kind R0.num (.slice uHa0 R0.kids.length uHc0))
 have hzz : wH.heap.size < (wH.alloc (.cells #[.int .i64 R0.kind, .int .i64 R0.num, .slice uHa0 R0.kids.length uHc0] 29)).heap.size := by simp
 replace HXt := tuck (HXt.out.below hbx)
 replace HB := tuck (HB.out.below hbx)
 replace V8 := tuck (V8.out.below hbx)
 replace HBW := tuck (HBW.out.below hbx)
 replace HOG0 := tuck (HOG0.out.below hbx)
 replace VG := tuck (VG.out.below hbx)
 replace HHW0 := tuck (HHW0.out.below hbx)
 clear hbx
 generalize wH.alloc (.cells #[.int .i64 R0.kind, .int .i64 R0.num, .slice uHa0 R0.kids.length uHc0] 29) = WH at *
 generalize wH.heap.size = gH at *
 have HZH := tuck hzz
 clear hzz
 clear zt c0t c1t c2t
 refine (HEQR0.out _ _ _ ⟨_, rfl, HHW0.out⟩ ⟨_, rfl, H8W0.out.below HBW.out.be⟩).mono ?_
 rintro e wF0 ⟨rfl, hb⟩
 replace HXt := tuck (HXt.out.below hb)
 replace HB := tuck (HB.out.below hb)
 replace V8 := tuck (V8.out.below hb)
 replace HBW := tuck (HBW.out.below hb)
 replace HOG0 := tuck (HOG0.out.below hb)
 replace VG := tuck (VG.out.below hb)
 replace VH := tuck (VH.out.below hb)
 replace HHW0 := tuck (HHW0.out.below hb)
 clear hb
 obtain ⟨zt, c0t, c1t, c2t⟩ := HXt.out
 obtain ⟨z8, b0, b1, b2, bf⟩ := V8.out.facts
 obtain ⟨z11, d0, d1, d2, df⟩ := VG.out.facts
 obtain ⟨zh, y0, y1, y2, yf⟩ := VH.out.facts
 go_wp2_with fail
 clear z8 b0 b1 b2 bf z11 d0 d1 d2 df zh y0 y1 y2 yf
 clear zt c0t c1t c2t
 refine (heldT_any R0 R0.kids 0 (1) _ _ HM0.out.1 HM0.out.2 HOG0.out.sl).mono ?_
 rintro e wi0 ⟨rfl, hb⟩
 replace HXt := tuck (HXt.out.below hb)
 replace HB := tuck (HB.out.below hb)
 replace V8 := tuck (V8.out.below hb)
 replace HBW := tuck (HBW.out.below hb)
 replace HOG0 := tuck (HOG0.out.below hb)
 replace VG := tuck (VG.out.below hb)
 replace VH := tuck (VH.out.below hb)
 clear hb
 go_wp2_with fail
 go_ret
 exact ⟨rfl, HB.out.be⟩
set_option maxRecDepth 100000 in
theorem lifted (os : Os) (started : os.Started) (H : Type) (enc : TypeId × Value → H) :
  ReturnsInHanded {} Tryz.checked os 3 .any (Rows.fnExactContractAtSpec.pre6 enc Tryz.prog Tryz.f3 Rows.fnExactContractAtRow.domain false) (Rows.fnExactContractAtSpec.post enc Tryz.prog Tryz.f3 false true false false) := by
 refine returnsInHanded_of_change (C := Tryz.checked) own started (by kernel_rfl) Tryz.func3
  (ChangeSpec.witness6 (enc := enc) (C := Tryz.checked) false ⟨#[], #[.agg #[.int .i64 0, .int .i64 0, .slice none 0 0], .slice none 0 0], []⟩ 8 (by kernel_rfl) (by kernel_rfl) (by kernel_rfl) (by kernel_rfl)) ?_
 intro W base args ds gs before hval0 hW hcnd _
 have hval : ∀ (j : Nat) t v, Tryz.f3.params[j]? = some t → args[j]? = some v → Value.okWide Tryz.prog W .any base t v := hval0
 have hW' := hW
 obtain ⟨p, q, hA0, hV, rfl, hfz, hnd⟩ := hW
 have hA : DataW.TrodAll enc Tryz.prog W 0 (fun _ => true) true Tryz.f3.params.toList args.toList ds p := hA0
 rw [Tryz.params3] at hA hval
 obtain ⟨v0, vs0, d0, ds0, p0, q0, hargs, rfl, rfl, h0, r0⟩ := trodAll_cons hA
 obtain ⟨v1, vs1, d1, ds1, p1, q1, rfl, rfl, rfl, h1, r1⟩ := trodAll_cons r0
 obtain ⟨rfl, rfl, rfl⟩ := trodAll_nil r1
 obtain rfl : args = #[v0, v1] := by cases args; simp_all
 obtain ⟨t0, ht0⟩ := open_term (hval 0 24 v0 rfl rfl) h0
 obtain ⟨N1, len1, hi1⟩ := open_intsl (hval 1 25 v1 rfl rfl) h1
 refine (walk t0 N1 len1 W v0 v1 ht0 hi1).mono fun e W' ⟨he, hb⟩ => ?_
 subst he
 exact ⟨_, rfl, law_post rfl rfl (fun gs h => by subst h; rfl) (by rw [Tryz.params3]; exact readable_FnExactContractAt) laid hW' hb⟩
theorem over : Rows.fnExactContractAtRow.holds Tryz.pinned (OpenSpec.ofChange Rows.fnExactContractAtSpec) :=
 OpenClaim.holds_of_wide 3 Tryz.f3 rfl rfl rfl rfl rfl rfl rfl ⟨rfl, rfl, rfl, rfl, rfl⟩ rfl rfl rfl rfl rfl (by kernel_rfl) Tryz.func3 (by kernel_rfl)
  (of_decide_eq_true (by kernel_rfl)) (by unfold Func.isWrapper; first | (rw [if_pos (by decide +kernel)]; kernel_rfl) | (rw [if_neg (by decide +kernel)]; exact ⟨rfl, rfl⟩))
  (fun os started H enc _ => lifted os started H enc)
theorem proved : Rows.FnExactContractAtSaid :=
 over
end Go.Proofs.YtleijaegpfjnpaaGreat.fnExactContractAt
