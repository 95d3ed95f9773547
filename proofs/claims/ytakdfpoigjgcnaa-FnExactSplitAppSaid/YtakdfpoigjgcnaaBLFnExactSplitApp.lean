/-
  The law FnExactSplitApp: for every term (no ring among its parts), SplitApp answers as its model, writes into no argument, and its answer is memory of its own.
-/
import Derived.Test.YtakdfpoigjgcnaaB03
import Derived.Test.YtakdfpoigjgcnaaB19
import Derived.Test.YtakdfpoigjgcnaaB23
import Derived.Test.YtakdfpoigjgcnaaB46
import Derived.Test.YtakdfpoigjgcnaaB47
import Derived.Test.YtakdfpoigjgcnaaB49
import Derived.Deep.DeepCutAuto
namespace Go.Proofs.Ytakdfpoigjgcnaa.fnExactSplitApp
open Go.ChangeShapes Go.WideShapes Go.ChangeAt Go.RowKit Go.Deep
set_option linter.unusedVariables false
theorem readable_FnExactSplitApp : ∀ t ∈ (#[24] : Array TypeId).toList, Try.prog.readableRec t = true ∧ t < Try.prog.types.size := by
 intro t ht
 simp at ht
 subst ht
 all_goals exact ⟨by kernel_rfl, of_decide_eq_true (by kernel_rfl)⟩
theorem laid : laidOutB Try.prog = true := by kernel_rfl
set_option maxRecDepth 100000 in
set_option maxHeartbeats 4000000 in
/-- The walk. -/
theorem walk (t : Tm) (w : World) (vt : Value) (ht : TmIn w 0 t vt) : Calls Try.prog 8 #[vt] w fun e w' => e = .returned (.bool true) ∧ Below w.heap.size w w' := by
 obtain ⟨st, rfl, ht⟩ := ht
 obtain ⟨ta, tc, rfl⟩ := ht.form
 have HSt := tuck ht
 clear ht
 have HSZt : Hid (∀ (w : World), SlIn w 0 t.kids (.slice ta t.kids.length tc) → Calls Try.prog 11 #[.agg #[.int .i64 t.kind, .int .i64 t.num, (.slice ta t.kids.length tc)], .int .i64 1048576] w (SzPost w (szV t.kids 1048576))) := fun w h => szT_any t 1048576 w _ (by omega) (by omega) ⟨_, rfl, h⟩
 by_cases hszt : (sizes t.kids : Int) ≤ 1048576
 rotate_left
 ·rw [szV_not (by omega)] at HSZt
  clear hszt
  go_enter Try.func8, Try.ntmps8
  go_wp2_with fail
  refine (HSZt.out _ (HSt.out.below (below1 _ _))).mono ?_
  rintro e w1 ⟨rfl, hb⟩
  have HXt := tuck ((BoxAt.new w t.kind t.num (.slice ta t.kids.length tc) 24).below hb)
  have HB : Hid (Bel w w1) := tuck ⟨bAfter (below1 _ _) hb⟩
  clear hb
  obtain ⟨zt, c0t, c1t, c2t⟩ := HXt.out
  go_wp2_with fail
  go_ret
  exact ⟨rfl, HB.out.be⟩
 rw [szV_of (by omega)] at HSZt
 obtain ⟨left1, hleft1⟩ : ∃ left : Int, left = 1048576 - (sizes t.kids : Int) := ⟨_, rfl⟩
 have hl1a : (0 : Int) ≤ left1 := by omega
 have hl1b : left1 ≤ 1048576 := by omega
 rw [← hleft1] at HSZt
 obtain ⟨R0, hR0⟩ : ∃ R : Tm, R = orZero t.Valid (down 0 (runs 5 0 30 t) t) := ⟨_, rfl⟩
 obtain ⟨R1, hR1⟩ : ∃ R : List Tm, R = orNil t.Valid (sides 0 1 (runs 5 0 30 t) t).reverse := ⟨_, rfl⟩
 obtain ⟨R2, hR2⟩ : ∃ R : Bool, R = tr t.Valid := ⟨_, rfl⟩
 have HSP : Hid (∀ (w : World) (vt : Value), TmIn w 0 t vt → Calls Try.prog 30 #[vt] w (fun e w' => Below w.heap.size w w' ∧ ∃ (a0 : Option Addr) (c0 : Nat) (a1 : Option Addr) (c1 : Nat), e = .returned (.tuple #[.agg #[.int .i64 R0.kind, .int .i64 R0.num, .slice a0 R0.kids.length c0], .slice a1 R1.length c1, .bool R2]) ∧ SlIn w' w.heap.size R0.kids (.slice a0 R0.kids.length c0) ∧ SlIn w' w.heap.size R1 (.slice a1 R1.length c1))) := fun w vt ht => by subst hR0; subst hR1; subst hR2; exact splitAppS_any t w vt ht
 have HIM : Hid (∀ (w : World) (vt : Value), TmIn w 0 t vt → Calls Try.prog 31 #[vt] w (fun e w' => Below w.heap.size w w' ∧ ∃ (a0 : Option Addr) (c0 : Nat) (a1 : Option Addr) (c1 : Nat) (F0 : List Nat) (F1 : List Nat), e = .returned (.tuple #[.agg #[.int .i64 R0.kind, .int .i64 R0.num, .slice a0 R0.kids.length c0], .slice a1 R1.length c1, .bool R2]) ∧ SlOwn w' R0.kids (.slice a0 R0.kids.length c0) F0 ∧ SlOwn w' R1 (.slice a1 R1.length c1) F1 ∧ (F0 ++ F1).Nodup ∧ ∀ g ∈ F0 ++ F1, w.heap.size ≤ g ∧ g < w'.heap.size)) := fun w vt ht => by subst hR0; subst hR1; subst hR2; exact splitAppI_any t w vt ht
 have hszR0 : sizes R0.kids ≤ 1000000 := by subst hR0; subst hR1; subst hR2; exact appT_sizes t
 have hszR1 : sizes R1 ≤ 1000000 := by subst hR0; subst hR1; subst hR2; exact appL_sizes t
 clear hR0 hR1 hR2
 have HTOt : Hid (∀ (w : World), SlIn w 0 t.kids (.slice ta t.kids.length tc) → Calls Try.prog 14 #[.agg #[.int .i64 t.kind, .int .i64 t.num, (.slice ta t.kids.length tc)]] w fun e w' => Below w.heap.size w w' ∧ ∃ a c F, e = .returned (.agg #[.int .i64 t.kind, .int .i64 t.num, .slice a t.kids.length c]) ∧ SlOwn w' t.kids (.slice a t.kids.length c) F ∧ F.Nodup ∧ ∀ g ∈ F, w.heap.size ≤ g ∧ g < w'.heap.size) := fun w h => toO_made t w _ (by omega) ⟨_, rfl, h⟩
 have HEQt : Hid (∀ (w : World) (v1 v2 : Value), TmIn w 0 t v1 → TmIn w 0 t v2 → Calls Try.prog 16 #[v1, v2] w (EqPost w true)) := fun w v1 v2 h1 h2 => by have := eqT_any t t w v1 v2 h1 h2; rwa [same_self] at this
 have HEQR0 : Hid (∀ (w : World) (v1 v2 : Value), TmIn w 0 R0 v1 → TmIn w 0 R0 v2 → Calls Try.prog 16 #[v1, v2] w (EqPost w true)) := fun w v1 v2 h1 h2 => by have := eqT_any R0 R0 w v1 v2 h1 h2; rwa [same_self] at this
 have HEQR1 : Hid (∀ (w : World) (v1 v2 : Value), SlIn w 0 R1 v1 → SlIn w 0 R1 v2 → Calls Try.prog 17 #[v1, v2] w (EqPost w true)) := fun w v1 v2 h1 h2 => by have := eqS_any R1 R1 w v1 v2 h1 h2; rwa [same_self] at this
 have hrr2 : (R2 != R2) = false := by simp
 have hkt : (0 : Int) ≤ 1 ∧ (1 : Int) + 2 * (sizes t.kids : Int) ≤ 4611686018427387904 := by omega
 have HKt := tuck hkt
 have hkend : ¬ ((1 : Int) + 2 * (sizes t.kids : Int)) < 0 := by omega
 have hm0 : (0 : Int) ≤ 1 ∧ (1 : Int) + 2 * (sizes R0.kids : Int) ≤ 4611686018427387904 := by omega
 have HM0 := tuck hm0
 have hmn0 : ¬ ((1 : Int) + 2 * (sizes R0.kids : Int)) < 0 := by omega
 have hm1 : (0 : Int) ≤ (1 : Int) + 2 * (sizes R0.kids : Int) ∧ (1 : Int) + 2 * (sizes R0.kids : Int) + 2 * (sizes R1 : Int) ≤ 4611686018427387904 := by omega
 have HM1 := tuck hm1
 have hmn1 : ¬ ((1 : Int) + 2 * (sizes R0.kids : Int) + 2 * (sizes R1 : Int)) < 0 := by omega
 clear hszR0 hszR1 hszt hleft1 hl1b hkt hm0 hm1
 go_enter Try.func8, Try.ntmps8
 go_wp2_with fail
 refine (HSZt.out _ (HSt.out.below (below1 _ _))).mono ?_
 rintro e w1 ⟨rfl, hb⟩
 have HXt := tuck ((BoxAt.new w t.kind t.num (.slice ta t.kids.length tc) 24).below hb)
 have HB : Hid (Bel w w1) := tuck ⟨bAfter (below1 _ _) hb⟩
 clear hb
 obtain ⟨zt, c0t, c1t, c2t⟩ := HXt.out
 go_wp2_with fail
 refine (HTOt.out _ (HSt.out.below HB.out.be)).mono ?_
 rintro e wc8t ⟨hb, u8ta, u8tc, FUt, rfl, hsx, hnx, hFx⟩
 have H8t := tuck (hsx.sl (B := 0) (fun _ _ => Nat.zero_le _))
 replace HXt := tuck (HXt.out.below hb)
 replace HB := tuck (HB.out.below hb)
 clear hb hsx hnx hFx
 clear zt c0t c1t c2t
 obtain ⟨zt, c0t, c1t, c2t⟩ := HXt.out
 go_wp2_with fail
 refine (HSP.out _ _ ⟨_, rfl, H8t.out⟩).mono ?_
 rintro e w8 ⟨hb, u8a0, u8c0, u8a1, u8c1, rfl, hw0, hw1⟩
 have H8W0 := tuck (hw0.mono (B' := 0) (Nat.zero_le _))
 have H8W1 := tuck (hw1.mono (B' := 0) (Nat.zero_le _))
 replace HXt := tuck (HXt.out.below hb)
 replace HB := tuck (HB.out.below hb)
 clear hb hw0 hw1
 clear H8t
 clear zt c0t c1t c2t
 obtain ⟨zt, c0t, c1t, c2t⟩ := HXt.out
 go_wp2_with fail
 have hbx := below1 w8 (.cells #[.int .i64 R0.kind, .int .i64 R0.num, .slice u8a0 R0.kids.length u8c0] 29)
 have V8 := tuck (VarAt.new w8 R0.kind R0.num (.slice u8a0 R0.kids.length u8c0))
 have hzz : w8.heap.size < (w8.alloc (.cells #[.int .i64 R0.kind, .int .i64 R0.num, .slice u8a0 R0.kids.length u8c0] 29)).heap.size := by simp
 replace HXt := tuck (HXt.out.below hbx)
 replace HB := tuck (HB.out.below hbx)
 replace H8W0 := tuck (H8W0.out.below hbx)
 replace H8W1 := tuck (H8W1.out.below hbx)
 clear hbx
 generalize w8.alloc (.cells #[.int .i64 R0.kind, .int .i64 R0.num, .slice u8a0 R0.kids.length u8c0] 29) = W8 at *
 generalize w8.heap.size = g8 at *
 have HZ8 := tuck hzz
 clear hzz
 clear zt c0t c1t c2t
 have HBW : Hid (Bel W8 W8) := tuck ⟨Below.refl _ _⟩
 have HL1t : Hid (w.heap.size < W8.heap.size) := tuck HXt.out.1
 have HL0 : Hid (w.heap.size ≤ W8.heap.size) := tuck HB.out.be.size
 have HL8 : Hid (g8 < W8.heap.size) := tuck V8.out.facts.1
 refine (HTOt.out _ (HSt.out.below HB.out.be)).mono ?_
 rintro e wxt ⟨hb, uxta, uxtc, Ft, rfl, hsx, hnx, hFx⟩
 have HOt := tuck (OwnB.of hsx hnx hFx)
 have HNt := tuck hb.size
 replace HXt := tuck (HXt.out.below hb)
 replace HB := tuck (HB.out.below hb)
 replace V8 := tuck (V8.out.below hb)
 replace HBW := tuck (HBW.out.below hb)
 clear hb hsx hnx hFx
 obtain ⟨zt, c0t, c1t, c2t⟩ := HXt.out
 obtain ⟨z8, b0, b1, b2, bf⟩ := V8.out.facts
 go_wp2_with fail
 clear z8 b0 b1 b2 bf
 clear zt c0t c1t c2t
 have hbx := below1 wxt (.cells #[.int .i64 t.kind, .int .i64 t.num, .slice uxta t.kids.length uxtc] 29)
 have VXt := tuck (VarAt.new wxt t.kind t.num (.slice uxta t.kids.length uxtc))
 have hzz : wxt.heap.size < (wxt.alloc (.cells #[.int .i64 t.kind, .int .i64 t.num, .slice uxta t.kids.length uxtc] 29)).heap.size := by simp
 replace HXt := tuck (HXt.out.below hbx)
 replace HB := tuck (HB.out.below hbx)
 replace V8 := tuck (V8.out.below hbx)
 replace HBW := tuck (HBW.out.below hbx)
 replace HOt := tuck (HOt.out.below hbx)
 clear hbx
 generalize wxt.alloc (.cells #[.int .i64 t.kind, .int .i64 t.num, .slice uxta t.kids.length uxtc] 29) = WXt at *
 generalize wxt.heap.size = gxt at *
 have HZXt := tuck hzz
 clear hzz
 refine (HIM.out _ _ ⟨_, rfl, HOt.out.sl⟩).mono ?_
 rintro e wG ⟨hb, Ga0, Gc0, Ga1, Gc1, FG0, FG1, rfl, hw0, hw1, hnd, hF⟩
 obtain ⟨hn0, hn1, hdj⟩ := List.nodup_append.1 hnd
 have HOG0 := tuck (OwnB.of hw0 hn0 (fun g hg => hF g (List.mem_append.2 (Or.inl hg))))
 have HOG1 := tuck (OwnB.of hw1 hn1 (fun g hg => hF g (List.mem_append.2 (Or.inr hg))))
 have HDA : Hid (∀ g, g ∈ FG1 → g ∈ FG0 → False) := tuck fun g h2 h1 => hdj g h1 g h2 rfl
 have HDB : Hid (∀ g, g ∈ FG0 → g ∈ FG1 → False) := tuck fun g h1 h2 => hdj g h1 g h2 rfl
 clear hn0 hn1 hdj
 have HNG := tuck hb.size
 replace HXt := tuck (HXt.out.below hb)
 replace HB := tuck (HB.out.below hb)
 replace V8 := tuck (V8.out.below hb)
 replace HBW := tuck (HBW.out.below hb)
 replace HOt := tuck (HOt.out.below hb)
 replace VXt := tuck (VXt.out.below hb)
 clear hb hnd hF hw0 hw1
 obtain ⟨zt, c0t, c1t, c2t⟩ := HXt.out
 obtain ⟨z8, b0, b1, b2, bf⟩ := V8.out.facts
 obtain ⟨zxt, x0t, x1t, x2t, xft⟩ := VXt.out.facts
 go_wp2_with fail
 clear z8 b0 b1 b2 bf zxt x0t x1t x2t xft
 clear zt c0t c1t c2t
 have hbx := below1 wG (.cells #[.int .i64 R0.kind, .int .i64 R0.num, .slice Ga0 R0.kids.length Gc0] 29)
 have VG := tuck (VarAt.new wG R0.kind R0.num (.slice Ga0 R0.kids.length Gc0))
 have hzz : wG.heap.size < (wG.alloc (.cells #[.int .i64 R0.kind, .int .i64 R0.num, .slice Ga0 R0.kids.length Gc0] 29)).heap.size := by simp
 replace HXt := tuck (HXt.out.below hbx)
 replace HB := tuck (HB.out.below hbx)
 replace V8 := tuck (V8.out.below hbx)
 replace HBW := tuck (HBW.out.below hbx)
 replace HOt := tuck (HOt.out.below hbx)
 replace VXt := tuck (VXt.out.below hbx)
 replace HOG0 := tuck (HOG0.out.below hbx)
 replace HOG1 := tuck (HOG1.out.below hbx)
 clear hbx
 generalize wG.alloc (.cells #[.int .i64 R0.kind, .int .i64 R0.num, .slice Ga0 R0.kids.length Gc0] 29) = WG at *
 generalize wG.heap.size = gG at *
 have HZG := tuck hzz
 clear hzz
 refine (HEQR0.out _ _ _ ⟨_, rfl, HOG0.out.sl⟩ ⟨_, rfl, H8W0.out.below HBW.out.be⟩).mono ?_
 rintro e wE0 ⟨rfl, hb⟩
 replace HXt := tuck (HXt.out.below hb)
 replace HB := tuck (HB.out.below hb)
 replace V8 := tuck (V8.out.below hb)
 replace HBW := tuck (HBW.out.below hb)
 replace HOt := tuck (HOt.out.below hb)
 replace VXt := tuck (VXt.out.below hb)
 replace HOG0 := tuck (HOG0.out.below hb)
 replace HOG1 := tuck (HOG1.out.below hb)
 replace VG := tuck (VG.out.below hb)
 clear hb
 obtain ⟨zt, c0t, c1t, c2t⟩ := HXt.out
 obtain ⟨z8, b0, b1, b2, bf⟩ := V8.out.facts
 obtain ⟨z11, d0, d1, d2, df⟩ := VG.out.facts
 obtain ⟨zxt, x0t, x1t, x2t, xft⟩ := VXt.out.facts
 go_wp2_with fail
 clear z8 b0 b1 b2 bf z11 d0 d1 d2 df zxt x0t x1t x2t xft
 clear zt c0t c1t c2t
 refine (HEQR1.out _ _ _ (HOG1.out.sl) (H8W1.out.below HBW.out.be)).mono ?_
 rintro e wE1 ⟨rfl, hb⟩
 replace HXt := tuck (HXt.out.below hb)
 replace HB := tuck (HB.out.below hb)
 replace V8 := tuck (V8.out.below hb)
 replace HBW := tuck (HBW.out.below hb)
 replace HOt := tuck (HOt.out.below hb)
 replace VXt := tuck (VXt.out.below hb)
 replace HOG0 := tuck (HOG0.out.below hb)
 replace HOG1 := tuck (HOG1.out.below hb)
 replace VG := tuck (VG.out.below hb)
 clear hb
 obtain ⟨zt, c0t, c1t, c2t⟩ := HXt.out
 obtain ⟨z8, b0, b1, b2, bf⟩ := V8.out.facts
 obtain ⟨z11, d0, d1, d2, df⟩ := VG.out.facts
 obtain ⟨zxt, x0t, x1t, x2t, xft⟩ := VXt.out.facts
 go_wp2_with fail
 clear z8 b0 b1 b2 bf z11 d0 d1 d2 df zxt x0t x1t x2t xft
 clear zt c0t c1t c2t
 go_region_held3 (fun w' => Below wE1.heap.size wE1 w' ∧ (w.heap.size < w'.heap.size ∧ w'.cell? ⟨w.heap.size, 0, none⟩ = some (.int .i64 t.kind) ∧ w'.cell? ⟨w.heap.size, 1, none⟩ = some (.int .i64 t.num) ∧ w'.cell? ⟨w.heap.size, 2, none⟩ = some (.slice ta t.kids.length tc)) ∧ (gxt < w'.heap.size ∧ w'.cell? ⟨gxt, 0, none⟩ = some (.int .i64 t.kind) ∧ w'.cell? ⟨gxt, 1, none⟩ = some (.int .i64 t.num) ∧ w'.cell? ⟨gxt, 2, none⟩ = some (.slice uxta t.kids.length uxtc))) (first | exact ⟨(Below.refl _ _).drew, HXt.out, VXt.out.four⟩ | exact holdT (by assumption) hb71 | exact holdT (by assumption) hb72) (first | (go_at_call 14; refine (HTOt.out _ (HSt.out.below (bAfter HB.out.be (hold_be (by assumption))))).mono ?_; rintro e w71t ⟨hb71, qa, qc, F71, rfl, hs71, -, -⟩) | (go_at_call 16; refine (HEQt.out _ _ _ ⟨_, rfl, HOt.out.sl.below (hold_be (by assumption))⟩ ⟨_, rfl, hs71.sl (fun _ _ => Nat.zero_le _)⟩).mono ?_; rintro e w72t ⟨rfl, hb72⟩))
 have hb : Below wE1.heap.size wE1 w72t := hold_be (by assumption)
 replace HXt := tuck (HXt.out.below hb)
 replace HB := tuck (HB.out.below hb)
 replace V8 := tuck (V8.out.below hb)
 replace HBW := tuck (HBW.out.below hb)
 replace HOt := tuck (HOt.out.below hb)
 replace VXt := tuck (VXt.out.below hb)
 replace HOG0 := tuck (HOG0.out.below hb)
 replace HOG1 := tuck (HOG1.out.below hb)
 replace VG := tuck (VG.out.below hb)
 clear hb hb71 hb72 hs71
 obtain ⟨zt, c0t, c1t, c2t⟩ := HXt.out
 obtain ⟨z8, b0, b1, b2, bf⟩ := V8.out.facts
 obtain ⟨z11, d0, d1, d2, df⟩ := VG.out.facts
 obtain ⟨zxt, x0t, x1t, x2t, xft⟩ := VXt.out.facts
 go_wp2_with fail
 clear z8 b0 b1 b2 bf z11 d0 d1 d2 df zxt x0t x1t x2t xft
 clear zt c0t c1t c2t
 have geHOt := HOt.out.ge
 have ltHOt := HOt.out.lt
 have geHOG0 := HOG0.out.ge
 have ltHOG0 := HOG0.out.lt
 have geHOG1 := HOG1.out.ge
 have ltHOG1 := HOG1.out.lt
 refine (markT_any t Ft (1) _ _ HKt.out.1 HKt.out.2 HOt.out.nd HOt.out.lts HOt.out.own).mono ?_
 rintro e wmt ⟨rfl, hown, hbut⟩
 have e0 := HL1t.out; have e1 := HL0.out; have e2 := HL8.out; have e3 := HNt.out; have e4 := HZXt.out; have e5 := HNG.out; have e6 := HZG.out
 skip
 replace HXt := tuck (HXt.out.but hbut (fun hf => by have h1 := geHOt _ hf; have h2 := ltHOt _ hf; omega))
 replace HB := tuck (HB.out.but hbut (fun g hf => by have h1 := geHOt _ hf; have h2 := ltHOt _ hf; omega))
 replace V8 := tuck (V8.out.but hbut (fun hf => by have h1 := geHOt _ hf; have h2 := ltHOt _ hf; omega))
 replace HBW := tuck (HBW.out.but hbut (fun g hf => by have h1 := geHOt _ hf; have h2 := ltHOt _ hf; omega))
 replace HOG0 := tuck (HOG0.out.but hbut (fun g hg hf => by have h1 := geHOt _ hf; have h2 := ltHOt _ hf; have h3 := geHOG0 _ hg; have h4 := ltHOG0 _ hg; omega))
 replace HOG1 := tuck (HOG1.out.but hbut (fun g hg hf => by have h1 := geHOt _ hf; have h2 := ltHOt _ hf; have h3 := geHOG1 _ hg; have h4 := ltHOG1 _ hg; omega))
 replace VG := tuck (VG.out.but hbut (fun hf => by have h1 := geHOt _ hf; have h2 := ltHOt _ hf; omega))
 clear hbut hown geHOt ltHOt geHOG0 ltHOG0 geHOG1 ltHOG1
 clear e0 e1 e2 e3 e4 e5 e6
 clear VXt
 clear HOt
 obtain ⟨zt, c0t, c1t, c2t⟩ := HXt.out
 obtain ⟨z8, b0, b1, b2, bf⟩ := V8.out.facts
 obtain ⟨z11, d0, d1, d2, df⟩ := VG.out.facts
 go_wp2_with fail
 clear z8 b0 b1 b2 bf z11 d0 d1 d2 df
 clear zt c0t c1t c2t
 refine (HEQR0.out _ _ _ ⟨_, rfl, HOG0.out.sl⟩ ⟨_, rfl, H8W0.out.below HBW.out.be⟩).mono ?_
 rintro e wK0 ⟨rfl, hb⟩
 replace HXt := tuck (HXt.out.below hb)
 replace HB := tuck (HB.out.below hb)
 replace V8 := tuck (V8.out.below hb)
 replace HBW := tuck (HBW.out.below hb)
 replace HOG0 := tuck (HOG0.out.below hb)
 replace HOG1 := tuck (HOG1.out.below hb)
 replace VG := tuck (VG.out.below hb)
 clear hb
 obtain ⟨zt, c0t, c1t, c2t⟩ := HXt.out
 obtain ⟨z8, b0, b1, b2, bf⟩ := V8.out.facts
 obtain ⟨z11, d0, d1, d2, df⟩ := VG.out.facts
 go_wp2_with fail
 clear z8 b0 b1 b2 bf z11 d0 d1 d2 df
 clear zt c0t c1t c2t
 refine (HEQR1.out _ _ _ (HOG1.out.sl) (H8W1.out.below HBW.out.be)).mono ?_
 rintro e wK1 ⟨rfl, hb⟩
 replace HXt := tuck (HXt.out.below hb)
 replace HB := tuck (HB.out.below hb)
 replace V8 := tuck (V8.out.below hb)
 replace HBW := tuck (HBW.out.below hb)
 replace HOG0 := tuck (HOG0.out.below hb)
 replace HOG1 := tuck (HOG1.out.below hb)
 replace VG := tuck (VG.out.below hb)
 clear hb
 obtain ⟨zt, c0t, c1t, c2t⟩ := HXt.out
 obtain ⟨z8, b0, b1, b2, bf⟩ := V8.out.facts
 obtain ⟨z11, d0, d1, d2, df⟩ := VG.out.facts
 go_wp2_with fail
 clear z8 b0 b1 b2 bf z11 d0 d1 d2 df
 clear zt c0t c1t c2t
 have geHOG0 := HOG0.out.ge
 have ltHOG0 := HOG0.out.lt
 have geHOG1 := HOG1.out.ge
 have ltHOG1 := HOG1.out.lt
 refine (markT_any R0 FG0 (1) _ _ HM0.out.1 HM0.out.2 HOG0.out.nd HOG0.out.lts HOG0.out.own).mono ?_
 rintro e wn0 ⟨rfl, hown, hbut⟩
 have e0 := HL1t.out; have e1 := HL0.out; have e2 := HL8.out; have e3 := HNt.out; have e4 := HZXt.out; have e5 := HNG.out; have e6 := HZG.out
 skip
 replace HXt := tuck (HXt.out.but hbut (fun hf => by have h1 := geHOG0 _ hf; have h2 := ltHOG0 _ hf; omega))
 replace HB := tuck (HB.out.but hbut (fun g hf => by have h1 := geHOG0 _ hf; have h2 := ltHOG0 _ hf; omega))
 replace V8 := tuck (V8.out.but hbut (fun hf => by have h1 := geHOG0 _ hf; have h2 := ltHOG0 _ hf; omega))
 replace HBW := tuck (HBW.out.but hbut (fun g hf => by have h1 := geHOG0 _ hf; have h2 := ltHOG0 _ hf; omega))
 replace HOG1 := tuck (HOG1.out.but hbut (fun g hg hf => HDA.out _ hg hf))
 replace VG := tuck (VG.out.but hbut (fun hf => by have h1 := geHOG0 _ hf; have h2 := ltHOG0 _ hf; omega))
 replace HOG0 := tuck (HOG0.out.marked hown hbut.size)
 clear hbut hown geHOG0 ltHOG0 geHOG1 ltHOG1
 clear e0 e1 e2 e3 e4 e5 e6
 obtain ⟨zt, c0t, c1t, c2t⟩ := HXt.out
 obtain ⟨z8, b0, b1, b2, bf⟩ := V8.out.facts
 obtain ⟨z11, d0, d1, d2, df⟩ := VG.out.facts
 go_wp2_with fail
 clear z8 b0 b1 b2 bf z11 d0 d1 d2 df
 clear zt c0t c1t c2t
 have geHOG0 := HOG0.out.ge
 have ltHOG0 := HOG0.out.lt
 have geHOG1 := HOG1.out.ge
 have ltHOG1 := HOG1.out.lt
 refine (markL_but R1 FG1 ((1 : Int) + 2 * (sizes R0.kids : Int)) _ _ HM1.out.1 HM1.out.2 HOG1.out.nd HOG1.out.own).mono ?_
 rintro e wn1 ⟨rfl, hown, hbut⟩
 have e0 := HL1t.out; have e1 := HL0.out; have e2 := HL8.out; have e3 := HNt.out; have e4 := HZXt.out; have e5 := HNG.out; have e6 := HZG.out
 skip
 replace HXt := tuck (HXt.out.but hbut (fun hf => by have h1 := geHOG1 _ hf; have h2 := ltHOG1 _ hf; omega))
 replace HB := tuck (HB.out.but hbut (fun g hf => by have h1 := geHOG1 _ hf; have h2 := ltHOG1 _ hf; omega))
 replace V8 := tuck (V8.out.but hbut (fun hf => by have h1 := geHOG1 _ hf; have h2 := ltHOG1 _ hf; omega))
 replace HBW := tuck (HBW.out.but hbut (fun g hf => by have h1 := geHOG1 _ hf; have h2 := ltHOG1 _ hf; omega))
 replace HOG0 := tuck (HOG0.out.but hbut (fun g hg hf => HDB.out _ hg hf))
 replace VG := tuck (VG.out.but hbut (fun hf => by have h1 := geHOG1 _ hf; have h2 := ltHOG1 _ hf; omega))
 replace HOG1 := tuck (HOG1.out.marked hown hbut.size)
 clear hbut hown geHOG0 ltHOG0 geHOG1 ltHOG1
 clear e0 e1 e2 e3 e4 e5 e6
 obtain ⟨zt, c0t, c1t, c2t⟩ := HXt.out
 obtain ⟨z8, b0, b1, b2, bf⟩ := V8.out.facts
 obtain ⟨z11, d0, d1, d2, df⟩ := VG.out.facts
 go_wp2_with fail
 clear z8 b0 b1 b2 bf z11 d0 d1 d2 df
 clear zt c0t c1t c2t
 refine (heldT_any R0 R0.kids 0 (1) _ _ HM0.out.1 HM0.out.2 HOG0.out.sl).mono ?_
 rintro e wh0 ⟨rfl, hb⟩
 replace HXt := tuck (HXt.out.below hb)
 replace HB := tuck (HB.out.below hb)
 replace V8 := tuck (V8.out.below hb)
 replace HBW := tuck (HBW.out.below hb)
 replace HOG0 := tuck (HOG0.out.below hb)
 replace HOG1 := tuck (HOG1.out.below hb)
 replace VG := tuck (VG.out.below hb)
 clear hb
 obtain ⟨zt, c0t, c1t, c2t⟩ := HXt.out
 obtain ⟨z8, b0, b1, b2, bf⟩ := V8.out.facts
 obtain ⟨z11, d0, d1, d2, df⟩ := VG.out.facts
 go_wp2_with fail
 clear z8 b0 b1 b2 bf z11 d0 d1 d2 df
 clear zt c0t c1t c2t
 refine (heldL_any R1 0 ((1 : Int) + 2 * (sizes R0.kids : Int)) _ _ HM1.out.1 HM1.out.2 HOG1.out.sl).mono ?_
 rintro e wh1 ⟨rfl, hb⟩
 replace HXt := tuck (HXt.out.below hb)
 replace HB := tuck (HB.out.below hb)
 replace V8 := tuck (V8.out.below hb)
 replace HBW := tuck (HBW.out.below hb)
 replace HOG0 := tuck (HOG0.out.below hb)
 replace HOG1 := tuck (HOG1.out.below hb)
 replace VG := tuck (VG.out.below hb)
 clear hb
 obtain ⟨zt, c0t, c1t, c2t⟩ := HXt.out
 obtain ⟨z8, b0, b1, b2, bf⟩ := V8.out.facts
 obtain ⟨z11, d0, d1, d2, df⟩ := VG.out.facts
 go_wp2_with fail
 clear z8 b0 b1 b2 bf z11 d0 d1 d2 df
 clear zt c0t c1t c2t
 obtain ⟨zt, c0t, c1t, c2t⟩ := HXt.out
 refine (HTOt.out _ (HSt.out.below HB.out.be)).mono ?_
 rintro e wcHt ⟨hb, uHta, uHtc, FUt, rfl, hsx, hnx, hFx⟩
 have HHt := tuck (hsx.sl (B := 0) (fun _ _ => Nat.zero_le _))
 replace HXt := tuck (HXt.out.below hb)
 replace HB := tuck (HB.out.below hb)
 replace V8 := tuck (V8.out.below hb)
 replace HBW := tuck (HBW.out.below hb)
 replace HOG0 := tuck (HOG0.out.below hb)
 replace HOG1 := tuck (HOG1.out.below hb)
 replace VG := tuck (VG.out.below hb)
 clear hb hsx hnx hFx
 clear zt c0t c1t c2t
 obtain ⟨zt, c0t, c1t, c2t⟩ := HXt.out
 obtain ⟨z8, b0, b1, b2, bf⟩ := V8.out.facts
 obtain ⟨z11, d0, d1, d2, df⟩ := VG.out.facts
 go_wp2_with fail
 clear z8 b0 b1 b2 bf z11 d0 d1 d2 df
 refine (HIM.out _ _ ⟨_, rfl, HHt.out⟩).mono ?_
 rintro e wH ⟨hb, uHa0, uHc0, uHa1, uHc1, FH0, FH1, rfl, hw0, hw1, hnd, hF⟩
 have HHW0 := tuck (hw0.sl (B := 0) (fun _ _ => Nat.zero_le _))
 have HHW1 := tuck (hw1.sl (B := 0) (fun _ _ => Nat.zero_le _))
 replace HXt := tuck (HXt.out.below hb)
 replace HB := tuck (HB.out.below hb)
 replace V8 := tuck (V8.out.below hb)
 replace HBW := tuck (HBW.out.below hb)
 replace HOG0 := tuck (HOG0.out.below hb)
 replace HOG1 := tuck (HOG1.out.below hb)
 replace VG := tuck (VG.out.below hb)
 clear hb hnd hF hw0 hw1
 clear HHt
 clear zt c0t c1t c2t
 obtain ⟨zt, c0t, c1t, c2t⟩ := HXt.out
 obtain ⟨z8, b0, b1, b2, bf⟩ := V8.out.facts
 obtain ⟨z11, d0, d1, d2, df⟩ := VG.out.facts
 go_wp2_with fail
 clear z8 b0 b1 b2 bf z11 d0 d1 d2 df
 have hbx := below1 wH (.cells #[.int .i64 R0.kind, .int .i64 R0.num, .slice uHa0 R0.kids.length uHc0] 29)
 have VH := tuck (VarAt.new wH R0.kind R0.num (.slice uHa0 R0.kids.length uHc0))
 have hzz : wH.heap.size < (wH.alloc (.cells #[.int .i64 R0.kind, .int .i64 R0.num, .slice uHa0 R0.kids.length uHc0] 29)).heap.size := by simp
 replace HXt := tuck (HXt.out.below hbx)
 replace HB := tuck (HB.out.below hbx)
 replace V8 := tuck (V8.out.below hbx)
 replace HBW := tuck (HBW.out.below hbx)
 replace HOG0 := tuck (HOG0.out.below hbx)
 replace HOG1 := tuck (HOG1.out.below hbx)
 replace VG := tuck (VG.out.below hbx)
 replace HHW0 := tuck (HHW0.out.below hbx)
 replace HHW1 := tuck (HHW1.out.below hbx)
 clear hbx
 generalize wH.alloc (.cells #[.int .i64 R0.kind, .int .i64 R0.num, .slice uHa0 R0.kids.length uHc0] 29) = WH at *
 generalize wH.heap.size = gH at *
 have HZH := tuck hzz
 clear hzz
 clear zt c0t c1t c2t
 refine (HEQR0.out _ _ _ ⟨_, rfl, HHW0.out⟩ ⟨_, rfl, H8W0.out.below HBW.out.be⟩).mono ?_
 rintro e wF0 ⟨rfl, hb⟩
 replace HXt := tuck (HXt.out.below hb)
 replace HB := tuck (HB.out.below hb)
 replace V8 := tuck (V8.out.below hb)
 replace HBW := tuck (HBW.out.below hb)
 replace HOG0 := tuck (HOG0.out.below hb)
 replace HOG1 := tuck (HOG1.out.below hb)
 replace VG := tuck (VG.out.below hb)
 replace VH := tuck (VH.out.below hb)
 replace HHW0 := tuck (HHW0.out.below hb)
 replace HHW1 := tuck (HHW1.out.below hb)
 clear hb
 obtain ⟨zt, c0t, c1t, c2t⟩ := HXt.out
 obtain ⟨z8, b0, b1, b2, bf⟩ := V8.out.facts
 obtain ⟨z11, d0, d1, d2, df⟩ := VG.out.facts
 obtain ⟨zh, y0, y1, y2, yf⟩ := VH.out.facts
 go_wp2_with fail
 clear z8 b0 b1 b2 bf z11 d0 d1 d2 df zh y0 y1 y2 yf
 clear zt c0t c1t c2t
 refine (HEQR1.out _ _ _ (HHW1.out) (H8W1.out.below HBW.out.be)).mono ?_
 rintro e wF1 ⟨rfl, hb⟩
 replace HXt := tuck (HXt.out.below hb)
 replace HB := tuck (HB.out.below hb)
 replace V8 := tuck (V8.out.below hb)
 replace HBW := tuck (HBW.out.below hb)
 replace HOG0 := tuck (HOG0.out.below hb)
 replace HOG1 := tuck (HOG1.out.below hb)
 replace VG := tuck (VG.out.below hb)
 replace VH := tuck (VH.out.below hb)
 replace HHW0 := tuck (HHW0.out.below hb)
 replace HHW1 := tuck (HHW1.out.below hb)
 clear hb
 obtain ⟨zt, c0t, c1t, c2t⟩ := HXt.out
 obtain ⟨z8, b0, b1, b2, bf⟩ := V8.out.facts
 obtain ⟨z11, d0, d1, d2, df⟩ := VG.out.facts
 obtain ⟨zh, y0, y1, y2, yf⟩ := VH.out.facts
 go_wp2_with fail
 clear z8 b0 b1 b2 bf z11 d0 d1 d2 df zh y0 y1 y2 yf
 clear zt c0t c1t c2t
 refine (heldT_any R0 R0.kids 0 (1) _ _ HM0.out.1 HM0.out.2 HOG0.out.sl).mono ?_
 rintro e wi0 ⟨rfl, hb⟩
 replace HXt := tuck (HXt.out.below hb)
 replace HB := tuck (HB.out.below hb)
 replace V8 := tuck (V8.out.below hb)
 replace HBW := tuck (HBW.out.below hb)
 replace HOG0 := tuck (HOG0.out.below hb)
 replace HOG1 := tuck (HOG1.out.below hb)
 replace VG := tuck (VG.out.below hb)
 replace VH := tuck (VH.out.below hb)
 clear hb
 obtain ⟨zt, c0t, c1t, c2t⟩ := HXt.out
 obtain ⟨z8, b0, b1, b2, bf⟩ := V8.out.facts
 obtain ⟨z11, d0, d1, d2, df⟩ := VG.out.facts
 obtain ⟨zh, y0, y1, y2, yf⟩ := VH.out.facts
 go_wp2_with fail
 clear z8 b0 b1 b2 bf z11 d0 d1 d2 df zh y0 y1 y2 yf
 clear zt c0t c1t c2t
 refine (heldL_any R1 0 ((1 : Int) + 2 * (sizes R0.kids : Int)) _ _ HM1.out.1 HM1.out.2 HOG1.out.sl).mono ?_
 rintro e wi1 ⟨rfl, hb⟩
 replace HXt := tuck (HXt.out.below hb)
 replace HB := tuck (HB.out.below hb)
 replace V8 := tuck (V8.out.below hb)
 replace HBW := tuck (HBW.out.below hb)
 replace HOG0 := tuck (HOG0.out.below hb)
 replace HOG1 := tuck (HOG1.out.below hb)
 replace VG := tuck (VG.out.below hb)
 replace VH := tuck (VH.out.below hb)
 clear hb
 go_wp2_with fail
 go_ret
 exact ⟨rfl, HB.out.be⟩
set_option maxRecDepth 100000 in
theorem lifted (os : Os) (started : os.Started) (H : Type) (enc : TypeId × Value → H) :
  ReturnsInHanded {} Try.checked os 8 .any (Rows.fnExactSplitAppSpec.pre6 enc Try.prog Try.f8 Rows.fnExactSplitAppRow.domain false) (Rows.fnExactSplitAppSpec.post enc Try.prog Try.f8 false true false false) := by
 refine returnsInHanded_of_change (C := Try.checked) own started (by kernel_rfl) Try.func8
  (ChangeSpec.witness6 (enc := enc) (C := Try.checked) false ⟨#[], #[.agg #[.int .i64 0, .int .i64 0, .slice none 0 0]], []⟩ 8 (by kernel_rfl) (by kernel_rfl) (by kernel_rfl) (by kernel_rfl)) ?_
 intro W base args ds gs before hval0 hW hcnd _
 have hval : ∀ (j : Nat) t v, Try.f8.params[j]? = some t → args[j]? = some v → Value.okWide Try.prog W .any base t v := hval0
 have hW' := hW
 obtain ⟨p, q, hA0, hV, rfl, hfz, hnd⟩ := hW
 have hA : DataW.TrodAll enc Try.prog W 0 (fun _ => true) true Try.f8.params.toList args.toList ds p := hA0
 rw [Try.params8] at hA hval
 obtain ⟨v0, vs0, d0, ds0, p0, q0, hargs, rfl, rfl, h0, r0⟩ := trodAll_cons hA
 obtain ⟨rfl, rfl, rfl⟩ := trodAll_nil r0
 obtain rfl : args = #[v0] := by cases args; simp_all
 obtain ⟨t0, ht0⟩ := open_term (hval 0 24 v0 rfl rfl) h0
 refine (walk t0 W v0 ht0).mono fun e W' ⟨he, hb⟩ => ?_
 subst he
 exact ⟨_, rfl, law_post rfl rfl (fun gs h => by subst h; rfl) (by rw [Try.params8]; exact readable_FnExactSplitApp) laid hW' hb⟩
theorem over : Rows.fnExactSplitAppRow.holds Try.pinned (OpenSpec.ofChange Rows.fnExactSplitAppSpec) :=
 OpenClaim.holds_of_wide 8 Try.f8 rfl rfl rfl rfl rfl rfl rfl ⟨rfl, rfl, rfl, rfl, rfl⟩ rfl rfl rfl rfl rfl (by kernel_rfl) Try.func8 (by kernel_rfl)
  (of_decide_eq_true (by kernel_rfl)) (by unfold Func.isWrapper; first | (rw [if_pos (by decide +kernel)]; kernel_rfl) | (rw [if_neg (by decide +kernel)]; exact ⟨rfl, rfl⟩))
  (fun os started H enc _ => lifted os started H enc)
theorem proved : Rows.FnExactSplitAppSaid :=
 over
end Go.Proofs.Ytakdfpoigjgcnaa.fnExactSplitApp
