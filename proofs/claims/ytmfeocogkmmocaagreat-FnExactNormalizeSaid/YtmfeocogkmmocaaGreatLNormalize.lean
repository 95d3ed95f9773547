/-
  The law FnExactNormalize: for every term (no ring among its parts) and every int, Normalize answers as its model, writes into no argument, and its answer is memory of its own.
-/
import Derived.Test.YtmfeocogkmmocaaGreatOpen
import Derived.Test.YtmfeocogkmmocaaGreatLawT
import Derived.Test.YtmfeocogkmmocaaGreatNormM
import Derived.Test.YtmfeocogkmmocaaGreatNormSp
namespace Go.Proofs.YtmfeocogkmmocaaGreat.fnExactNormalize
open Go.ChangeShapes Go.WideShapes Go.ChangeAt Go.RowKit Go.Deep
set_option linter.unusedVariables false

theorem readable_FnExactNormalize : ∀ t ∈ (#[24, 3] : Array TypeId).toList, Tryz.prog.readableRec t = true ∧ t < Tryz.prog.types.size := by
  intro t ht
  simp at ht
  rcases ht with rfl | rfl
  all_goals exact ⟨by kernel_rfl, of_decide_eq_true (by kernel_rfl)⟩
theorem laid : laidOutB Tryz.prog = true := by kernel_rfl

theorem orZero_sizes {P : Prop} {T : Tm} (h : P → T.Valid) : (1 : Int) + 2 * (sizes (orZero P T).kids : Int) ≤ 4611686018427387904 := by
  unfold orZero
  split
  · rename_i hp
    have := (valid_bounds (h hp)).1
    omega
  · simp [zeroT, Tm.kids, sizes]

set_option maxRecDepth 100000 in
set_option maxHeartbeats 1600000 in
/-- The walk. -/
theorem walk (t : Tm) (x0 : Int) (w : World) (v : Value) (h : TmIn w 0 t v) : Calls Tryz.prog 3 #[v, .int .i64 x0] w fun e w' => e = .returned (.bool true) ∧ Below w.heap.size w w' := by
  obtain ⟨s, rfl, hs⟩ := h
  obtain ⟨sa, sc, rfl⟩ := hs.form
  have HS := tuck hs
  have HSZ : Hid (∀ (w : World), SlIn w 0 t.kids (.slice sa t.kids.length sc) → Calls Tryz.prog 6 #[.agg #[.int .i64 t.kind, .int .i64 t.num, .slice sa t.kids.length sc], .int .i64 1048576] w (SzPost w (szV t.kids 1048576))) := fun w h => szT_any t 1048576 w _ (by omega) (by omega) ⟨_, rfl, h⟩
  by_cases hsz : sizes t.kids ≤ 1048576
  rotate_left
  · rw [szV_not (by omega)] at HSZ
    clear hs
    go_enter Tryz.func3, Tryz.ntmps3
    go_wp2_with (go_at_call 6; refine (HSZ.out _ (HS.out.below (below1 _ _))).mono ?_; rintro e w1 ⟨rfl, hb⟩; have HX := tuck ((BoxAt.new w t.kind t.num (.slice sa t.kids.length sc) 24).below hb); obtain ⟨z1, c0, c1, c2⟩ := HX.out; have HB := tuck (bAfter (below1 _ _) hb); clear hb)
    go_ret
    exact ⟨rfl, HB.out⟩
  rw [szV_of (by omega)] at HSZ
  have HSP : Hid (∀ (w : World) (v : Value), TmIn w 0 t v → Calls Tryz.prog 7 #[v, .int .i64 x0] w (SCodePost w (normC false false t x0) (normT false false t x0))) := fun w v h => normTS_any t hsz x0 w v h
  have HIM : Hid (∀ (w : World) (v : Value), TmIn w 0 t v → Calls Tryz.prog 9 #[v, .int .i64 x0] w (CodePost w (normC false false t x0) (normT false false t x0))) := fun w v h => normTI_any t x0 w v h
  have hszT : (1 : Int) + 2 * (sizes (normT false false t x0).kids : Int) ≤ 4611686018427387904 := normT_sizes _ _ _ _
  unfold SCodePost at HSP
  unfold CodePost at HIM
  have HTO : Hid (∀ (w : World), SlIn w 0 t.kids (.slice sa t.kids.length sc) → Calls Tryz.prog 8 #[.agg #[.int .i64 t.kind, .int .i64 t.num, .slice sa t.kids.length sc]] w (ToOwnT w t)) := fun w h => toO_any t w _ hsz ⟨_, rfl, h⟩
  have hszt : (1 : Int) + 2 * (sizes t.kids : Int) ≤ 4611686018427387904 := by omega
  have hkt : ¬ ((1 : Int) + 2 * (sizes t.kids : Int)) < 0 := by omega
  have hm : (0 : Int) ≤ 1048576 - (sizes t.kids : Int) := by omega
  generalize normT false false t x0 = T at *
  generalize normC false false t x0 = cc at *
  have HEQ : Hid (∀ (w : World) (v1 v2 : Value), TmIn w 0 T v1 → TmIn w 0 T v2 → Calls Tryz.prog 10 #[v1, v2] w (EqPost w true)) := fun w v1 v2 h1 h2 => by have := eqT_any T T w v1 v2 h1 h2; rwa [same_self] at this
  have HEQt : Hid (∀ (w : World) (v1 v2 : Value), TmIn w 0 t v1 → TmIn w 0 t v2 → Calls Tryz.prog 10 #[v1, v2] w (EqPost w true)) := fun w v1 v2 h1 h2 => by have := eqT_any t t w v1 v2 h1 h2; rwa [same_self] at this
  have hkm : ¬ ((1 : Int) + 2 * (sizes T.kids : Int)) < 0 := by omega
  have hrr : (cc != cc) = false := by simp
  have HSZT := tuck hszT
  have HSZt := tuck hszt
  clear hs hsz hszT hszt
  generalize (1048576 : Int) - (sizes t.kids : Int) = left at *
  go_enter Tryz.func3, Tryz.ntmps3
  go_wp2_with (go_at_call 6; refine (HSZ.out _ (HS.out.below (below1 _ _))).mono ?_; rintro e w1 ⟨rfl, hb⟩; have HX := tuck ((BoxAt.new w t.kind t.num (.slice sa t.kids.length sc) 24).below hb); obtain ⟨z1, c0, c1, c2⟩ := HX.out; have HB : Hid (Bel w w1) := tuck ⟨bAfter (below1 _ _) hb⟩; clear hb)
  -- the model's answer
  refine (HTO.out _ (HS.out.below HB.out.be)).mono ?_
  rintro e w2 ⟨hb, v, rfl, s2, F2, rfl, hs2, -, -⟩
  obtain ⟨a2, n2, rfl⟩ := hs2.form
  have H2 := tuck (hs2.sl (B := 0) (fun _ _ => Nat.zero_le _))
  replace HX := tuck (HX.out.below hb)
  replace HB := tuck (HB.out.below hb)
  clear z1 c0 c1 c2 hb hs2
  obtain ⟨z1, c0, c1, c2⟩ := HX.out
  go_wp2_with fail
  refine (HSP.out _ _ ⟨_, rfl, H2.out⟩).mono ?_
  rintro e w3 ⟨hb, v, rfl, s3, rfl, hin3⟩
  obtain ⟨a3, n3, rfl⟩ := hin3.form
  replace HX := tuck (HX.out.below hb)
  replace HB := tuck (HB.out.below hb)
  have HW0 := tuck hin3
  clear z1 c0 c1 c2 hb hin3 H2
  obtain ⟨z1, c0, c1, c2⟩ := HX.out
  go_wp2_with fail
  have hbx := below1 w3 (.cells #[.int .i64 T.kind, .int .i64 T.num, .slice a3 T.kids.length n3] 28)
  replace HX := tuck (HX.out.below hbx)
  replace HB := tuck (HB.out.below hbx)
  replace HW0 := tuck (HW0.out.below hbx)
  have V8 := tuck (VarAt.new w3 T.kind T.num (.slice a3 T.kids.length n3))
  clear z1 c0 c1 c2 hbx
  generalize w3.alloc (.cells #[.int .i64 T.kind, .int .i64 T.num, .slice a3 T.kids.length n3] 28) = W8 at *
  generalize w3.heap.size = g8 at *
  have HBW : Hid (Bel W8 W8) := tuck ⟨Below.refl _ _⟩
  have HL1 : Hid (w.heap.size < W8.heap.size) := tuck HX.out.1
  have HL2 : Hid (g8 < W8.heap.size) := tuck V8.out.facts.1
  -- the copy for the program
  refine (HTO.out _ (HS.out.below HB.out.be)).mono ?_
  rintro e w4 ⟨hb, v, rfl, s4, F4, rfl, hs4, hn4, hF4⟩
  obtain ⟨a4, n4, rfl⟩ := hs4.form
  have HO4 := tuck (OwnB.of hs4 hn4 hF4)
  replace HX := tuck (HX.out.below hb)
  replace HB := tuck (HB.out.below hb)
  replace HBW := tuck (HBW.out.below hb)
  replace V8 := tuck (V8.out.below hb)
  clear hb hs4 hn4 hF4
  obtain ⟨z1, c0, c1, c2⟩ := HX.out
  go_wp2_with fail
  have hbx := below1 w4 (.cells #[.int .i64 t.kind, .int .i64 t.num, .slice a4 t.kids.length n4] 28)
  have VX := tuck (VarAt.new w4 t.kind t.num (.slice a4 t.kids.length n4))
  have HL3 : Hid (w4.heap.size ≤ (w4.alloc (.cells #[.int .i64 t.kind, .int .i64 t.num, .slice a4 t.kids.length n4] 28)).heap.size) := tuck hbx.size
  replace HX := tuck (HX.out.below hbx)
  replace HB := tuck (HB.out.below hbx)
  replace HBW := tuck (HBW.out.below hbx)
  replace V8 := tuck (V8.out.below hbx)
  replace HO4 := tuck (HO4.out.below hbx)
  clear z1 c0 c1 c2 hbx
  generalize w4.alloc (.cells #[.int .i64 t.kind, .int .i64 t.num, .slice a4 t.kids.length n4] 28) = W10 at *
  generalize w4.heap.size = g10 at *
  have HL5 : Hid (W8.heap.size ≤ W10.heap.size) := tuck HBW.out.be.size
  have HL6 : Hid (g10 < W10.heap.size) := tuck VX.out.facts.1
  refine (HIM.out _ _ ⟨_, rfl, HO4.out.sl⟩).mono ?_
  rintro e w5 ⟨hb, v, rfl, s5, F5, rfl, hs5, hn5, hF5⟩
  obtain ⟨a5, n5, rfl⟩ := hs5.form
  have HO5 := tuck (OwnB.of hs5 hn5 hF5)
  have HL4 : Hid (W10.heap.size ≤ w5.heap.size) := tuck hb.size
  replace HX := tuck (HX.out.below hb)
  replace HB := tuck (HB.out.below hb)
  replace HBW := tuck (HBW.out.below hb)
  replace V8 := tuck (V8.out.below hb)
  replace VX := tuck (VX.out.below hb)
  replace HO4 := tuck (HO4.out.below hb)
  clear hb hs5 hn5 hF5
  obtain ⟨z1, c0, c1, c2⟩ := HX.out
  obtain ⟨z8, b0, b1, b2, bf⟩ := V8.out.facts
  go_wp2_with fail
  have hbx := below1 w5 (.cells #[.int .i64 T.kind, .int .i64 T.num, .slice a5 T.kids.length n5] 28)
  have VG := tuck (VarAt.new w5 T.kind T.num (.slice a5 T.kids.length n5))
  replace HX := tuck (HX.out.below hbx)
  replace HB := tuck (HB.out.below hbx)
  replace HBW := tuck (HBW.out.below hbx)
  replace V8 := tuck (V8.out.below hbx)
  replace VX := tuck (VX.out.below hbx)
  replace HO4 := tuck (HO4.out.below hbx)
  replace HO5 := tuck (HO5.out.below hbx)
  clear z1 c0 c1 c2 z8 b0 b1 b2 bf hbx
  generalize w5.alloc (.cells #[.int .i64 T.kind, .int .i64 T.num, .slice a5 T.kids.length n5] 28) = W11 at *
  generalize w5.heap.size = g11 at *
  refine (HEQ.out _ _ _ ⟨_, rfl, HO5.out.sl⟩ ⟨_, rfl, HW0.out.below HBW.out.be⟩).mono ?_
  rintro e w6 ⟨rfl, hb⟩
  replace HX := tuck (HX.out.below hb)
  replace HB := tuck (HB.out.below hb)
  replace HBW := tuck (HBW.out.below hb)
  replace V8 := tuck (V8.out.below hb)
  replace VX := tuck (VX.out.below hb)
  replace VG := tuck (VG.out.below hb)
  replace HO4 := tuck (HO4.out.below hb)
  replace HO5 := tuck (HO5.out.below hb)
  clear hb
  obtain ⟨z1, c0, c1, c2⟩ := HX.out
  obtain ⟨x0', x1', x2', x3'⟩ := VX.out.four
  go_wp2_with fail
  go_region_held3 (fun w' => Below w6.heap.size w6 w' ∧ (w.heap.size < w'.heap.size ∧ w'.cell? ⟨w.heap.size, 0, none⟩ = some (.int .i64 t.kind) ∧ w'.cell? ⟨w.heap.size, 1, none⟩ = some (.int .i64 t.num) ∧ w'.cell? ⟨w.heap.size, 2, none⟩ = some (.slice sa t.kids.length sc)) ∧ (g10 < w'.heap.size ∧ w'.cell? ⟨g10, 0, none⟩ = some (.int .i64 t.kind) ∧ w'.cell? ⟨g10, 1, none⟩ = some (.int .i64 t.num) ∧ w'.cell? ⟨g10, 2, none⟩ = some (.slice a4 t.kids.length n4))) (first | exact ⟨(Below.refl _ _).drew, HX.out, VX.out.four⟩ | exact holdT (by assumption) hb71 | exact holdT (by assumption) hb72) (first | (go_at_call 8; refine (HTO.out _ (HS.out.below (bAfter HB.out.be (hold_be (by assumption))))).mono ?_; rintro e w71 ⟨hb71, v, rfl, s71, F71, rfl, hs71, -, -⟩) | (go_at_call 10; refine (HEQt.out _ _ _ ⟨_, rfl, HO4.out.sl.below (hold_be (by assumption))⟩ ⟨_, rfl, hs71.sl (fun _ _ => Nat.zero_le _)⟩).mono ?_; rintro e w72 ⟨rfl, hb72⟩))
  have hb : Below w6.heap.size w6 w72 := hold_be (by assumption)

  replace HX := tuck (HX.out.below hb)
  replace HB := tuck (HB.out.below hb)
  replace HBW := tuck (HBW.out.below hb)
  replace V8 := tuck (V8.out.below hb)
  replace VX := tuck (VX.out.below hb)
  replace VG := tuck (VG.out.below hb)
  replace HO4 := tuck (HO4.out.below hb)
  replace HO5 := tuck (HO5.out.below hb)
  clear z1 c0 c1 c2 x0' x1' x2' x3' hb hb71 hb72 hs71
  obtain ⟨z10, x1', x2', x3', x4'⟩ := VX.out.facts
  go_wp2_with fail
  have hge4 : ∀ g ∈ F4, W8.heap.size ≤ g := HO4.out.ge
  have hlt4 : ∀ g ∈ F4, g < g10 := HO4.out.lt
  refine (markT_any t F4 1 w72 _ (by omega) HSZt.out HO4.out.nd HO4.out.lts HO4.out.own).mono ?_
  rintro e w8 ⟨rfl, -, hbut⟩
  have e1 := HL1.out
  have e2 := HL2.out
  have e3 := HL3.out
  have e4 := HL4.out
  have e5 := HL5.out
  have hge5 : ∀ g ∈ F5, W10.heap.size ≤ g := HO5.out.ge
  have hlt5 : ∀ g ∈ F5, g < g11 := HO5.out.lt
  replace HX := tuck (HX.out.but hbut (fun hf => by have := hge4 _ hf; omega))
  replace HB := tuck (HB.out.but hbut (fun g hf => by have := hge4 _ hf; omega))
  replace HBW := tuck (HBW.out.but hbut (fun g hf => hge4 _ hf))
  replace V8 := tuck (V8.out.but hbut (fun hf => by have := hge4 _ hf; omega))
  replace VG := tuck (VG.out.but hbut (fun hf => by have := hlt4 _ hf; omega))
  replace HO5 := tuck (HO5.out.but hbut (fun g hg hf => by have := hlt4 _ hf; have := hge5 _ hg; omega))
  clear hbut hge4 hlt4 hge5 hlt5 e1 e2 e3 e4 e5 z10 x1' x2' x3' x4' HO4 VX
  obtain ⟨z8, b0, b1, b2, bf⟩ := V8.out.facts
  obtain ⟨z11, d0, d1, d2, df⟩ := VG.out.facts
  go_wp2_with fail
  refine (HEQ.out _ _ _ ⟨_, rfl, HO5.out.sl⟩ ⟨_, rfl, HW0.out.below HBW.out.be⟩).mono ?_
  rintro e w9 ⟨rfl, hb⟩
  replace HX := tuck (HX.out.below hb)
  replace HB := tuck (HB.out.below hb)
  replace HBW := tuck (HBW.out.below hb)
  replace V8 := tuck (V8.out.below hb)
  replace VG := tuck (VG.out.below hb)
  replace HO5 := tuck (HO5.out.below hb)
  clear hb z8 b0 b1 b2 bf z11 d0 d1 d2 df
  obtain ⟨z11, d0, d1, d2, df⟩ := VG.out.facts
  go_wp2_with fail
  have hge5 : ∀ g ∈ F5, W10.heap.size ≤ g := HO5.out.ge
  have hlt5 : ∀ g ∈ F5, g < g11 := HO5.out.lt
  refine (markT_any T F5 1 w9 _ (by omega) HSZT.out HO5.out.nd HO5.out.lts HO5.out.own).mono ?_
  rintro e wA ⟨rfl, hown, hbut⟩
  have e1 := HL1.out
  have e2 := HL2.out
  have e3 := HL3.out
  have e4 := HL4.out
  have e5 := HL5.out
  replace HX := tuck (HX.out.but hbut (fun hf => by have := hge5 _ hf; omega))
  replace HB := tuck (HB.out.but hbut (fun g hf => by have := hge5 _ hf; omega))
  replace HBW := tuck (HBW.out.but hbut (fun g hf => by have := hge5 _ hf; omega))
  replace V8 := tuck (V8.out.but hbut (fun hf => by have := hge5 _ hf; omega))
  replace VG := tuck (VG.out.but hbut (fun hf => by have := hlt5 _ hf; omega))
  replace HO5 := tuck (HO5.out.marked hown hbut.size)
  clear hbut hown hge5 hlt5 e1 e2 e3 e4 e5 z11 d0 d1 d2 df
  obtain ⟨z11, d0, d1, d2, df⟩ := VG.out.facts
  go_wp2_with fail
  refine (heldT_any T T.kids 0 1 wA _ (by omega) HSZT.out HO5.out.sl).mono ?_
  rintro e wB ⟨rfl, hb⟩
  replace HX := tuck (HX.out.below hb)
  replace HB := tuck (HB.out.below hb)
  replace HBW := tuck (HBW.out.below hb)
  replace V8 := tuck (V8.out.below hb)
  replace VG := tuck (VG.out.below hb)
  replace HO5 := tuck (HO5.out.below hb)
  clear hb z11 d0 d1 d2 df
  obtain ⟨z1, c0, c1, c2⟩ := HX.out
  go_wp2_with fail
  refine (HTO.out _ (HS.out.below HB.out.be)).mono ?_
  rintro e wC ⟨hb, v, rfl, sC, FC, rfl, hsC, -, -⟩
  obtain ⟨aC, nC, rfl⟩ := hsC.form
  have HOC := tuck (hsC.sl (B := 0) (fun _ _ => Nat.zero_le _))
  replace HX := tuck (HX.out.below hb)
  replace HB := tuck (HB.out.below hb)
  replace HBW := tuck (HBW.out.below hb)
  replace V8 := tuck (V8.out.below hb)
  replace VG := tuck (VG.out.below hb)
  replace HO5 := tuck (HO5.out.below hb)
  clear z1 c0 c1 c2 hb hsC
  go_wp2_with fail
  refine (HIM.out _ _ ⟨_, rfl, HOC.out⟩).mono ?_
  rintro e wD ⟨hb, v, rfl, s9, F9, rfl, hs9, -, -⟩
  obtain ⟨a9, n9, rfl⟩ := hs9.form
  have H9 := tuck (hs9.sl (B := 0) (fun _ _ => Nat.zero_le _))
  replace HX := tuck (HX.out.below hb)
  replace HB := tuck (HB.out.below hb)
  replace HBW := tuck (HBW.out.below hb)
  replace V8 := tuck (V8.out.below hb)
  replace VG := tuck (VG.out.below hb)
  replace HO5 := tuck (HO5.out.below hb)
  clear hb hs9 HOC
  obtain ⟨z8, b0, b1, b2, bf⟩ := V8.out.facts
  go_wp2_with fail
  have hbx := below1 wD (.cells #[.int .i64 T.kind, .int .i64 T.num, .slice a9 T.kids.length n9] 28)
  replace HX := tuck (HX.out.below hbx)
  replace HB := tuck (HB.out.below hbx)
  replace HBW := tuck (HBW.out.below hbx)
  replace V8 := tuck (V8.out.below hbx)
  replace VG := tuck (VG.out.below hbx)
  replace HO5 := tuck (HO5.out.below hbx)
  replace H9 := tuck (H9.out.below hbx)
  clear z8 b0 b1 b2 bf hbx
  generalize wD.alloc (.cells #[.int .i64 T.kind, .int .i64 T.num, .slice a9 T.kids.length n9] 28) = WE at *
  refine (HEQ.out _ _ _ ⟨_, rfl, H9.out⟩ ⟨_, rfl, HW0.out.below HBW.out.be⟩).mono ?_
  rintro e wF ⟨rfl, hb⟩
  replace HX := tuck (HX.out.below hb)
  replace HB := tuck (HB.out.below hb)
  replace HBW := tuck (HBW.out.below hb)
  replace V8 := tuck (V8.out.below hb)
  replace VG := tuck (VG.out.below hb)
  replace HO5 := tuck (HO5.out.below hb)
  clear hb
  obtain ⟨z11, d0, d1, d2, df⟩ := VG.out.facts
  go_wp2_with fail
  refine (heldT_any T T.kids 0 1 wF _ (by omega) HSZT.out HO5.out.sl).mono ?_
  rintro e wG ⟨rfl, hb⟩
  replace HB := tuck (HB.out.below hb)
  clear hb
  go_wp2_with fail
  go_ret
  exact ⟨rfl, HB.out.be⟩

set_option maxRecDepth 100000 in
theorem lifted (os : Os) (started : os.Started) (H : Type) (enc : TypeId × Value → H) :
    ReturnsInHanded {} Tryz.checked os 3 .any (Rows.fnExactNormalizeSpec.pre6 enc Tryz.prog Tryz.f3 Rows.fnExactNormalizeRow.domain false) (Rows.fnExactNormalizeSpec.post enc Tryz.prog Tryz.f3 false true false false) := by
  refine returnsInHanded_of_change (C := Tryz.checked) own started (by kernel_rfl) Tryz.func3
    (ChangeSpec.witness6 (enc := enc) (C := Tryz.checked) false ⟨#[], #[.agg #[.int .i64 0, .int .i64 0, .slice none 0 0], .int .i64 0], []⟩ 8 (by kernel_rfl) (by kernel_rfl) (by kernel_rfl) (by kernel_rfl)) ?_
  intro W base args ds gs before hval0 hW hcnd _
  have hval : ∀ (j : Nat) t v, Tryz.f3.params[j]? = some t → args[j]? = some v → Value.okWide Tryz.prog W .any base t v := hval0
  have hW' := hW
  obtain ⟨p, q, hA0, hV, rfl, hfz, hnd⟩ := hW
  have hA : DataW.TrodAll enc Tryz.prog W 0 (fun _ => true) true Tryz.f3.params.toList args.toList ds p := hA0
  rw [Tryz.params3] at hA hval
  obtain ⟨v0, vs0, d0, ds0, p0, q0, hargs, rfl, rfl, h0, r0⟩ := trodAll_cons hA
  obtain ⟨v1, vs1, d1, ds1, p1, q1, rfl, rfl, rfl, h1, r1⟩ := trodAll_cons r0
  obtain ⟨rfl, rfl, rfl⟩ := trodAll_nil r1
  obtain rfl : args = #[v0, v1] := by cases args; simp_all
  obtain ⟨t0, ht0⟩ := open_term (hval 0 24 v0 rfl rfl) h0
  obtain ⟨a1, rfl, rfl, rfl, wf1⟩ := open_int Tryz.underlying3 (hval 1 3 v1 rfl rfl) h1
  refine (walk t0 a1 W v0 ht0).mono fun e W' ⟨he, hb⟩ => ?_
  subst he
  exact ⟨_, rfl, law_post rfl rfl (fun gs h => by subst h; rfl) (by rw [Tryz.params3]; exact readable_FnExactNormalize) laid hW' hb⟩

theorem over : Rows.fnExactNormalizeRow.holds Tryz.pinned (OpenSpec.ofChange Rows.fnExactNormalizeSpec) :=
  OpenClaim.holds_of_wide 3 Tryz.f3 rfl rfl rfl rfl rfl rfl rfl ⟨rfl, rfl, rfl, rfl, rfl⟩ rfl rfl rfl rfl rfl (by kernel_rfl) Tryz.func3 (by kernel_rfl)
    (of_decide_eq_true (by kernel_rfl)) (by unfold Func.isWrapper; first | (rw [if_pos (by decide +kernel)]; kernel_rfl) | (rw [if_neg (by decide +kernel)]; exact ⟨rfl, rfl⟩))
    (fun os started H enc _ => lifted os started H enc)

theorem proved : Rows.FnExactNormalizeSaid :=
  over
end Go.Proofs.YtmfeocogkmmocaaGreat.fnExactNormalize
