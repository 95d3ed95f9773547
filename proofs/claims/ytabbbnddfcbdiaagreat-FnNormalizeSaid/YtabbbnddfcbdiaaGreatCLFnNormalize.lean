/-
  The law FnNormalize: whatever the bytes, a normal term is reached by steps, has no redex, and is its own normal term.
-/
import Derived.Test.YtabbbnddfcbdiaaGreatC31
import Derived.Test.YtabbbnddfcbdiaaGreatC35
import Derived.IntWalk
namespace Go.Proofs.YtabbbnddfcbdiaaGreat.fnNormalize
open Go.ChangeShapes Go.WideShapes Go.ChangeAt Go.RowKit Go.Deep
set_option linter.unusedVariables false
theorem readable_FnNormalize : ∀ t ∈ (#[22] : Array TypeId).toList, Tryz.prog.readableRec t = true ∧ t < Tryz.prog.types.size := by
 intro t ht
 simp at ht
 subst ht
 exact ⟨by kernel_rfl, of_decide_eq_true (by kernel_rfl)⟩
theorem laid : laidOutB Tryz.prog = true := by kernel_rfl
set_option maxRecDepth 100000 in
set_option maxHeartbeats 8000000 in
theorem walk (U : Nat → Int) (a : Option Addr) (b o len cap : Nat) (w : World) (hlc : len ≤ cap) (hcm : cap ≤ maxLen) (hby : Bytes U a b o len w) : Calls Tryz.prog 4 #[.slice a len cap] w fun e w' => e = .returned (.bool true) ∧ Below w.heap.size w w' := by
 unfold maxLen at hcm
 by_cases hl : 1048576 < len
 ·have hl' : (1048576 : Int) < (len : Int) := by omega
  clear hby
  go_enter Tryz.func4, Tryz.ntmps4
  go_wp2
  go_ret
  exact ⟨rfl, Below.refl _ _⟩
 have hl' : ¬ (1048576 : Int) < (len : Int) := by omega
 have HD := tuck (dNormalize_any w (by omega) hlc hby)
 clear hby
 go_enter Tryz.func4, Tryz.ntmps4
 go_wp2_with fail
 refine HD.out.mono ?_
 rintro e w1 ⟨T, v, x, rfl, ⟨s, rfl, hin⟩, hsz, hx0, hx1, hb⟩
 obtain ⟨aV, cV, rfl⟩ := hin.form
 have V := tuck (TV.new (hin.mono (Nat.zero_le _)))
 have HB := tuck (bAfter hb (below1 w1 (.cells #[.int .i64 T.kind, .int .i64 T.num, .slice aV T.kids.length cV] 25)))
 have HSZ : Hid (sizes T.kids ≤ 1048576) := tuck (by have := T.size_eq; omega)
 clear hin hb HD hsz
 go_wp2_with fail
 generalize w1.alloc (.cells #[.int .i64 T.kind, .int .i64 T.num, .slice aV T.kids.length cV] 25) = U0 at *
 generalize w1.heap.size = gV at *
 obtain ⟨c, hcc⟩ : ∃ c, c = normC false false T x := ⟨_, rfl⟩
 obtain ⟨X, hX⟩ : ∃ X, X = normT false false T x := ⟨_, rfl⟩
 have HIM : Hid (∀ (w : World) (v : Value), TmIn w 0 T v → Calls Tryz.prog 16 #[v, .int .i64 x] w (SCodePost w c X)) := fun w v h => by
  have h2 := normI_p T x w v h; rwa [← hcc, ← hX] at h2
 have HSP : Hid (∀ (w : World) (v : Value), TmIn w 0 T v → Calls Tryz.prog 18 #[v, .int .i64 x] w (SCodePost w c X)) := fun w v h => by
  have h2 := normS_p T HSZ.out x w v h; rwa [← hcc, ← hX] at h2
 by_cases hc : normC false false T x = 0
 rotate_left
 ·have hXz : X = zeroT := hX.trans (nrm_no hc)
  have k0 : (c == 0) = false := by rw [hcc, beq_eq_false_iff_ne]; exact hc
  have k1 : (c != 0) = true := by rw [hcc, bne_iff_ne]; exact hc
  have HTS : Hid (∀ (w : World) (v1 v2 : Value), TmIn w 0 X v1 → TmIn w 0 X v2 → Calls Tryz.prog 20 #[v1, v2] w (BoolPost w true)) := fun w v1 v2 h1 h2 => by rw [hXz] at h1 h2; exact same_z w v1 v2 h1 h2
  have HZ : Hid (∀ w : World, TmIn w 0 X (.agg #[.int .i64 0, .int .i64 0, .slice none 0 0])) := tuck fun w => by rw [hXz]; exact ⟨_, rfl, SlIn.nil _ _ _ _⟩
  have HC3 : Hid (NormOk T x → c ≠ 3) := tuck fun h => by rw [hcc, normC_ok h]; rcases runGo_code (rl := false) (mo := false) x.toNat T with h | h | h <;> omega
  clear hc hcc hX hXz
  refine (HIM.out _ _ V.out.tm).mono ?_
  rintro e u21 ⟨hb, vv, rfl, ss, rfl, hin⟩
  obtain ⟨aVX, cVX, rfl⟩ := hin.form
  replace V := tuck (V.out.below hb)
  replace HB := tuck (bAfter HB.out hb)
  have HNVX := tuck hin
  clear hb hin
  obtain ⟨zV, c0V, c1V, c2V, cfV⟩ := V.out.facts
  go_wp2_with fail
  clear zV c0V c1V c2V cfV
  have VX := tuck (TV.new HNVX.out)
  have hb := below1 u21 (.cells #[.int .i64 X.kind, .int .i64 X.num, .slice aVX X.kids.length cVX] 25)
  replace V := tuck (V.out.below hb)
  replace HB := tuck (bAfter HB.out hb)
  clear hb HNVX
  generalize u21.alloc (.cells #[.int .i64 X.kind, .int .i64 X.num, .slice aVX X.kids.length cVX] 25) = U21 at *
  generalize u21.heap.size = gVX at *
  refine (HSP.out _ _ V.out.tm).mono ?_
  rintro e u22 ⟨hb, vv, rfl, ss, rfl, hin⟩
  obtain ⟨aVW, cVW, rfl⟩ := hin.form
  replace V := tuck (V.out.below hb)
  replace VX := tuck (VX.out.below hb)
  replace HB := tuck (bAfter HB.out hb)
  have HNVW := tuck hin
  clear hb hin
  obtain ⟨zV, c0V, c1V, c2V, cfV⟩ := V.out.facts
  obtain ⟨zVX, c0VX, c1VX, c2VX, cfVX⟩ := VX.out.facts
  go_wp2_with fail
  clear zV c0V c1V c2V cfV zVX c0VX c1VX c2VX cfVX
  have VW := tuck (TV.new HNVW.out)
  have hb := below1 u22 (.cells #[.int .i64 X.kind, .int .i64 X.num, .slice aVW X.kids.length cVW] 25)
  replace V := tuck (V.out.below hb)
  replace VX := tuck (VX.out.below hb)
  replace HB := tuck (bAfter HB.out hb)
  clear hb HNVW
  generalize u22.alloc (.cells #[.int .i64 X.kind, .int .i64 X.num, .slice aVW X.kids.length cVW] 25) = U22 at *
  generalize u22.heap.size = gVW at *
  refine (HTS.out _ _ _ VX.out.tm VW.out.tm).mono ?_
  rintro e u23 ⟨rfl, hb⟩
  replace V := tuck (V.out.below hb)
  replace VX := tuck (VX.out.below hb)
  replace VW := tuck (VW.out.below hb)
  replace HB := tuck (bAfter HB.out hb)
  clear hb
  obtain ⟨zV, c0V, c1V, c2V, cfV⟩ := V.out.facts
  obtain ⟨zVX, c0VX, c1VX, c2VX, cfVX⟩ := VX.out.facts
  obtain ⟨zVW, c0VW, c1VW, c2VW, cfVW⟩ := VW.out.facts
  go_wp2_with fail
  refine (HTS.out _ _ _ VX.out.tm VW.out.tm).mono ?_
  rintro e u24 ⟨rfl, hb⟩
  clear zV c0V c1V c2V cfV zVX c0VX c1VX c2VX cfVX zVW c0VW c1VW c2VW cfVW
  replace V := tuck (V.out.below hb)
  replace VX := tuck (VX.out.below hb)
  replace VW := tuck (VW.out.below hb)
  replace HB := tuck (bAfter HB.out hb)
  clear hb
  obtain ⟨zV, c0V, c1V, c2V, cfV⟩ := V.out.facts
  obtain ⟨zVX, c0VX, c1VX, c2VX, cfVX⟩ := VX.out.facts
  obtain ⟨zVW, c0VW, c1VW, c2VW, cfVW⟩ := VW.out.facts
  go_wp2_with fail
  refine (HTS.out _ _ _ VX.out.tm (HZ.out _)).mono ?_
  rintro e u25 ⟨rfl, hb⟩
  clear zV c0V c1V c2V cfV zVX c0VX c1VX c2VX cfVX zVW c0VW c1VW c2VW cfVW
  replace V := tuck (V.out.below hb)
  replace VX := tuck (VX.out.below hb)
  replace VW := tuck (VW.out.below hb)
  replace HB := tuck (bAfter HB.out hb)
  clear hb
  obtain ⟨zV, c0V, c1V, c2V, cfV⟩ := V.out.facts
  obtain ⟨zVX, c0VX, c1VX, c2VX, cfVX⟩ := VX.out.facts
  obtain ⟨zVW, c0VW, c1VW, c2VW, cfVW⟩ := VW.out.facts
  go_wp2_with fail
  go_ret
  exact ⟨rfl, HB.out⟩
 have hc0 : c = 0 := hcc.trans hc
 have HY : Hid (NrmYes false false T x X) := tuck (hX ▸ nrm_yes hc)
 have HTS : Hid (∀ (w : World) (v1 v2 : Value), TmIn w 0 X v1 → TmIn w 0 X v2 → Calls Tryz.prog 20 #[v1, v2] w (BoolPost w true)) := same_v HY.out.valid
 clear hc hcc hX
 subst hc0
 refine (HIM.out _ _ V.out.tm).mono ?_
 rintro e u1 ⟨hb, vv, rfl, ss, rfl, hin⟩
 obtain ⟨aVX, cVX, rfl⟩ := hin.form
 replace V := tuck (V.out.below hb)
 replace HB := tuck (bAfter HB.out hb)
 have HNVX := tuck hin
 clear hb hin
 obtain ⟨zV, c0V, c1V, c2V, cfV⟩ := V.out.facts
 go_wp2_with fail
 clear zV c0V c1V c2V cfV
 have VX := tuck (TV.new HNVX.out)
 have hb := below1 u1 (.cells #[.int .i64 X.kind, .int .i64 X.num, .slice aVX X.kids.length cVX] 25)
 replace V := tuck (V.out.below hb)
 replace HB := tuck (bAfter HB.out hb)
 clear hb HNVX
 generalize u1.alloc (.cells #[.int .i64 X.kind, .int .i64 X.num, .slice aVX X.kids.length cVX] 25) = U1 at *
 generalize u1.heap.size = gVX at *
 refine (HSP.out _ _ V.out.tm).mono ?_
 rintro e u2 ⟨hb, vv, rfl, ss, rfl, hin⟩
 obtain ⟨aVW, cVW, rfl⟩ := hin.form
 replace V := tuck (V.out.below hb)
 replace VX := tuck (VX.out.below hb)
 replace HB := tuck (bAfter HB.out hb)
 have HNVW := tuck hin
 clear hb hin
 obtain ⟨zV, c0V, c1V, c2V, cfV⟩ := V.out.facts
 obtain ⟨zVX, c0VX, c1VX, c2VX, cfVX⟩ := VX.out.facts
 go_wp2_with fail
 clear zV c0V c1V c2V cfV zVX c0VX c1VX c2VX cfVX
 have VW := tuck (TV.new HNVW.out)
 have hb := below1 u2 (.cells #[.int .i64 X.kind, .int .i64 X.num, .slice aVW X.kids.length cVW] 25)
 replace V := tuck (V.out.below hb)
 replace VX := tuck (VX.out.below hb)
 replace HB := tuck (bAfter HB.out hb)
 clear hb HNVW
 generalize u2.alloc (.cells #[.int .i64 X.kind, .int .i64 X.num, .slice aVW X.kids.length cVW] 25) = U2 at *
 generalize u2.heap.size = gVW at *
 obtain ⟨F, rfl⟩ : ∃ F : Nat, x = F := ⟨x.toNat, by have := HY.out.ok.2.1; omega⟩
 have HIT : Hid (itS F T = X) := tuck (by have h1 := itS_run F T HY.out.ok.1 (by have := HY.out.run; rwa [Int.toNat_natCast] at this); rw [h1, HY.out.eq, Int.toNat_natCast])
 have HNF : Hid (∀ (w : World) (v : Value), TmIn w 0 X v → Calls Tryz.prog 16 #[v, .int .i64 0] w (SCodePost w 0 X)) := fun w v h => by
  have h2 := normI_p X 0 w v h; have h3 := norm_fix (rl := false) (mo := false) (x := 0) HY.out.valid (by first | exact HY.out.done | exact Tm.nrm_step _ HY.out.done) (by decide) (by decide); rwa [h3.1, h3.2] at h2
 have HNT : Hid (∀ (w : World) (v : Value), TmIn w 0 X v → Calls Tryz.prog 22 #[v] w (BoolPost w true)) := fun w v h => by
  have h2 := normalI_any X w v h; rwa [normal_yes HY.out.valid (by first | exact HY.out.done | exact Tm.nrm_step _ HY.out.done)] at h2
 have HTV : Hid T.Valid := tuck HY.out.ok.1
 refine (HTS.out _ _ _ VX.out.tm VW.out.tm).mono ?_
 rintro e u3 ⟨rfl, hb⟩
 replace V := tuck (V.out.below hb)
 replace VX := tuck (VX.out.below hb)
 replace VW := tuck (VW.out.below hb)
 replace HB := tuck (bAfter HB.out hb)
 clear hb
 have hby := below1 u3 (.cells #[.int .i64 T.kind, .int .i64 T.num, .slice aV T.kids.length cV] 25)
 have hgV := V.out.facts.1
 have hgX := VX.out.facts.1
 have hwg : w.heap.size ≤ u3.heap.size := HB.out.size
 have LV := tuck (TV.late (X := fun i => i = u3.heap.size) V.out hby (fun i hi => Nat.le_of_eq hi.symm))
 have LX := tuck (TV.late (X := fun i => i = u3.heap.size) VX.out hby (fun i hi => Nat.le_of_eq hi.symm))
 have LY : Hid (TX (fun i => i = u3.heap.size) u3.heap.size (itS 0 T) aV cV (u3.alloc (.cells #[.int .i64 T.kind, .int .i64 T.num, .slice aV T.kids.length cV] 25))) := tuck ⟨VarAt.new u3 T.kind T.num (.slice aV T.kids.length cV), LV.out.2⟩
 have HB0 := tuck (bAfter HB.out hby)
 have hgy1 : u3.heap.size < (u3.alloc (.cells #[.int .i64 T.kind, .int .i64 T.num, .slice aV T.kids.length cV] 25)).heap.size := by simp
 obtain ⟨zV, c0V, c1V, c2V, cfV⟩ := V.out.facts
 obtain ⟨zVX, c0VX, c1VX, c2VX, cfVX⟩ := VX.out.facts
 obtain ⟨zVW, c0VW, c1VW, c2VW, cfVW⟩ := VW.out.facts
 go_wp2_with fail
 clear zV c0V c1V c2V cfV zVX c0VX c1VX c2VX cfVX zVW c0VW c1VW c2VW cfVW
 clear hby V VX VW HB HIM HSP
 generalize u3.alloc (.cells #[.int .i64 T.kind, .int .i64 T.num, .slice aV T.kids.length cV] 25) = W0 at *
 generalize u3.heap.size = gY at *
 go_loopw [10] (fun i wr => ∃ (q : Nat) (aY : Option Addr) (cY : Nat), i = .int .i64 q ∧ q ≤ F ∧ Below w.heap.size w wr ∧ TX (fun i => i = gY) gV T aV cV wr ∧ TX (fun i => i = gY) gVX X aVX cVX wr ∧ TX (fun i => i = gY) gY (itS q T) aY cY wr) (fun i _ => F - (intOf i).toNat)
 case atStart => exact ⟨0, aV, cV, rfl, Nat.zero_le _, HB0.out, LV.out, LX.out, LY.out⟩
 case round =>
  obtain ⟨q, aY, cY, rfl, hq, hb, hv, hx, hy⟩ := hrel
  clear LV LX LY HB0
  have HB := tuck hb
  have LV := tuck hv
  have LX := tuck hx
  have LY := tuck hy
  clear hb hv hx hy
  by_cases hlt : q < F
  ·have hlti : ((q : Int) < (F : Int)) := by omega
   obtain ⟨Y, hY⟩ : ∃ Y, Y = itS q T := ⟨_, rfl⟩
   obtain ⟨cc, hcc⟩ : ∃ cc, cc = (stepOut false false Y).2 := ⟨_, rfl⟩
   obtain ⟨Z, hZ⟩ : ∃ Z, Z = (stepOut false false Y).1 := ⟨_, rfl⟩
   have HS : Hid (∀ (w : World) (v : Value), TmIn w 0 Y v → Calls Tryz.prog 21 #[v] w (CodePost w cc Z)) := fun w v h => by
    have h2 := stepTI_any Y w v h
    rwa [← hcc, ← hZ] at h2
   have HN1 : Hid (cc = 1 → itS (q + 1) T = Z) := tuck fun h => by rw [itS_succ, ← hY]; unfold stepS; rw [← hcc, if_pos h, hZ]
   have HN0 : Hid (cc ≠ 1 → itS (q + 1) T = Y) := tuck fun h => by rw [itS_succ, ← hY]; unfold stepS; rw [← hcc, if_neg h]
   rw [← hY] at LY
   clear hY hcc hZ
   obtain ⟨zY, y0, y1, y2, yf⟩ := LY.out.tv.facts
   go_wp2_with fail
   refine (HS.out _ _ LY.out.tv.tm).mono ?_
   rintro e w3 ⟨hb3, v, rfl, s, FF, rfl, hs, -, hF⟩
   obtain ⟨sa, sc, rfl⟩ := hs.form
   have HIN : Hid (SlIn w3 wr.heap.size Z.kids (.slice sa Z.kids.length sc)) := tuck (hs.sl fun g hg => (hF g hg).1)
   have hbx := below1 w3 (.cells #[.int .i64 Z.kind, .int .i64 Z.num, .slice sa Z.kids.length sc] 25)
   have hbb := bAfter hb3 hbx
   have HYR : Hid (gY < wr.heap.size) := tuck zY
   have LN := tuck (VarAt.new w3 Z.kind Z.num (.slice sa Z.kids.length sc))
   replace HIN := tuck (HIN.out.below hbx)
   replace LV := tuck (LV.out.below hbb)
   replace LX := tuck (LX.out.below hbb)
   replace LY := tuck (LY.out.below hbb)
   replace HB := tuck (bAfter HB.out hbb)
   clear hb3 hs hF hbx hbb zY y0 y1 y2 yf
   obtain ⟨zY, y0, y1, y2, yf⟩ := LY.out.tv.facts
   obtain ⟨zN, n0, n1, n2, nf⟩ := LN.out.facts
   by_cases h1 : cc = 1
   ·have k1 : (cc == 1) = true := by rw [beq_iff_eq]; exact h1
    have HE := tuck (HN1.out h1)
    clear h1 HN0 HN1 HS
    go_wp2_with fail
    go_roundw
    case rel =>
     have hyr := HYR.out
     refine ⟨q + 1, sa, sc, by go_num, by omega, ?_, ?_, ?_, ?_⟩
     ·exact bSet3 HB.out hwg _ _ _ _ _ _
     ·exact LV.out.set3 rfl (by omega) _ _ _ _ _ _
     ·exact LX.out.set3 rfl (by omega) _ _ _ _ _ _
     ·rw [HE.out]
      exact TX.store LY.out.1 (SlX.of_sl HIN.out (fun i hi => by have h9 : i = gY := hi; omega)) rfl
    case measure => simp [intOf]; omega
   ·have k1 : (cc == 1) = false := by rw [beq_eq_false_iff_ne]; exact h1
    have HE := tuck (HN0.out h1)
    clear h1 HN0 HN1 HS
    go_wp2_with fail
    go_roundw
    case rel =>
     refine ⟨q + 1, aY, cY, by go_num, by omega, HB.out, LV.out, LX.out, ?_⟩
     rw [HE.out]
     exact LY.out
    case measure => simp [intOf]; omega
  ·have hge : ¬ ((q : Int) < (F : Int)) := by omega
   obtain rfl : q = F := by omega
   rw [HIT.out] at LY
   have VX := tuck LX.out.tv
   have VY := tuck LY.out.tv
   clear LV LX LY HIT hgV hgX hwg hgy1
   obtain ⟨zVX, c0VX, c1VX, c2VX, cfVX⟩ := VX.out.facts
   obtain ⟨zVY, c0VY, c1VY, c2VY, cfVY⟩ := VY.out.facts
   go_wp2_with fail
   refine (HNF.out _ _ VX.out.tm).mono ?_
   rintro e u81 ⟨hb, vv, rfl, ss, rfl, hin⟩
   obtain ⟨aVZ, cVZ, rfl⟩ := hin.form
   clear zVX c0VX c1VX c2VX cfVX zVY c0VY c1VY c2VY cfVY
   replace VX := tuck (VX.out.below hb)
   replace VY := tuck (VY.out.below hb)
   replace HB := tuck (bAfter HB.out hb)
   have HNVZ := tuck hin
   clear hb hin
   obtain ⟨zVX, c0VX, c1VX, c2VX, cfVX⟩ := VX.out.facts
   obtain ⟨zVY, c0VY, c1VY, c2VY, cfVY⟩ := VY.out.facts
   go_wp2_with fail
   clear zVX c0VX c1VX c2VX cfVX zVY c0VY c1VY c2VY cfVY
   have VZ := tuck (TV.new HNVZ.out)
   have hb := below1 u81 (.cells #[.int .i64 X.kind, .int .i64 X.num, .slice aVZ X.kids.length cVZ] 25)
   replace VX := tuck (VX.out.below hb)
   replace VY := tuck (VY.out.below hb)
   replace HB := tuck (bAfter HB.out hb)
   clear hb HNVZ
   generalize u81.alloc (.cells #[.int .i64 X.kind, .int .i64 X.num, .slice aVZ X.kids.length cVZ] 25) = U81 at *
   generalize u81.heap.size = gVZ at *
   refine (HNT.out _ _ VX.out.tm).mono ?_
   rintro e u82 ⟨rfl, hb⟩
   replace VX := tuck (VX.out.below hb)
   replace VY := tuck (VY.out.below hb)
   replace VZ := tuck (VZ.out.below hb)
   replace HB := tuck (bAfter HB.out hb)
   clear hb
   obtain ⟨zVX, c0VX, c1VX, c2VX, cfVX⟩ := VX.out.facts
   obtain ⟨zVY, c0VY, c1VY, c2VY, cfVY⟩ := VY.out.facts
   obtain ⟨zVZ, c0VZ, c1VZ, c2VZ, cfVZ⟩ := VZ.out.facts
   go_wp2_with fail
   refine (HTS.out _ _ _ VY.out.tm VX.out.tm).mono ?_
   rintro e u83 ⟨rfl, hb⟩
   clear zVX c0VX c1VX c2VX cfVX zVY c0VY c1VY c2VY cfVY zVZ c0VZ c1VZ c2VZ cfVZ
   replace VX := tuck (VX.out.below hb)
   replace VY := tuck (VY.out.below hb)
   replace VZ := tuck (VZ.out.below hb)
   replace HB := tuck (bAfter HB.out hb)
   clear hb
   obtain ⟨zVX, c0VX, c1VX, c2VX, cfVX⟩ := VX.out.facts
   obtain ⟨zVY, c0VY, c1VY, c2VY, cfVY⟩ := VY.out.facts
   obtain ⟨zVZ, c0VZ, c1VZ, c2VZ, cfVZ⟩ := VZ.out.facts
   go_wp2_with fail
   refine (HTS.out _ _ _ VZ.out.tm VX.out.tm).mono ?_
   rintro e u84 ⟨rfl, hb⟩
   clear zVX c0VX c1VX c2VX cfVX zVY c0VY c1VY c2VY cfVY zVZ c0VZ c1VZ c2VZ cfVZ
   replace VX := tuck (VX.out.below hb)
   replace VY := tuck (VY.out.below hb)
   replace VZ := tuck (VZ.out.below hb)
   replace HB := tuck (bAfter HB.out hb)
   clear hb
   obtain ⟨zVX, c0VX, c1VX, c2VX, cfVX⟩ := VX.out.facts
   obtain ⟨zVY, c0VY, c1VY, c2VY, cfVY⟩ := VY.out.facts
   obtain ⟨zVZ, c0VZ, c1VZ, c2VZ, cfVZ⟩ := VZ.out.facts
   go_wp2_with fail
   go_ret
   exact ⟨rfl, HB.out⟩
set_option maxRecDepth 100000 in
theorem lifted (os : Os) (started : os.Started) (H : Type) (enc : TypeId × Value → H) :
  ReturnsInHanded {} Tryz.checked os 4 .any (Rows.fnNormalizeSpec.pre6 enc Tryz.prog Tryz.f4 Rows.fnNormalizeRow.domain false) (Rows.fnNormalizeSpec.post enc Tryz.prog Tryz.f4 false true false false) := by
 refine returnsInHanded_of_change (C := Tryz.checked) own started (by kernel_rfl) Tryz.func4
  (ChangeSpec.witness6 (enc := enc) (C := Tryz.checked) false ⟨#[], #[.slice none 0 0], []⟩ 8 (by kernel_rfl) (by kernel_rfl) (by kernel_rfl) (by kernel_rfl)) ?_
 intro W base args ds gs before hval0 hW hcnd _
 have hval : ∀ (j : Nat) t v, Tryz.f4.params[j]? = some t → args[j]? = some v → Value.okWide Tryz.prog W .any base t v := hval0
 have hW' := hW
 obtain ⟨p, q, hA0, hV, rfl, hfz, hnd⟩ := hW
 have hA : DataW.TrodAll enc Tryz.prog W 0 (fun _ => true) true Tryz.f4.params.toList args.toList ds p := hA0
 rw [Tryz.params4] at hA hval
 obtain ⟨v0, vs0, d0, ds0, p0, q0, hargs, rfl, rfl, h0, r0⟩ := trodAll_cons hA
 obtain ⟨rfl, rfl, rfl⟩ := trodAll_nil r0
 obtain rfl : args = #[v0] := by cases args; simp_all
 obtain ⟨U0, ad0, bb0, oo0, len0, cap0, rfl, hlc0, hcm0, hbl0, hby0⟩ := open_bytes (hval 0 22 v0 rfl rfl) h0
 refine (walk U0 ad0 bb0 oo0 len0 cap0 W hlc0 hcm0 hby0).mono fun e W' ⟨he, hb⟩ => ?_
 subst he
 exact ⟨_, rfl, law_post rfl rfl (fun gs h => by subst h; rfl) (by rw [Tryz.params4]; exact readable_FnNormalize) laid hW' hb⟩
theorem over : Rows.fnNormalizeRow.holds Tryz.pinned (OpenSpec.ofChange Rows.fnNormalizeSpec) :=
 OpenClaim.holds_of_wide 4 Tryz.f4 rfl rfl rfl rfl rfl rfl rfl ⟨rfl, rfl, rfl, rfl, rfl⟩ rfl rfl rfl rfl rfl (by kernel_rfl) Tryz.func4 (by kernel_rfl)
  (of_decide_eq_true (by kernel_rfl)) (by unfold Func.isWrapper; first | (rw [if_pos (by decide +kernel)]; kernel_rfl) | (rw [if_neg (by decide +kernel)]; exact ⟨rfl, rfl⟩))
  (fun os started H enc _ => lifted os started H enc)
theorem proved : Rows.FnNormalizeSaid :=
 over
end Go.Proofs.YtabbbnddfcbdiaaGreat.fnNormalize
