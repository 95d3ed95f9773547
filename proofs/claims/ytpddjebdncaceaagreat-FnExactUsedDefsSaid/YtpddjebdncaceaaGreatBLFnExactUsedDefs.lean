/-
  The law FnExactUsedDefs: for every list of definitions and every term (no ring among its parts), UsedDefs answers as its model, writes into no argument, and its answer is memory of its own.
-/
import Derived.Test.YtpddjebdncaceaaGreatB02
import Derived.Test.YtpddjebdncaceaaGreatB21
import Derived.Test.YtpddjebdncaceaaGreatB22
import Derived.Test.YtpddjebdncaceaaGreatB41
import Derived.Test.YtpddjebdncaceaaGreatB44
import Derived.Deep.DeepCutAuto
namespace Go.Proofs.YtpddjebdncaceaaGreat.fnExactUsedDefs
open Go.ChangeShapes Go.WideShapes Go.ChangeAt Go.RowKit Go.Deep
set_option linter.unusedVariables false
theorem readable_FnExactUsedDefs : ∀ t ∈ (#[22, 25] : Array TypeId).toList, Tryz.prog.readableRec t = true ∧ t < Tryz.prog.types.size := by
 intro t ht
 simp at ht
 rcases ht with rfl | rfl
 all_goals exact ⟨by kernel_rfl, of_decide_eq_true (by kernel_rfl)⟩
theorem laid : laidOutB Tryz.prog = true := by kernel_rfl
set_option maxRecDepth 100000 in
set_option maxHeartbeats 4000000 in
/-- The walk. -/
theorem walk (l : List (Tm × Tm)) (t : Tm) (w : World) (vl : Value) (vt : Value) (hl : DfIn w 0 l vl) (ht : TmIn w 0 t vt) : Calls Tryz.prog 3 #[vl, vt] w fun e w' => e = .returned (.bool true) ∧ Below w.heap.size w w' := by
 obtain ⟨la, lc, rfl⟩ := hl.form
 have HSl := tuck hl
 obtain ⟨st, rfl, ht⟩ := ht
 obtain ⟨ta, tc, rfl⟩ := ht.form
 have HSt := tuck ht
 clear hl ht
 have HSZl : Hid (∀ (w : World), DfIn w 0 l (.slice la l.length lc) → Calls Tryz.prog 6 #[(.slice la l.length lc), .int .i64 1048576] w (SzPost w (if (dsizes l : Int) ≤ 1048576 then 1048576 - dsizes l else -1))) := fun w h => szDefS_any l 1048576 w _ (by omega) (by omega) h
 by_cases hszl : (dsizes l : Int) ≤ 1048576
 rotate_left
 ·rw [if_neg (by omega)] at HSZl
  clear hszl
  go_enter Tryz.func3, Tryz.ntmps3
  go_wp2_with fail
  refine (HSZl.out _ (HSl.out.below (below1 _ _))).mono ?_
  rintro e w1 ⟨rfl, hb⟩
  have HXt := tuck ((BoxAt.new w t.kind t.num (.slice ta t.kids.length tc) 25).below hb)
  have HB : Hid (Bel w w1) := tuck ⟨bAfter (below1 _ _) hb⟩
  clear hb
  obtain ⟨zt, c0t, c1t, c2t⟩ := HXt.out
  go_wp2_with fail
  go_ret
  exact ⟨rfl, HB.out.be⟩
 rw [if_pos (by omega)] at HSZl
 obtain ⟨left1, hleft1⟩ : ∃ left : Int, left = 1048576 - (dsizes l : Int) := ⟨_, rfl⟩
 have hl1a : (0 : Int) ≤ left1 := by omega
 have hl1b : left1 ≤ 1048576 := by omega
 rw [← hleft1] at HSZl
 have HSZt : Hid (∀ (w : World), SlIn w 0 t.kids (.slice ta t.kids.length tc) → Calls Tryz.prog 7 #[.agg #[.int .i64 t.kind, .int .i64 t.num, (.slice ta t.kids.length tc)], .int .i64 left1] w (SzPost w (szV t.kids left1))) := fun w h => szT_any t left1 w _ hl1a hl1b ⟨_, rfl, h⟩
 by_cases hszt : (sizes t.kids : Int) ≤ left1
 rotate_left
 ·rw [szV_not (by omega)] at HSZt
  clear hszt hszl hleft1 hl1b
  go_enter Tryz.func3, Tryz.ntmps3
  go_wp2_with fail
  refine (HSZl.out _ (HSl.out.below (below1 _ _))).mono ?_
  rintro e w1 ⟨rfl, hb⟩
  have HXt := tuck ((BoxAt.new w t.kind t.num (.slice ta t.kids.length tc) 25).below hb)
  have HB : Hid (Bel w w1) := tuck ⟨bAfter (below1 _ _) hb⟩
  clear hb
  obtain ⟨zt, c0t, c1t, c2t⟩ := HXt.out
  go_wp2_with fail
  refine (HSZt.out _ (HSt.out.below HB.out.be)).mono ?_
  rintro e w2 ⟨rfl, hb⟩
  replace HXt := tuck (HXt.out.below hb)
  replace HB := tuck (HB.out.below hb)
  clear hb
  clear zt c0t c1t c2t
  obtain ⟨zt, c0t, c1t, c2t⟩ := HXt.out
  go_wp2_with fail
  go_ret
  exact ⟨rfl, HB.out.be⟩
 rw [szV_of (by omega)] at HSZt
 obtain ⟨left2, hleft2⟩ : ∃ left : Int, left = left1 - (sizes t.kids : Int) := ⟨_, rfl⟩
 have hl2a : (0 : Int) ≤ left2 := by omega
 have hl2b : left2 ≤ 1048576 := by omega
 rw [← hleft2] at HSZt
 obtain ⟨R0, hR0⟩ : ∃ R : List Nat, R = usedL l t := ⟨_, rfl⟩
 have HSP : Hid (∀ (w : World) (vl : Value) (vt : Value), DfIn w 0 l vl → TmIn w 0 t vt → Calls Tryz.prog 8 #[vl, vt] w (fun e w' => Below w.heap.size w w' ∧ ∃ (a0 : Option Addr) (c0 : Nat), e = .returned (.slice a0 R0.length c0) ∧ NP w.heap.size R0 (.slice a0 R0.length c0) w')) := fun w vl vt hl ht => by subst hR0; exact (usedDefsS_any l t w vl vt hl ht).mono fun _ _ h => h.law
 have HIM : Hid (∀ (w : World) (vl : Value) (vt : Value), DfIn w 0 l vl → TmIn w 0 t vt → Calls Tryz.prog 11 #[vl, vt] w (fun e w' => Below w.heap.size w w' ∧ ∃ (a0 : Option Addr) (c0 : Nat), e = .returned (.slice a0 R0.length c0) ∧ NQ w.heap.size R0 (.slice a0 R0.length c0) w')) := fun w vl vt hl ht => by subst hR0; exact (usedDefsI_any l t w vl vt hl ht).mono fun _ _ h => h.law
 have hszR0 : R0.length ≤ 1000000 := by subst hR0; exact (usedL_small l t).1
 have HLR0 := tuck (show R0.length ≤ 1048576 ∧ True by subst hR0; exact (usedL_small l t).2)
 clear hR0
 have hdll : l.length ≤ 1048576 := by have := dsizes_len l; omega
 have HDLl := tuck hdll
 have hfll : sizes (flat l) ≤ 2097152 := by have h1 := flat_sizes l; have h2 := dsizes_len l; omega
 have HTOl : Hid (∀ (w : World), DfIn w 0 l (.slice la l.length lc) → Calls Tryz.prog 9 #[(.slice la l.length lc)] w (ToDsOPost w l)) := fun w h => toDefSO_any l w _ (by omega) h
 have HEQl : Hid (∀ (w : World) (v1 v2 : Value), DfIn w 0 l v1 → DfIn w 0 l v2 → Calls Tryz.prog 13 #[v1, v2] w (EqPost w true)) := fun w v1 v2 h1 h2 => eqDefS_any l w v1 v2 HDLl.out h1 h2
 have HTOt : Hid (∀ (w : World), SlIn w 0 t.kids (.slice ta t.kids.length tc) → Calls Tryz.prog 10 #[.agg #[.int .i64 t.kind, .int .i64 t.num, (.slice ta t.kids.length tc)]] w fun e w' => Below w.heap.size w w' ∧ ∃ a c F, e = .returned (.agg #[.int .i64 t.kind, .int .i64 t.num, .slice a t.kids.length c]) ∧ SlOwn w' t.kids (.slice a t.kids.length c) F ∧ F.Nodup ∧ ∀ g ∈ F, w.heap.size ≤ g ∧ g < w'.heap.size) := fun w h => toO_made t w _ (by omega) ⟨_, rfl, h⟩
 have HEQt : Hid (∀ (w : World) (v1 v2 : Value), TmIn w 0 t v1 → TmIn w 0 t v2 → Calls Tryz.prog 14 #[v1, v2] w (EqPost w true)) := fun w v1 v2 h1 h2 => by have := eqT_any t t w v1 v2 h1 h2; rwa [same_self] at this
 have HEQR0 : Hid (∀ (w : World) (B1 B2 : Nat) (v1 v2 : Value), NP B1 R0 v1 w → NP B2 R0 v2 w → Calls Tryz.prog 12 #[v1, v2] w (EqPost w true)) := tuck fun w B1 B2 v1 v2 h1 h2 => eqNP_any R0 B1 B2 w v1 v2 HLR0.out.1 HLR0.out.2 h1 h2
 have hkl : (0 : Int) ≤ 1 ∧ (1 : Int) + 2 * (sizes (flat l) : Int) ≤ 4611686018427387904 := by omega
 have HKl := tuck hkl
 have hkt : (0 : Int) ≤ (1 : Int) + 2 * (sizes (flat l) : Int) ∧ (1 : Int) + 2 * (sizes (flat l) : Int) + 2 * (sizes t.kids : Int) ≤ 4611686018427387904 := by omega
 have HKt := tuck hkt
 have hkend : ¬ ((1 : Int) + 2 * (sizes (flat l) : Int) + 2 * (sizes t.kids : Int)) < 0 := by omega
 have hm0 : (0 : Int) ≤ 1 ∧ (1 : Int) + (R0.length : Int) ≤ 4611686018427387904 := by omega
 have HM0 := tuck hm0
 have hmn0 : ¬ ((1 : Int) + (R0.length : Int)) < 0 := by omega
 clear hszR0 hszl hszt hleft1 hleft2 hl1b hl2b hkl hkt hdll hfll hm0
 go_enter Tryz.func3, Tryz.ntmps3
 go_wp2_with fail
 refine (HSZl.out _ (HSl.out.below (below1 _ _))).mono ?_
 rintro e w1 ⟨rfl, hb⟩
 have HXt := tuck ((BoxAt.new w t.kind t.num (.slice ta t.kids.length tc) 25).below hb)
 have HB : Hid (Bel w w1) := tuck ⟨bAfter (below1 _ _) hb⟩
 clear hb
 obtain ⟨zt, c0t, c1t, c2t⟩ := HXt.out
 go_wp2_with fail
 refine (HSZt.out _ (HSt.out.below HB.out.be)).mono ?_
 rintro e w2 ⟨rfl, hb⟩
 replace HXt := tuck (HXt.out.below hb)
 replace HB := tuck (HB.out.below hb)
 clear hb
 clear zt c0t c1t c2t
 obtain ⟨zt, c0t, c1t, c2t⟩ := HXt.out
 go_upto_region 8 with fail
 go_cut [6] (fun p0 wx => ∃ (a0 : Option Addr) (c0 : Nat), p0 = .slice a0 R0.length c0 ∧ Below w2.heap.size w2 wx ∧ NP 0 R0 (.slice a0 R0.length c0) wx)
 case first =>
  have HT12 : ∀ w' : World, (fun w' : World => Below w2.heap.size w2 w' ∧ (w.heap.size < w'.heap.size ∧ w'.cell? ⟨w.heap.size, 0, none⟩ = some (.int .i64 t.kind) ∧ w'.cell? ⟨w.heap.size, 1, none⟩ = some (.int .i64 t.num) ∧ w'.cell? ⟨w.heap.size, 2, none⟩ = some (.slice ta t.kids.length tc))) w' → (fun w' : World => Below w2.heap.size w2 w' ∧ (w.heap.size < w'.heap.size ∧ w'.cell? ⟨w.heap.size, 0, none⟩ = some (.int .i64 t.kind) ∧ w'.cell? ⟨w.heap.size, 1, none⟩ = some (.int .i64 t.num) ∧ w'.cell? ⟨w.heap.size, 2, none⟩ = some (.slice ta t.kids.length tc))) w' := fun w' h => h
  refine AnyTwo.begin (fun w' : World => Below w2.heap.size w2 w' ∧ (w.heap.size < w'.heap.size ∧ w'.cell? ⟨w.heap.size, 0, none⟩ = some (.int .i64 t.kind) ∧ w'.cell? ⟨w.heap.size, 1, none⟩ = some (.int .i64 t.num) ∧ w'.cell? ⟨w.heap.size, 2, none⟩ = some (.slice ta t.kids.length tc))) (fun w' : World => Below w2.heap.size w2 w' ∧ (w.heap.size < w'.heap.size ∧ w'.cell? ⟨w.heap.size, 0, none⟩ = some (.int .i64 t.kind) ∧ w'.cell? ⟨w.heap.size, 1, none⟩ = some (.int .i64 t.num) ∧ w'.cell? ⟨w.heap.size, 2, none⟩ = some (.slice ta t.kids.length tc))) 5 (by kernel_rfl) ?_
  have hS1 : (fun w' : World => Below w2.heap.size w2 w' ∧ (w.heap.size < w'.heap.size ∧ w'.cell? ⟨w.heap.size, 0, none⟩ = some (.int .i64 t.kind) ∧ w'.cell? ⟨w.heap.size, 1, none⟩ = some (.int .i64 t.num) ∧ w'.cell? ⟨w.heap.size, 2, none⟩ = some (.slice ta t.kids.length tc))) w2.drew := ⟨(Below.refl _ _).drew, HXt.out⟩
  have HXL : Hid (w.heap.size < w2.heap.size) := tuck HXt.out.1
  refine AnyTwo.takeAny HT12 (i := 0) (oi := ⟨some 24, _, _, _, _, _⟩) (v := ?v80) rfl (by kernel_rfl) (by kernel_rfl) (by decide +kernel) (by rfl) (fun _ _ _ h => h) (Or.inl ⟨by rfl, ?y80⟩) (ph_one (by kernel_rfl) hS1) ?r80
  case y80 => (intro w hSw; (try dsimp only at hSw); go_simp; try (with_reducible rfl))
  try simp only [Act.put, List.setIfInBounds_toArray, List.set_cons_zero, List.set_cons_succ]
  refine AnyTwo.takeAny HT12 (i := 2) (oi := ⟨some 26, _, _, _, _, _⟩) (v := ?v82) rfl (by kernel_rfl) (by kernel_rfl) (by decide +kernel) (by rfl) (fun _ _ _ h => h) (Or.inl ⟨by rfl, ?y82⟩) (ph_one (by kernel_rfl) hS1) ?r82
  case y82 => (intro w hSw; (try dsimp only at hSw); go_simp; try (with_reducible rfl))
  try simp only [Act.put, List.setIfInBounds_toArray, List.set_cons_zero, List.set_cons_succ]
  refine AnyTwo.step (i := 1) (o := ⟨some 25, _, _, _, _, _⟩) (by kernel_rfl) rfl (fun K hK => ?_)
  go_simp
  refine (HTOl.out _ (HSl.out.below (bAfter HB.out.be (hold_be hS1)))).mono ?_
  rintro e wql ⟨hbq, qal, qcl, FQ, rfl, hsx, -, hFx⟩
  have HQl := tuck (hsx.df (B := 0) (fun _ _ => Nat.zero_le _) (fun g hg => (hFx g hg).2))
  clear hsx hFx
  have hS1' : (fun w' : World => Below w2.heap.size w2 w' ∧ (w.heap.size < w'.heap.size ∧ w'.cell? ⟨w.heap.size, 0, none⟩ = some (.int .i64 t.kind) ∧ w'.cell? ⟨w.heap.size, 1, none⟩ = some (.int .i64 t.num) ∧ w'.cell? ⟨w.heap.size, 2, none⟩ = some (.slice ta t.kids.length tc))) _ := hold1T hS1 hbq
  refine hK.out _ _ (ph_one (by kernel_rfl) hS1') ?_
  clear hK K hS1
  have hS1 := hS1'
  clear hS1'
  try simp only [Act.put, List.setIfInBounds_toArray, List.set_cons_zero, List.set_cons_succ]
  clear hbq
  refine AnyTwo.step (i := 3) (o := ⟨some 27, _, _, _, _, _⟩) (by kernel_rfl) rfl (fun K hK => ?_)
  go_simp
  refine (HTOt.out _ (HSt.out.below (bAfter HB.out.be (hold_be hS1)))).mono ?_
  rintro e wqt ⟨hbq, qat, qct, FQ, rfl, hsx, -, -⟩
  have HQt := tuck (hsx.sl (B := 0) (fun _ _ => Nat.zero_le _))
  clear hsx
  replace HQl := tuck (HQl.out.below hbq)
  have hS1' : (fun w' : World => Below w2.heap.size w2 w' ∧ (w.heap.size < w'.heap.size ∧ w'.cell? ⟨w.heap.size, 0, none⟩ = some (.int .i64 t.kind) ∧ w'.cell? ⟨w.heap.size, 1, none⟩ = some (.int .i64 t.num) ∧ w'.cell? ⟨w.heap.size, 2, none⟩ = some (.slice ta t.kids.length tc))) _ := hold1T hS1 hbq
  refine hK.out _ _ (ph_one (by kernel_rfl) hS1') ?_
  clear hK K hS1
  have hS1 := hS1'
  clear hS1'
  try simp only [Act.put, List.setIfInBounds_toArray, List.set_cons_zero, List.set_cons_succ]
  clear hbq
  refine AnyTwo.step (i := 4) (o := ⟨some 28, _, _, _, _, _⟩) (by kernel_rfl) rfl (fun K hK => ?_)
  go_simp
  refine (HSP.out _ _ _ HQl.out ⟨_, rfl, HQt.out⟩).mono ?_
  rintro e wr ⟨hbq, a0, c0, rfl, hw0⟩
  have HW0 := tuck hw0
  clear hw0
  have HH9 := tuck (hold1T hS1 hbq)
  have hS1' : (fun w' : World => Below w2.heap.size w2 w' ∧ (w.heap.size < w'.heap.size ∧ w'.cell? ⟨w.heap.size, 0, none⟩ = some (.int .i64 t.kind) ∧ w'.cell? ⟨w.heap.size, 1, none⟩ = some (.int .i64 t.num) ∧ w'.cell? ⟨w.heap.size, 2, none⟩ = some (.slice ta t.kids.length tc))) _ := HH9.out
  refine hK.out _ _ (ph_one (by kernel_rfl) hS1') ?_
  clear hK K hS1
  have hS1 := hS1'
  clear hS1'
  try simp only [Act.put, List.setIfInBounds_toArray, List.set_cons_zero, List.set_cons_succ]
  refine AnyTwo.step (i := 5) (o := ⟨some 6, _, _, _, _, _⟩) (by kernel_rfl) rfl (fun K hK => ?_)
  go_simp
  refine hK.out _ _ (ph_end (by kernel_rfl) hS1) ?_
  clear hK K
  try simp only [Act.put, List.setIfInBounds_toArray, List.set_cons_zero, List.set_cons_succ]
  refine AnyTwo.done (by kernel_rfl) ?_ _
  go_wp2_with fail
  go_meet
  exact ⟨a0, c0, rfl, hold_be hS1, HW0.out.base (b' := 0) (Nat.zero_le _)⟩
 case rest =>
  obtain ⟨u8a0, u8c0, rfl, hb, hs0⟩ := hcut
  rename World => W8
  have H8W0 := tuck hs0
  replace HXt := tuck (HXt.out.below hb)
  replace HB := tuck (HB.out.below hb)
  clear hb hs0
  clear zt c0t c1t c2t
  obtain ⟨zt, c0t, c1t, c2t⟩ := HXt.out
  go_wp2_with fail
  clear zt c0t c1t c2t
  have HBW : Hid (Bel W8 W8) := tuck ⟨Below.refl _ _⟩
  have HL1t : Hid (w.heap.size < W8.heap.size) := tuck HXt.out.1
  have HL0 : Hid (w.heap.size ≤ W8.heap.size) := tuck HB.out.be.size
  refine (HTOl.out _ (HSl.out.below HB.out.be)).mono ?_
  rintro e wxl ⟨hb, uxla, uxlc, Fl, rfl, hsx, hnx, hFx⟩
  have HOl := tuck (OwnD.of hsx hnx hFx)
  have HNl := tuck hb.size
  replace HXt := tuck (HXt.out.below hb)
  replace HB := tuck (HB.out.below hb)
  replace HBW := tuck (HBW.out.below hb)
  clear hb hsx hnx hFx
  obtain ⟨zt, c0t, c1t, c2t⟩ := HXt.out
  go_wp2_with fail
  clear zt c0t c1t c2t
  refine (HTOt.out _ (HSt.out.below HB.out.be)).mono ?_
  rintro e wxt ⟨hb, uxta, uxtc, Ft, rfl, hsx, hnx, hFx⟩
  have HOt := tuck (OwnB.of hsx hnx hFx)
  have HNt := tuck hb.size
  replace HXt := tuck (HXt.out.below hb)
  replace HB := tuck (HB.out.below hb)
  replace HBW := tuck (HBW.out.below hb)
  replace HOl := tuck (HOl.out.below hb)
  clear hb hsx hnx hFx
  obtain ⟨zt, c0t, c1t, c2t⟩ := HXt.out
  go_wp2_with fail
  clear zt c0t c1t c2t
  have hbx := below1 wxt (.cells #[.int .i64 t.kind, .int .i64 t.num, .slice uxta t.kids.length uxtc] 34)
  have VXt := tuck (VarAt.new wxt t.kind t.num (.slice uxta t.kids.length uxtc))
  have hzz : wxt.heap.size < (wxt.alloc (.cells #[.int .i64 t.kind, .int .i64 t.num, .slice uxta t.kids.length uxtc] 34)).heap.size := by simp
  replace HXt := tuck (HXt.out.below hbx)
  replace HB := tuck (HB.out.below hbx)
  replace HBW := tuck (HBW.out.below hbx)
  replace HOl := tuck (HOl.out.below hbx)
  replace HOt := tuck (HOt.out.below hbx)
  clear hbx
  generalize wxt.alloc (.cells #[.int .i64 t.kind, .int .i64 t.num, .slice uxta t.kids.length uxtc] 34) = WXt at *
  generalize wxt.heap.size = gxt at *
  have HZXt := tuck hzz
  clear hzz
  refine (HIM.out _ _ _ HOl.out.sl ⟨_, rfl, HOt.out.sl⟩).mono ?_
  rintro e wG ⟨hb, Ga0, Gc0, rfl, hw0⟩
  have HOG0 := tuck hw0
  have hnd := trivial
  have hF := trivial
  have HNG := tuck hb.size
  replace HXt := tuck (HXt.out.below hb)
  replace HB := tuck (HB.out.below hb)
  replace HBW := tuck (HBW.out.below hb)
  replace HOl := tuck (HOl.out.below hb)
  replace HOt := tuck (HOt.out.below hb)
  replace VXt := tuck (VXt.out.below hb)
  clear hb hnd hF hw0
  obtain ⟨zt, c0t, c1t, c2t⟩ := HXt.out
  obtain ⟨zxt, x0t, x1t, x2t, xft⟩ := VXt.out.facts
  go_wp2_with fail
  clear zxt x0t x1t x2t xft
  clear zt c0t c1t c2t
  refine (HEQR0.out _ _ _ _ _ (HOG0.out.rowP) (H8W0.out.below HBW.out.be)).mono ?_
  rintro e wE0 ⟨rfl, hb⟩
  replace HXt := tuck (HXt.out.below hb)
  replace HB := tuck (HB.out.below hb)
  replace HBW := tuck (HBW.out.below hb)
  replace HOl := tuck (HOl.out.below hb)
  replace HOt := tuck (HOt.out.below hb)
  replace VXt := tuck (VXt.out.below hb)
  replace HOG0 := tuck (HOG0.out.below hb)
  clear hb
  obtain ⟨zt, c0t, c1t, c2t⟩ := HXt.out
  obtain ⟨zxt, x0t, x1t, x2t, xft⟩ := VXt.out.facts
  go_wp2_with fail
  clear zxt x0t x1t x2t xft
  clear zt c0t c1t c2t
  refine (HTOl.out _ (HSl.out.below HB.out.be)).mono ?_
  rintro e w73l ⟨hb, uyla, uylc, FUl, rfl, hsx, hnx, hFx⟩
  have Hyl := tuck (hsx.df (B := 0) (fun _ _ => Nat.zero_le _) (fun g hg => (hFx g hg).2))
  replace HXt := tuck (HXt.out.below hb)
  replace HB := tuck (HB.out.below hb)
  replace HBW := tuck (HBW.out.below hb)
  replace HOl := tuck (HOl.out.below hb)
  replace HOt := tuck (HOt.out.below hb)
  replace VXt := tuck (VXt.out.below hb)
  replace HOG0 := tuck (HOG0.out.below hb)
  clear hb hsx hnx hFx
  obtain ⟨zt, c0t, c1t, c2t⟩ := HXt.out
  obtain ⟨zxt, x0t, x1t, x2t, xft⟩ := VXt.out.facts
  go_wp2_with fail
  clear zxt x0t x1t x2t xft
  clear zt c0t c1t c2t
  refine (HEQl.out _ _ _ HOl.out.sl Hyl.out).mono ?_
  rintro e w74l ⟨rfl, hb⟩
  replace HXt := tuck (HXt.out.below hb)
  replace HB := tuck (HB.out.below hb)
  replace HBW := tuck (HBW.out.below hb)
  replace HOl := tuck (HOl.out.below hb)
  replace HOt := tuck (HOt.out.below hb)
  replace VXt := tuck (VXt.out.below hb)
  replace HOG0 := tuck (HOG0.out.below hb)
  clear hb Hyl
  obtain ⟨zt, c0t, c1t, c2t⟩ := HXt.out
  obtain ⟨zxt, x0t, x1t, x2t, xft⟩ := VXt.out.facts
  go_wp2_with fail
  clear zxt x0t x1t x2t xft
  clear zt c0t c1t c2t
  go_region_held3 (fun w' => Below w74l.heap.size w74l w' ∧ (w.heap.size < w'.heap.size ∧ w'.cell? ⟨w.heap.size, 0, none⟩ = some (.int .i64 t.kind) ∧ w'.cell? ⟨w.heap.size, 1, none⟩ = some (.int .i64 t.num) ∧ w'.cell? ⟨w.heap.size, 2, none⟩ = some (.slice ta t.kids.length tc)) ∧ (gxt < w'.heap.size ∧ w'.cell? ⟨gxt, 0, none⟩ = some (.int .i64 t.kind) ∧ w'.cell? ⟨gxt, 1, none⟩ = some (.int .i64 t.num) ∧ w'.cell? ⟨gxt, 2, none⟩ = some (.slice uxta t.kids.length uxtc))) (first | exact ⟨(Below.refl _ _).drew, HXt.out, VXt.out.four⟩ | exact holdT (by assumption) hb71 | exact holdT (by assumption) hb72) (first | (go_at_call 10; refine (HTOt.out _ (HSt.out.below (bAfter HB.out.be (hold_be (by assumption))))).mono ?_; rintro e w71t ⟨hb71, qa, qc, F71, rfl, hs71, -, -⟩) | (go_at_call 14; refine (HEQt.out _ _ _ ⟨_, rfl, HOt.out.sl.below (hold_be (by assumption))⟩ ⟨_, rfl, hs71.sl (fun _ _ => Nat.zero_le _)⟩).mono ?_; rintro e w72t ⟨rfl, hb72⟩))
  have hb : Below w74l.heap.size w74l w72t := hold_be (by assumption)
  replace HXt := tuck (HXt.out.below hb)
  replace HB := tuck (HB.out.below hb)
  replace HBW := tuck (HBW.out.below hb)
  replace HOl := tuck (HOl.out.below hb)
  replace HOt := tuck (HOt.out.below hb)
  replace VXt := tuck (VXt.out.below hb)
  replace HOG0 := tuck (HOG0.out.below hb)
  clear hb hb71 hb72 hs71
  obtain ⟨zt, c0t, c1t, c2t⟩ := HXt.out
  obtain ⟨zxt, x0t, x1t, x2t, xft⟩ := VXt.out.facts
  go_wp2_with fail
  clear zxt x0t x1t x2t xft
  clear zt c0t c1t c2t
  have geHOl := HOl.out.ge
  have ltHOl := HOl.out.lt
  have geHOt := HOt.out.ge
  have ltHOt := HOt.out.lt
  refine (markDefS_but l Fl (1) _ _ HKl.out.1 HKl.out.2 HOl.out.nd HOl.out.own).mono ?_
  rintro e wml ⟨rfl, hown, hbut⟩
  have e0 := HL1t.out; have e1 := HL0.out; have e2 := HNl.out; have e3 := HNt.out; have e4 := HZXt.out; have e5 := HNG.out
  skip
  replace HXt := tuck (HXt.out.but hbut (fun hf => by have h1 := geHOl _ hf; have h2 := ltHOl _ hf; omega))
  replace HB := tuck (HB.out.but hbut (fun g hf => by have h1 := geHOl _ hf; have h2 := ltHOl _ hf; omega))
  replace HBW := tuck (HBW.out.but hbut (fun g hf => by have h1 := geHOl _ hf; have h2 := ltHOl _ hf; omega))
  replace HOt := tuck (HOt.out.but hbut (fun g hg hf => by have h1 := geHOl _ hf; have h2 := ltHOl _ hf; have h3 := geHOt _ hg; have h4 := ltHOt _ hg; omega))
  replace VXt := tuck (VXt.out.but hbut (fun hf => by have h1 := geHOl _ hf; have h2 := ltHOl _ hf; omega))
  replace HOG0 := tuck (HOG0.out.but hbut (fun g hf => by have h1 := geHOl _ hf; have h2 := ltHOl _ hf; omega))
  clear hbut hown geHOl ltHOl geHOt ltHOt
  clear e0 e1 e2 e3 e4 e5
  clear HOl
  obtain ⟨zt, c0t, c1t, c2t⟩ := HXt.out
  obtain ⟨zxt, x0t, x1t, x2t, xft⟩ := VXt.out.facts
  go_wp2_with fail
  clear zxt x0t x1t x2t xft
  clear zt c0t c1t c2t
  have geHOt := HOt.out.ge
  have ltHOt := HOt.out.lt
  refine (markT_any t Ft ((1 : Int) + 2 * (sizes (flat l) : Int)) _ _ HKt.out.1 HKt.out.2 HOt.out.nd HOt.out.lts HOt.out.own).mono ?_
  rintro e wmt ⟨rfl, hown, hbut⟩
  have e0 := HL1t.out; have e1 := HL0.out; have e2 := HNl.out; have e3 := HNt.out; have e4 := HZXt.out; have e5 := HNG.out
  skip
  replace HXt := tuck (HXt.out.but hbut (fun hf => by have h1 := geHOt _ hf; have h2 := ltHOt _ hf; omega))
  replace HB := tuck (HB.out.but hbut (fun g hf => by have h1 := geHOt _ hf; have h2 := ltHOt _ hf; omega))
  replace HBW := tuck (HBW.out.but hbut (fun g hf => by have h1 := geHOt _ hf; have h2 := ltHOt _ hf; omega))
  replace HOG0 := tuck (HOG0.out.but hbut (fun g hf => by have h1 := geHOt _ hf; have h2 := ltHOt _ hf; omega))
  clear hbut hown geHOt ltHOt
  clear e0 e1 e2 e3 e4 e5
  clear VXt
  clear HOt
  obtain ⟨zt, c0t, c1t, c2t⟩ := HXt.out
  go_wp2_with fail
  clear zt c0t c1t c2t
  refine (HEQR0.out _ _ _ _ _ (HOG0.out.rowP) (H8W0.out.below HBW.out.be)).mono ?_
  rintro e wK0 ⟨rfl, hb⟩
  replace HXt := tuck (HXt.out.below hb)
  replace HB := tuck (HB.out.below hb)
  replace HBW := tuck (HBW.out.below hb)
  replace HOG0 := tuck (HOG0.out.below hb)
  clear hb
  obtain ⟨zt, c0t, c1t, c2t⟩ := HXt.out
  go_wp2_with fail
  clear zt c0t c1t c2t
  refine (markNP_any R0 _ (1) _ _ HLR0.out.1 HLR0.out.2 HM0.out.1 HM0.out.2 HOG0.out).mono ?_
  rintro e wn0 ⟨rfl, hown, FZ, hbut, hff⟩
  have e0 := HL1t.out; have e1 := HL0.out; have e2 := HNl.out; have e3 := HNt.out; have e4 := HZXt.out; have e5 := HNG.out
  skip
  replace HXt := tuck (HXt.out.but hbut (fun hf => by have h1 := hff _ hf; omega))
  replace HB := tuck (HB.out.but hbut (fun g hf => by have h1 := hff _ hf; omega))
  replace HBW := tuck (HBW.out.but hbut (fun g hf => by have h1 := hff _ hf; omega))
  replace HOG0 := tuck hown
  clear hbut hff hown
  clear e0 e1 e2 e3 e4 e5
  obtain ⟨zt, c0t, c1t, c2t⟩ := HXt.out
  go_wp2_with fail
  clear zt c0t c1t c2t
  refine (heldNP_any R0 _ (1) _ _ HLR0.out.1 HM0.out.1 HM0.out.2 HOG0.out).mono ?_
  rintro e wh0 ⟨rfl, hb⟩
  replace HXt := tuck (HXt.out.below hb)
  replace HB := tuck (HB.out.below hb)
  replace HBW := tuck (HBW.out.below hb)
  replace HOG0 := tuck (HOG0.out.below hb)
  clear hb
  obtain ⟨zt, c0t, c1t, c2t⟩ := HXt.out
  go_upto_region 31 with fail
  go_cut [13] (fun p0 wx => ∃ (a0 : Option Addr) (c0 : Nat), p0 = .slice a0 R0.length c0 ∧ Below wh0.heap.size wh0 wx ∧ NP 0 R0 (.slice a0 R0.length c0) wx)
  case first =>
   have HT12 : ∀ w' : World, (fun w' : World => Below wh0.heap.size wh0 w' ∧ (w.heap.size < w'.heap.size ∧ w'.cell? ⟨w.heap.size, 0, none⟩ = some (.int .i64 t.kind) ∧ w'.cell? ⟨w.heap.size, 1, none⟩ = some (.int .i64 t.num) ∧ w'.cell? ⟨w.heap.size, 2, none⟩ = some (.slice ta t.kids.length tc))) w' → (fun w' : World => Below wh0.heap.size wh0 w' ∧ (w.heap.size < w'.heap.size ∧ w'.cell? ⟨w.heap.size, 0, none⟩ = some (.int .i64 t.kind) ∧ w'.cell? ⟨w.heap.size, 1, none⟩ = some (.int .i64 t.num) ∧ w'.cell? ⟨w.heap.size, 2, none⟩ = some (.slice ta t.kids.length tc))) w' := fun w' h => h
   refine AnyTwo.begin (fun w' : World => Below wh0.heap.size wh0 w' ∧ (w.heap.size < w'.heap.size ∧ w'.cell? ⟨w.heap.size, 0, none⟩ = some (.int .i64 t.kind) ∧ w'.cell? ⟨w.heap.size, 1, none⟩ = some (.int .i64 t.num) ∧ w'.cell? ⟨w.heap.size, 2, none⟩ = some (.slice ta t.kids.length tc))) (fun w' : World => Below wh0.heap.size wh0 w' ∧ (w.heap.size < w'.heap.size ∧ w'.cell? ⟨w.heap.size, 0, none⟩ = some (.int .i64 t.kind) ∧ w'.cell? ⟨w.heap.size, 1, none⟩ = some (.int .i64 t.num) ∧ w'.cell? ⟨w.heap.size, 2, none⟩ = some (.slice ta t.kids.length tc))) 5 (by kernel_rfl) ?_
   have hS1 : (fun w' : World => Below wh0.heap.size wh0 w' ∧ (w.heap.size < w'.heap.size ∧ w'.cell? ⟨w.heap.size, 0, none⟩ = some (.int .i64 t.kind) ∧ w'.cell? ⟨w.heap.size, 1, none⟩ = some (.int .i64 t.num) ∧ w'.cell? ⟨w.heap.size, 2, none⟩ = some (.slice ta t.kids.length tc))) wh0.drew := ⟨(Below.refl _ _).drew, HXt.out⟩
   have HXL : Hid (w.heap.size < wh0.heap.size) := tuck HXt.out.1
   refine AnyTwo.takeAny HT12 (i := 0) (oi := ⟨some 75, _, _, _, _, _⟩) (v := ?vH0) rfl (by kernel_rfl) (by kernel_rfl) (by decide +kernel) (by rfl) (fun _ _ _ h => h) (Or.inl ⟨by rfl, ?yH0⟩) (ph_one (by kernel_rfl) hS1) ?rH0
   case yH0 => (intro w hSw; (try dsimp only at hSw); go_simp; try (with_reducible rfl))
   try simp only [Act.put, List.setIfInBounds_toArray, List.set_cons_zero, List.set_cons_succ]
   refine AnyTwo.takeAny HT12 (i := 2) (oi := ⟨some 77, _, _, _, _, _⟩) (v := ?vH2) rfl (by kernel_rfl) (by kernel_rfl) (by decide +kernel) (by rfl) (fun _ _ _ h => h) (Or.inl ⟨by rfl, ?yH2⟩) (ph_one (by kernel_rfl) hS1) ?rH2
   case yH2 => (intro w hSw; (try dsimp only at hSw); go_simp; try (with_reducible rfl))
   try simp only [Act.put, List.setIfInBounds_toArray, List.set_cons_zero, List.set_cons_succ]
   refine AnyTwo.step (i := 1) (o := ⟨some 76, _, _, _, _, _⟩) (by kernel_rfl) rfl (fun K hK => ?_)
   go_simp
   refine (HTOl.out _ (HSl.out.below (bAfter HB.out.be (hold_be hS1)))).mono ?_
   rintro e wql ⟨hbq, qal, qcl, FQ, rfl, hsx, -, hFx⟩
   have HQl := tuck (hsx.df (B := 0) (fun _ _ => Nat.zero_le _) (fun g hg => (hFx g hg).2))
   clear hsx hFx
   have hS1' : (fun w' : World => Below wh0.heap.size wh0 w' ∧ (w.heap.size < w'.heap.size ∧ w'.cell? ⟨w.heap.size, 0, none⟩ = some (.int .i64 t.kind) ∧ w'.cell? ⟨w.heap.size, 1, none⟩ = some (.int .i64 t.num) ∧ w'.cell? ⟨w.heap.size, 2, none⟩ = some (.slice ta t.kids.length tc))) _ := hold1T hS1 hbq
   refine hK.out _ _ (ph_one (by kernel_rfl) hS1') ?_
   clear hK K hS1
   have hS1 := hS1'
   clear hS1'
   try simp only [Act.put, List.setIfInBounds_toArray, List.set_cons_zero, List.set_cons_succ]
   clear hbq
   refine AnyTwo.step (i := 3) (o := ⟨some 78, _, _, _, _, _⟩) (by kernel_rfl) rfl (fun K hK => ?_)
   go_simp
   refine (HTOt.out _ (HSt.out.below (bAfter HB.out.be (hold_be hS1)))).mono ?_
   rintro e wqt ⟨hbq, qat, qct, FQ, rfl, hsx, -, -⟩
   have HQt := tuck (hsx.sl (B := 0) (fun _ _ => Nat.zero_le _))
   clear hsx
   replace HQl := tuck (HQl.out.below hbq)
   have hS1' : (fun w' : World => Below wh0.heap.size wh0 w' ∧ (w.heap.size < w'.heap.size ∧ w'.cell? ⟨w.heap.size, 0, none⟩ = some (.int .i64 t.kind) ∧ w'.cell? ⟨w.heap.size, 1, none⟩ = some (.int .i64 t.num) ∧ w'.cell? ⟨w.heap.size, 2, none⟩ = some (.slice ta t.kids.length tc))) _ := hold1T hS1 hbq
   refine hK.out _ _ (ph_one (by kernel_rfl) hS1') ?_
   clear hK K hS1
   have hS1 := hS1'
   clear hS1'
   try simp only [Act.put, List.setIfInBounds_toArray, List.set_cons_zero, List.set_cons_succ]
   clear hbq
   refine AnyTwo.step (i := 4) (o := ⟨some 79, _, _, _, _, _⟩) (by kernel_rfl) rfl (fun K hK => ?_)
   go_simp
   refine (HIM.out _ _ _ HQl.out ⟨_, rfl, HQt.out⟩).mono ?_
   rintro e wr ⟨hbq, a0, c0, rfl, hw0⟩
   have HW0 := tuck hw0.rowP
   clear hw0
   have HH9 := tuck (hold1T hS1 hbq)
   have hS1' : (fun w' : World => Below wh0.heap.size wh0 w' ∧ (w.heap.size < w'.heap.size ∧ w'.cell? ⟨w.heap.size, 0, none⟩ = some (.int .i64 t.kind) ∧ w'.cell? ⟨w.heap.size, 1, none⟩ = some (.int .i64 t.num) ∧ w'.cell? ⟨w.heap.size, 2, none⟩ = some (.slice ta t.kids.length tc))) _ := HH9.out
   refine hK.out _ _ (ph_one (by kernel_rfl) hS1') ?_
   clear hK K hS1
   have hS1 := hS1'
   clear hS1'
   try simp only [Act.put, List.setIfInBounds_toArray, List.set_cons_zero, List.set_cons_succ]
   refine AnyTwo.step (i := 5) (o := ⟨some 13, _, _, _, _, _⟩) (by kernel_rfl) rfl (fun K hK => ?_)
   go_simp
   refine hK.out _ _ (ph_end (by kernel_rfl) hS1) ?_
   clear hK K
   try simp only [Act.put, List.setIfInBounds_toArray, List.set_cons_zero, List.set_cons_succ]
   refine AnyTwo.done (by kernel_rfl) ?_ _
   go_wp2_with fail
   go_meet
   exact ⟨a0, c0, rfl, hold_be hS1, HW0.out.base (b' := 0) (Nat.zero_le _)⟩
  case rest =>
   obtain ⟨uHa0, uHc0, rfl, hb, hs0⟩ := hcut
   rename World => WH
   have HHW0 := tuck hs0
   replace HXt := tuck (HXt.out.below hb)
   replace HB := tuck (HB.out.below hb)
   replace HBW := tuck (HBW.out.below hb)
   replace HOG0 := tuck (HOG0.out.below hb)
   clear hb hs0
   clear zt c0t c1t c2t
   obtain ⟨zt, c0t, c1t, c2t⟩ := HXt.out
   go_wp2_with fail
   clear zt c0t c1t c2t
   refine (HEQR0.out _ _ _ _ _ (HHW0.out) (H8W0.out.below HBW.out.be)).mono ?_
   rintro e wF0 ⟨rfl, hb⟩
   replace HXt := tuck (HXt.out.below hb)
   replace HB := tuck (HB.out.below hb)
   replace HBW := tuck (HBW.out.below hb)
   replace HOG0 := tuck (HOG0.out.below hb)
   replace HHW0 := tuck (HHW0.out.below hb)
   clear hb
   obtain ⟨zt, c0t, c1t, c2t⟩ := HXt.out
   go_wp2_with fail
   clear zt c0t c1t c2t
   refine (heldNP_any R0 _ (1) _ _ HLR0.out.1 HM0.out.1 HM0.out.2 HOG0.out).mono ?_
   rintro e wi0 ⟨rfl, hb⟩
   replace HXt := tuck (HXt.out.below hb)
   replace HB := tuck (HB.out.below hb)
   replace HBW := tuck (HBW.out.below hb)
   replace HOG0 := tuck (HOG0.out.below hb)
   clear hb
   go_wp2_with fail
   go_ret
   exact ⟨rfl, HB.out.be⟩
set_option maxRecDepth 100000 in
theorem lifted (os : Os) (started : os.Started) (H : Type) (enc : TypeId × Value → H) :
  ReturnsInHanded {} Tryz.checked os 3 .any (Rows.fnExactUsedDefsSpec.pre6 enc Tryz.prog Tryz.f3 Rows.fnExactUsedDefsRow.domain false) (Rows.fnExactUsedDefsSpec.post enc Tryz.prog Tryz.f3 false true false false) := by
 refine returnsInHanded_of_change (C := Tryz.checked) own started (by kernel_rfl) Tryz.func3
  (ChangeSpec.witness6 (enc := enc) (C := Tryz.checked) false ⟨#[], #[.slice none 0 0, .agg #[.int .i64 0, .int .i64 0, .slice none 0 0]], []⟩ 8 (by kernel_rfl) (by kernel_rfl) (by kernel_rfl) (by kernel_rfl)) ?_
 intro W base args ds gs before hval0 hW hcnd _
 have hval : ∀ (j : Nat) t v, Tryz.f3.params[j]? = some t → args[j]? = some v → Value.okWide Tryz.prog W .any base t v := hval0
 have hW' := hW
 obtain ⟨p, q, hA0, hV, rfl, hfz, hnd⟩ := hW
 have hA : DataW.TrodAll enc Tryz.prog W 0 (fun _ => true) true Tryz.f3.params.toList args.toList ds p := hA0
 rw [Tryz.params3] at hA hval
 obtain ⟨v0, vs0, d0, ds0, p0, q0, hargs, rfl, rfl, h0, r0⟩ := trodAll_cons hA
 obtain ⟨v1, vs1, d1, ds1, p1, q1, rfl, rfl, rfl, h1, r1⟩ := trodAll_cons r0
 obtain ⟨rfl, rfl, rfl⟩ := trodAll_nil r1
 obtain rfl : args = #[v0, v1] := by cases args; simp_all
 obtain ⟨l0, hl0⟩ := open_defs (hval 0 22 v0 rfl rfl) h0
 obtain ⟨t1, ht1⟩ := open_term (hval 1 25 v1 rfl rfl) h1
 refine (walk l0 t1 W v0 v1 hl0 ht1).mono fun e W' ⟨he, hb⟩ => ?_
 subst he
 exact ⟨_, rfl, law_post rfl rfl (fun gs h => by subst h; rfl) (by rw [Tryz.params3]; exact readable_FnExactUsedDefs) laid hW' hb⟩
theorem over : Rows.fnExactUsedDefsRow.holds Tryz.pinned (OpenSpec.ofChange Rows.fnExactUsedDefsSpec) :=
 OpenClaim.holds_of_wide 3 Tryz.f3 rfl rfl rfl rfl rfl rfl rfl ⟨rfl, rfl, rfl, rfl, rfl⟩ rfl rfl rfl rfl rfl (by kernel_rfl) Tryz.func3 (by kernel_rfl)
  (of_decide_eq_true (by kernel_rfl)) (by unfold Func.isWrapper; first | (rw [if_pos (by decide +kernel)]; kernel_rfl) | (rw [if_neg (by decide +kernel)]; exact ⟨rfl, rfl⟩))
  (fun os started H enc _ => lifted os started H enc)
theorem proved : Rows.FnExactUsedDefsSaid :=
 over
end Go.Proofs.YtpddjebdncaceaaGreat.fnExactUsedDefs
