/-
  The law FnExactLamOver: for every list and term (no ring among its parts), LamOver answers as its model, writes into no argument, and its answer is memory of its own.
-/
import Derived.Test.YtakdfpoigjgcnaaB03
import Derived.Test.YtakdfpoigjgcnaaB19
import Derived.Test.YtakdfpoigjgcnaaB23
import Derived.Test.YtakdfpoigjgcnaaB33
import Derived.Test.YtakdfpoigjgcnaaB36
import Derived.Deep.DeepCutAuto
namespace Go.Proofs.Ytakdfpoigjgcnaa.fnExactLamOver
open Go.ChangeShapes Go.WideShapes Go.ChangeAt Go.RowKit Go.Deep
set_option linter.unusedVariables false
theorem readable_FnExactLamOver : ∀ t ∈ (#[22, 24] : Array TypeId).toList, Try.prog.readableRec t = true ∧ t < Try.prog.types.size := by
 intro t ht
 simp at ht
 rcases ht with rfl | rfl
 all_goals exact ⟨by kernel_rfl, of_decide_eq_true (by kernel_rfl)⟩
theorem laid : laidOutB Try.prog = true := by kernel_rfl
set_option maxRecDepth 100000 in
set_option maxHeartbeats 4000000 in
/-- The walk. -/
theorem walk (l : List Tm) (t : Tm) (w : World) (vl : Value) (vt : Value) (hl : SlIn w 0 l vl) (ht : TmIn w 0 t vt) : Calls Try.prog 4 #[vl, vt] w fun e w' => e = .returned (.bool true) ∧ Below w.heap.size w w' := by
 obtain ⟨la, lc, rfl⟩ := hl.form
 have HSl := tuck hl
 obtain ⟨st, rfl, ht⟩ := ht
 obtain ⟨ta, tc, rfl⟩ := ht.form
 have HSt := tuck ht
 clear hl ht
 have HSZl : Hid (∀ (w : World), SlIn w 0 l (.slice la l.length lc) → Calls Try.prog 10 #[(.slice la l.length lc), .int .i64 1048576] w (SzPost w (szV l 1048576))) := fun w h => szS_any l 1048576 w _ (by omega) (by omega) h
 by_cases hszl : (sizes l : Int) ≤ 1048576
 rotate_left
 ·rw [szV_not (by omega)] at HSZl
  clear hszl
  go_enter Try.func4, Try.ntmps4
  go_wp2_with fail
  refine (HSZl.out _ (HSl.out.below (below1 _ _))).mono ?_
  rintro e w1 ⟨rfl, hb⟩
  have HXt := tuck ((BoxAt.new w t.kind t.num (.slice ta t.kids.length tc) 24).below hb)
  have HB : Hid (Bel w w1) := tuck ⟨bAfter (below1 _ _) hb⟩
  clear hb
  obtain ⟨zt, c0t, c1t, c2t⟩ := HXt.out
  go_wp2_with fail
  go_ret
  exact ⟨rfl, HB.out.be⟩
 rw [szV_of (by omega)] at HSZl
 obtain ⟨left1, hleft1⟩ : ∃ left : Int, left = 1048576 - (sizes l : Int) := ⟨_, rfl⟩
 have hl1a : (0 : Int) ≤ left1 := by omega
 have hl1b : left1 ≤ 1048576 := by omega
 rw [← hleft1] at HSZl
 have HSZt : Hid (∀ (w : World), SlIn w 0 t.kids (.slice ta t.kids.length tc) → Calls Try.prog 11 #[.agg #[.int .i64 t.kind, .int .i64 t.num, (.slice ta t.kids.length tc)], .int .i64 left1] w (SzPost w (szV t.kids left1))) := fun w h => szT_any t left1 w _ hl1a hl1b ⟨_, rfl, h⟩
 by_cases hszt : (sizes t.kids : Int) ≤ left1
 rotate_left
 ·rw [szV_not (by omega)] at HSZt
  clear hszt hszl hleft1 hl1b
  go_enter Try.func4, Try.ntmps4
  go_wp2_with fail
  refine (HSZl.out _ (HSl.out.below (below1 _ _))).mono ?_
  rintro e w1 ⟨rfl, hb⟩
  have HXt := tuck ((BoxAt.new w t.kind t.num (.slice ta t.kids.length tc) 24).below hb)
  have HB : Hid (Bel w w1) := tuck ⟨bAfter (below1 _ _) hb⟩
  clear hb
  obtain ⟨zt, c0t, c1t, c2t⟩ := HXt.out
  go_wp2_with fail
  refine (HSZt.out _ (HSt.out.below HB.out.be)).mono ?_
  rintro e w2 ⟨rfl, hb⟩
  replace HXt := tuck (HXt.out.below hb)
  replace HB := tuck (HB.out.below hb)
  clear hb
  clear zt c0t c1t c2t
  obtain ⟨zt, c0t, c1t, c2t⟩ := HXt.out
  go_wp2_with fail
  go_ret
  exact ⟨rfl, HB.out.be⟩
 rw [szV_of (by omega)] at HSZt
 obtain ⟨left2, hleft2⟩ : ∃ left : Int, left = left1 - (sizes t.kids : Int) := ⟨_, rfl⟩
 have hl2a : (0 : Int) ≤ left2 := by omega
 have hl2b : left2 ≤ 1048576 := by omega
 rw [← hleft2] at HSZt
 obtain ⟨R0, hR0⟩ : ∃ R : Tm, R = orZero (OverOk 4 l t) (over 4 l t) := ⟨_, rfl⟩
 obtain ⟨R1, hR1⟩ : ∃ R : Bool, R = tr (OverOk 4 l t) := ⟨_, rfl⟩
 have HSP : Hid (∀ (w : World) (vl : Value) (vt : Value), SlIn w 0 l vl → TmIn w 0 t vt → Calls Try.prog 21 #[vl, vt] w (fun e w' => Below w.heap.size w w' ∧ ∃ (a0 : Option Addr) (c0 : Nat), e = .returned (.tuple #[.agg #[.int .i64 R0.kind, .int .i64 R0.num, .slice a0 R0.kids.length c0], .bool R1]) ∧ SlIn w' w.heap.size R0.kids (.slice a0 R0.kids.length c0))) := fun w vl vt hl ht => by subst hR0; subst hR1; exact lamOverS_any l t w vl vt hl ht
 have HIM : Hid (∀ (w : World) (vl : Value) (vt : Value), SlIn w 0 l vl → TmIn w 0 t vt → Calls Try.prog 22 #[vl, vt] w (fun e w' => Below w.heap.size w w' ∧ ∃ (a0 : Option Addr) (c0 : Nat) (F0 : List Nat), e = .returned (.tuple #[.agg #[.int .i64 R0.kind, .int .i64 R0.num, .slice a0 R0.kids.length c0], .bool R1]) ∧ SlOwn w' R0.kids (.slice a0 R0.kids.length c0) F0 ∧ (F0).Nodup ∧ ∀ g ∈ F0, w.heap.size ≤ g ∧ g < w'.heap.size)) := fun w vl vt hl ht => by subst hR0; subst hR1; exact (lamOverI_any l t w vl vt hl ht).mono fun _ _ h => h.law
 have hszR0 : sizes R0.kids ≤ 1000000 := by subst hR0; subst hR1; exact Nat.le_trans (orZero_szs fun h => h.2) (by decide)
 clear hR0 hR1
 have HTOl : Hid (∀ (w : World), SlIn w 0 l (.slice la l.length lc) → Calls Try.prog 13 #[(.slice la l.length lc)] w fun e w' => Below w.heap.size w w' ∧ ∃ a c F, e = .returned (.slice a l.length c) ∧ SlOwn w' l (.slice a l.length c) F ∧ F.Nodup ∧ ∀ g ∈ F, w.heap.size ≤ g ∧ g < w'.heap.size) := fun w h => toSo_made l w _ (by omega) h
 have HEQl : Hid (∀ (w : World) (v1 v2 : Value), SlIn w 0 l v1 → SlIn w 0 l v2 → Calls Try.prog 17 #[v1, v2] w (EqPost w true)) := fun w v1 v2 h1 h2 => by have := eqS_any l l w v1 v2 h1 h2; rwa [same_self] at this
 have HTOt : Hid (∀ (w : World), SlIn w 0 t.kids (.slice ta t.kids.length tc) → Calls Try.prog 14 #[.agg #[.int .i64 t.kind, .int .i64 t.num, (.slice ta t.kids.length tc)]] w fun e w' => Below w.heap.size w w' ∧ ∃ a c F, e = .returned (.agg #[.int .i64 t.kind, .int .i64 t.num, .slice a t.kids.length c]) ∧ SlOwn w' t.kids (.slice a t.kids.length c) F ∧ F.Nodup ∧ ∀ g ∈ F, w.heap.size ≤ g ∧ g < w'.heap.size) := fun w h => toO_made t w _ (by omega) ⟨_, rfl, h⟩
 have HEQt : Hid (∀ (w : World) (v1 v2 : Value), TmIn w 0 t v1 → TmIn w 0 t v2 → Calls Try.prog 16 #[v1, v2] w (EqPost w true)) := fun w v1 v2 h1 h2 => by have := eqT_any t t w v1 v2 h1 h2; rwa [same_self] at this
 have HEQR0 : Hid (∀ (w : World) (v1 v2 : Value), TmIn w 0 R0 v1 → TmIn w 0 R0 v2 → Calls Try.prog 16 #[v1, v2] w (EqPost w true)) := fun w v1 v2 h1 h2 => by have := eqT_any R0 R0 w v1 v2 h1 h2; rwa [same_self] at this
 have hrr1 : (R1 != R1) = false := by simp
 have hkl : (0 : Int) ≤ 1 ∧ (1 : Int) + 2 * (sizes l : Int) ≤ 4611686018427387904 := by omega
 have HKl := tuck hkl
 have hkt : (0 : Int) ≤ (1 : Int) + 2 * (sizes l : Int) ∧ (1 : Int) + 2 * (sizes l : Int) + 2 * (sizes t.kids : Int) ≤ 4611686018427387904 := by omega
 have HKt := tuck hkt
 have hkend : ¬ ((1 : Int) + 2 * (sizes l : Int) + 2 * (sizes t.kids : Int)) < 0 := by omega
 have hm0 : (0 : Int) ≤ 1 ∧ (1 : Int) + 2 * (sizes R0.kids : Int) ≤ 4611686018427387904 := by omega
 have HM0 := tuck hm0
 have hmn0 : ¬ ((1 : Int) + 2 * (sizes R0.kids : Int)) < 0 := by omega
 clear hszR0 hszl hszt hleft1 hleft2 hl1b hl2b hkl hkt hm0
 go_enter Try.func4, Try.ntmps4
 go_wp2_with fail
 refine (HSZl.out _ (HSl.out.below (below1 _ _))).mono ?_
 rintro e w1 ⟨rfl, hb⟩
 have HXt := tuck ((BoxAt.new w t.kind t.num (.slice ta t.kids.length tc) 24).below hb)
 have HB : Hid (Bel w w1) := tuck ⟨bAfter (below1 _ _) hb⟩
 clear hb
 obtain ⟨zt, c0t, c1t, c2t⟩ := HXt.out
 go_wp2_with fail
 refine (HSZt.out _ (HSt.out.below HB.out.be)).mono ?_
 rintro e w2 ⟨rfl, hb⟩
 replace HXt := tuck (HXt.out.below hb)
 replace HB := tuck (HB.out.below hb)
 clear hb
 clear zt c0t c1t c2t
 obtain ⟨zt, c0t, c1t, c2t⟩ := HXt.out
 go_upto_region 8 with fail
 go_cut [6, 7] (fun p0 p1 wx => ∃ (gz : Nat) (a0 : Option Addr) (c0 : Nat), p0 = .pointer (some ⟨gz, 0, none⟩) ∧ p1 = .bool R1 ∧ Below w2.heap.size w2 wx ∧ VarAt gz R0.kind R0.num (.slice a0 R0.kids.length c0) wx ∧ w2.heap.size ≤ gz ∧ SlIn wx 0 R0.kids (.slice a0 R0.kids.length c0))
 case first =>
  have HT12 : ∀ w' : World, (fun w' : World => Below w2.heap.size w2 w' ∧ (w.heap.size < w'.heap.size ∧ w'.cell? ⟨w.heap.size, 0, none⟩ = some (.int .i64 t.kind) ∧ w'.cell? ⟨w.heap.size, 1, none⟩ = some (.int .i64 t.num) ∧ w'.cell? ⟨w.heap.size, 2, none⟩ = some (.slice ta t.kids.length tc))) w' → (fun w' : World => Below w2.heap.size w2 w' ∧ (w.heap.size < w'.heap.size ∧ w'.cell? ⟨w.heap.size, 0, none⟩ = some (.int .i64 t.kind) ∧ w'.cell? ⟨w.heap.size, 1, none⟩ = some (.int .i64 t.num) ∧ w'.cell? ⟨w.heap.size, 2, none⟩ = some (.slice ta t.kids.length tc))) w' := fun w' h => h
  refine AnyTwo.begin (fun w' : World => Below w2.heap.size w2 w' ∧ (w.heap.size < w'.heap.size ∧ w'.cell? ⟨w.heap.size, 0, none⟩ = some (.int .i64 t.kind) ∧ w'.cell? ⟨w.heap.size, 1, none⟩ = some (.int .i64 t.num) ∧ w'.cell? ⟨w.heap.size, 2, none⟩ = some (.slice ta t.kids.length tc))) (fun w' : World => Below w2.heap.size w2 w' ∧ (w.heap.size < w'.heap.size ∧ w'.cell? ⟨w.heap.size, 0, none⟩ = some (.int .i64 t.kind) ∧ w'.cell? ⟨w.heap.size, 1, none⟩ = some (.int .i64 t.num) ∧ w'.cell? ⟨w.heap.size, 2, none⟩ = some (.slice ta t.kids.length tc))) 10 (by kernel_rfl) ?_
  have hS1 : (fun w' : World => Below w2.heap.size w2 w' ∧ (w.heap.size < w'.heap.size ∧ w'.cell? ⟨w.heap.size, 0, none⟩ = some (.int .i64 t.kind) ∧ w'.cell? ⟨w.heap.size, 1, none⟩ = some (.int .i64 t.num) ∧ w'.cell? ⟨w.heap.size, 2, none⟩ = some (.slice ta t.kids.length tc))) w2.drew := ⟨(Below.refl _ _).drew, HXt.out⟩
  have HXL : Hid (w.heap.size < w2.heap.size) := tuck HXt.out.1
  refine AnyTwo.takeAny HT12 (i := 0) (oi := ⟨some 28, _, _, _, _, _⟩) (v := ?v80) rfl (by kernel_rfl) (by kernel_rfl) (by decide +kernel) (by rfl) (fun _ _ _ h => h) (Or.inl ⟨by rfl, ?y80⟩) (ph_one (by kernel_rfl) hS1) ?r80
  case y80 => (intro w hSw; (try dsimp only at hSw); go_simp; try (with_reducible rfl))
  try simp only [Act.put, List.setIfInBounds_toArray, List.set_cons_zero, List.set_cons_succ]
  refine AnyTwo.takeAny HT12 (i := 2) (oi := ⟨some 30, _, _, _, _, _⟩) (v := ?v82) rfl (by kernel_rfl) (by kernel_rfl) (by decide +kernel) (by rfl) (fun _ _ _ h => h) (Or.inl ⟨by rfl, ?y82⟩) (ph_one (by kernel_rfl) hS1) ?r82
  case y82 => (intro w hSw; (try dsimp only at hSw); go_simp; try (with_reducible rfl))
  try simp only [Act.put, List.setIfInBounds_toArray, List.set_cons_zero, List.set_cons_succ]
  refine AnyTwo.fork (i := 1) (o := ⟨some 29, _, _, _, _, _⟩) (j := 8) (o' := ⟨some 6, _, _, _, _, _⟩) (by kernel_rfl) rfl rfl (fun K hK => ?_) (fun K hK => ?_)
  ·skip
   go_simp
   refine (HTOl.out _ (HSl.out.below (bAfter HB.out.be (hold_be hS1)))).mono ?_
   rintro e wql ⟨hbq, qal, qcl, FQ, rfl, hsx, -, -⟩
   have HQl := tuck (hsx.sl (B := 0) (fun _ _ => Nat.zero_le _))
   clear hsx
   have hS1' : (fun w' : World => Below w2.heap.size w2 w' ∧ (w.heap.size < w'.heap.size ∧ w'.cell? ⟨w.heap.size, 0, none⟩ = some (.int .i64 t.kind) ∧ w'.cell? ⟨w.heap.size, 1, none⟩ = some (.int .i64 t.num) ∧ w'.cell? ⟨w.heap.size, 2, none⟩ = some (.slice ta t.kids.length tc))) _ := hold1T hS1 hbq
   refine hK.out _ _ (ph_one (by kernel_rfl) hS1') ?_
   clear hK K hS1
   have hS1 := hS1'
   clear hS1'
   try simp only [Act.put, List.setIfInBounds_toArray, List.set_cons_zero, List.set_cons_succ]
   clear hbq
   refine AnyTwo.fork (i := 3) (o := ⟨some 31, _, _, _, _, _⟩) (j := 8) (o' := ⟨some 6, _, _, _, _, _⟩) (by kernel_rfl) rfl rfl (fun K hK => ?_) (fun K hK => ?_)
   ·skip
    go_simp
    refine (HTOt.out _ (HSt.out.below (bAfter HB.out.be (hold_be hS1)))).mono ?_
    rintro e wqt ⟨hbq, qat, qct, FQ, rfl, hsx, -, -⟩
    have HQt := tuck (hsx.sl (B := 0) (fun _ _ => Nat.zero_le _))
    clear hsx
    replace HQl := tuck (HQl.out.below hbq)
    have hS1' : (fun w' : World => Below w2.heap.size w2 w' ∧ (w.heap.size < w'.heap.size ∧ w'.cell? ⟨w.heap.size, 0, none⟩ = some (.int .i64 t.kind) ∧ w'.cell? ⟨w.heap.size, 1, none⟩ = some (.int .i64 t.num) ∧ w'.cell? ⟨w.heap.size, 2, none⟩ = some (.slice ta t.kids.length tc))) _ := hold1T hS1 hbq
    refine hK.out _ _ (ph_one (by kernel_rfl) hS1') ?_
    clear hK K hS1
    have hS1 := hS1'
    clear hS1'
    try simp only [Act.put, List.setIfInBounds_toArray, List.set_cons_zero, List.set_cons_succ]
    clear hbq
    refine AnyTwo.fork (i := 4) (o := ⟨some 32, _, _, _, _, _⟩) (j := 8) (o' := ⟨some 6, _, _, _, _, _⟩) (by kernel_rfl) rfl rfl (fun K hK => ?_) (fun K hK => ?_)
    ·skip
     go_simp
     refine (HSP.out _ _ _ HQl.out ⟨_, rfl, HQt.out⟩).mono ?_
     rintro e wr ⟨hbq, a0, c0, rfl, hw0⟩
     have HW0 := tuck hw0
     clear hw0
     have HH9 := tuck (hold1T hS1 hbq)
     have hS1' : (fun w' : World => Below w2.heap.size w2 w' ∧ (w.heap.size < w'.heap.size ∧ w'.cell? ⟨w.heap.size, 0, none⟩ = some (.int .i64 t.kind) ∧ w'.cell? ⟨w.heap.size, 1, none⟩ = some (.int .i64 t.num) ∧ w'.cell? ⟨w.heap.size, 2, none⟩ = some (.slice ta t.kids.length tc))) _ := HH9.out
     refine hK.out _ _ (ph_one (by kernel_rfl) hS1') ?_
     clear hK K hS1
     have hS1 := hS1'
     clear hS1'
     try simp only [Act.put, List.setIfInBounds_toArray, List.set_cons_zero, List.set_cons_succ]
     refine AnyTwo.takeAny HT12 (i := 5) (oi := ⟨some 27, _, _, _, _, _⟩) (v := ?v8ccc5) rfl (by kernel_rfl) (by kernel_rfl) (by decide +kernel) (by rfl) (fun _ _ _ h => h) (Or.inl ⟨by rfl, ?y8ccc5⟩) (ph_one (by kernel_rfl) hS1) ?r8ccc5
     case y8ccc5 => (intro w hSw; (try dsimp only at hSw); go_simp; try (with_reducible rfl))
     try simp only [Act.put, List.setIfInBounds_toArray, List.set_cons_zero, List.set_cons_succ]
     refine AnyTwo.takeAny HT12 (i := 6) (oi := ⟨some 33, _, _, _, _, _⟩) (v := ?v8ccc6) rfl (by kernel_rfl) (by kernel_rfl) (by decide +kernel) (by rfl) (fun _ _ _ h => h) (Or.inl ⟨by rfl, ?y8ccc6⟩) (ph_one (by kernel_rfl) hS1) ?r8ccc6
     case y8ccc6 => (intro w hSw; (try dsimp only at hSw); go_simp; try (with_reducible rfl))
     try simp only [Act.put, List.setIfInBounds_toArray, List.set_cons_zero, List.set_cons_succ]
     refine AnyTwo.takeAny HT12 (i := 7) (oi := ⟨some 34, _, _, _, _, _⟩) (v := ?v8ccc7) rfl (by kernel_rfl) (by kernel_rfl) (by decide +kernel) (by rfl) (fun _ _ _ h => h) (Or.inl ⟨by rfl, ?y8ccc7⟩) (ph_one (by kernel_rfl) hS1) ?r8ccc7
     case y8ccc7 => (intro w hSw; (try dsimp only at hSw); go_simp; try (with_reducible rfl))
     try simp only [Act.put, List.setIfInBounds_toArray, List.set_cons_zero, List.set_cons_succ]
     refine AnyTwo.step (i := 8) (o := ⟨some 6, _, _, _, _, _⟩) (by kernel_rfl) rfl (fun K hK => ?_)
     go_simp
     have hz0 : w2.heap.size ≤ wr.heap.size := (hold_be hS1).size
     have HZ0 := tuck hz0
     clear hz0
     have hS1' : (fun w' : World => Below w2.heap.size w2 w' ∧ (w.heap.size < w'.heap.size ∧ w'.cell? ⟨w.heap.size, 0, none⟩ = some (.int .i64 t.kind) ∧ w'.cell? ⟨w.heap.size, 1, none⟩ = some (.int .i64 t.num) ∧ w'.cell? ⟨w.heap.size, 2, none⟩ = some (.slice ta t.kids.length tc))) _ := hold1T HH9.out (below1 wr (.cells #[.int .i64 0, .int .i64 0, .slice none 0 0] 29))
     refine hK.out _ _ (ph_one (by kernel_rfl) hS1') ?_
     clear hK K hS1
     have hS1 := hS1'
     clear hS1'
     try simp only [Act.put, List.setIfInBounds_toArray, List.set_cons_zero, List.set_cons_succ]
     refine AnyTwo.step (i := 9) (o := ⟨none, _, _, _, _, _⟩) (by kernel_rfl) rfl (fun K hK => ?_)
     go_simp
     have hS1' : (fun w' : World => Below w2.heap.size w2 w' ∧ (w.heap.size < w'.heap.size ∧ w'.cell? ⟨w.heap.size, 0, none⟩ = some (.int .i64 t.kind) ∧ w'.cell? ⟨w.heap.size, 1, none⟩ = some (.int .i64 t.num) ∧ w'.cell? ⟨w.heap.size, 2, none⟩ = some (.slice ta t.kids.length tc))) _ := hold1T HH9.out (below1 wr (.cells #[.int .i64 R0.kind, .int .i64 R0.num, .slice a0 R0.kids.length c0] 29))
     refine hK.out _ _ (ph_one (by kernel_rfl) hS1') ?_
     clear hK K hS1
     have hS1 := hS1'
     clear hS1'
     try simp only [Act.put, List.setIfInBounds_toArray, List.set_cons_zero, List.set_cons_succ]
     refine AnyTwo.step (i := 10) (o := ⟨some 7, _, _, _, _, _⟩) (by kernel_rfl) rfl (fun K hK => ?_)
     go_simp
     refine hK.out _ _ (ph_end (by kernel_rfl) hS1) ?_
     clear hK K
     try simp only [Act.put, List.setIfInBounds_toArray, List.set_cons_zero, List.set_cons_succ]
     refine AnyTwo.done (by kernel_rfl) ?_ _
     go_wp2_with fail
     go_meet
     exact ⟨wr.heap.size, a0, c0, rfl, rfl, hold_be hS1, VarAt.new wr R0.kind R0.num (.slice a0 R0.kids.length c0), HZ0.out, (HW0.out.mono (Nat.zero_le _)).below (below1 wr _)⟩
    ·skip
     go_simp
     have HZ := tuck (VarAt.new wqt 0 0 (.slice none 0 0))
     have hz0 : w2.heap.size ≤ wqt.heap.size := (hold_be hS1).size
     have HZ0 := tuck hz0
     clear hz0
     replace HQl := tuck (HQl.out.below (below1 wqt (.cells #[.int .i64 0, .int .i64 0, .slice none 0 0] 29)))
     replace HQt := tuck (HQt.out.below (below1 wqt (.cells #[.int .i64 0, .int .i64 0, .slice none 0 0] 29)))
     have hS1' : (fun w' : World => Below w2.heap.size w2 w' ∧ (w.heap.size < w'.heap.size ∧ w'.cell? ⟨w.heap.size, 0, none⟩ = some (.int .i64 t.kind) ∧ w'.cell? ⟨w.heap.size, 1, none⟩ = some (.int .i64 t.num) ∧ w'.cell? ⟨w.heap.size, 2, none⟩ = some (.slice ta t.kids.length tc))) _ := hold1T hS1 (below1 wqt (.cells #[.int .i64 0, .int .i64 0, .slice none 0 0] 29))
     refine hK.out _ _ (ph_one (by kernel_rfl) hS1') ?_
     clear hK K hS1
     have hS1 := hS1'
     clear hS1'
     try simp only [Act.put, List.setIfInBounds_toArray, List.set_cons_zero, List.set_cons_succ]
     refine AnyTwo.step (i := 4) (o := ⟨some 32, _, _, _, _, _⟩) (by kernel_rfl) rfl (fun K hK => ?_)
     go_simp
     have HGL := tuck HZ.out.facts.1
     refine (HSP.out _ _ _ HQl.out ⟨_, rfl, HQt.out⟩).mono ?_
     rintro e wr ⟨hbq, a0, c0, rfl, hw0⟩
     have HW0 := tuck hw0
     clear hw0
     have HH9 := tuck (hold1T hS1 hbq)
     replace HZ := tuck (HZ.out.below hbq)
     obtain ⟨zz, y0, y1, y2, yf⟩ := HZ.out.facts
     have hS1' : (fun w' : World => Below w2.heap.size w2 w' ∧ (w.heap.size < w'.heap.size ∧ w'.cell? ⟨w.heap.size, 0, none⟩ = some (.int .i64 t.kind) ∧ w'.cell? ⟨w.heap.size, 1, none⟩ = some (.int .i64 t.num) ∧ w'.cell? ⟨w.heap.size, 2, none⟩ = some (.slice ta t.kids.length tc))) _ := HH9.out
     refine hK.out _ _ (ph_one (by kernel_rfl) hS1') ?_
     clear hK K hS1
     have hS1 := hS1'
     clear hS1'
     try simp only [Act.put, List.setIfInBounds_toArray, List.set_cons_zero, List.set_cons_succ]
     refine AnyTwo.takeAny HT12 (i := 5) (oi := ⟨some 27, _, _, _, _, _⟩) (v := ?v8ccac5) rfl (by kernel_rfl) (by kernel_rfl) (by decide +kernel) (by rfl) (fun _ _ _ h => h) (Or.inl ⟨by rfl, ?y8ccac5⟩) (ph_one (by kernel_rfl) hS1) ?r8ccac5
     case y8ccac5 => (intro w hSw; (try dsimp only at hSw); go_simp; try (with_reducible rfl))
     try simp only [Act.put, List.setIfInBounds_toArray, List.set_cons_zero, List.set_cons_succ]
     refine AnyTwo.takeAny HT12 (i := 6) (oi := ⟨some 33, _, _, _, _, _⟩) (v := ?v8ccac6) rfl (by kernel_rfl) (by kernel_rfl) (by decide +kernel) (by rfl) (fun _ _ _ h => h) (Or.inl ⟨by rfl, ?y8ccac6⟩) (ph_one (by kernel_rfl) hS1) ?r8ccac6
     case y8ccac6 => (intro w hSw; (try dsimp only at hSw); go_simp; try (with_reducible rfl))
     try simp only [Act.put, List.setIfInBounds_toArray, List.set_cons_zero, List.set_cons_succ]
     refine AnyTwo.takeAny HT12 (i := 7) (oi := ⟨some 34, _, _, _, _, _⟩) (v := ?v8ccac7) rfl (by kernel_rfl) (by kernel_rfl) (by decide +kernel) (by rfl) (fun _ _ _ h => h) (Or.inl ⟨by rfl, ?y8ccac7⟩) (ph_one (by kernel_rfl) hS1) ?r8ccac7
     case y8ccac7 => (intro w hSw; (try dsimp only at hSw); go_simp; try (with_reducible rfl))
     try simp only [Act.put, List.setIfInBounds_toArray, List.set_cons_zero, List.set_cons_succ]
     refine AnyTwo.step (i := 9) (o := ⟨none, _, _, _, _, _⟩) (by kernel_rfl) rfl (fun K hK => ?_)
     go_simp
     have hS1' : (fun w' : World => Below w2.heap.size w2 w' ∧ (w.heap.size < w'.heap.size ∧ w'.cell? ⟨w.heap.size, 0, none⟩ = some (.int .i64 t.kind) ∧ w'.cell? ⟨w.heap.size, 1, none⟩ = some (.int .i64 t.num) ∧ w'.cell? ⟨w.heap.size, 2, none⟩ = some (.slice ta t.kids.length tc))) _ := hold1T_set3 HH9.out (gz := wqt.heap.size) (x := .int .i64 R0.kind) (y := .int .i64 R0.num) (z := .slice a0 R0.kids.length c0) HZ0.out HXL.out
     refine hK.out _ _ (ph_one (by kernel_rfl) hS1') ?_
     clear hK K hS1
     have hS1 := hS1'
     clear hS1'
     try simp only [Act.put, List.setIfInBounds_toArray, List.set_cons_zero, List.set_cons_succ]
     refine AnyTwo.step (i := 10) (o := ⟨some 7, _, _, _, _, _⟩) (by kernel_rfl) rfl (fun K hK => ?_)
     go_simp
     refine hK.out _ _ (ph_end (by kernel_rfl) hS1) ?_
     clear hK K
     try simp only [Act.put, List.setIfInBounds_toArray, List.set_cons_zero, List.set_cons_succ]
     refine AnyTwo.done (by kernel_rfl) ?_ _
     go_wp2_with fail
     go_meet
     exact ⟨wqt.heap.size, a0, c0, rfl, rfl, hold_be hS1, HZ.out.set3, HZ0.out, (tl_sl3 HW0.out HGL.out).mono (Nat.zero_le _)⟩
   ·skip
    go_simp
    have HZ := tuck (VarAt.new wql 0 0 (.slice none 0 0))
    have hz0 : w2.heap.size ≤ wql.heap.size := (hold_be hS1).size
    have HZ0 := tuck hz0
    clear hz0
    replace HQl := tuck (HQl.out.below (below1 wql (.cells #[.int .i64 0, .int .i64 0, .slice none 0 0] 29)))
    have hS1' : (fun w' : World => Below w2.heap.size w2 w' ∧ (w.heap.size < w'.heap.size ∧ w'.cell? ⟨w.heap.size, 0, none⟩ = some (.int .i64 t.kind) ∧ w'.cell? ⟨w.heap.size, 1, none⟩ = some (.int .i64 t.num) ∧ w'.cell? ⟨w.heap.size, 2, none⟩ = some (.slice ta t.kids.length tc))) _ := hold1T hS1 (below1 wql (.cells #[.int .i64 0, .int .i64 0, .slice none 0 0] 29))
    refine hK.out _ _ (ph_one (by kernel_rfl) hS1') ?_
    clear hK K hS1
    have hS1 := hS1'
    clear hS1'
    try simp only [Act.put, List.setIfInBounds_toArray, List.set_cons_zero, List.set_cons_succ]
    refine AnyTwo.step (i := 3) (o := ⟨some 31, _, _, _, _, _⟩) (by kernel_rfl) rfl (fun K hK => ?_)
    go_simp
    refine (HTOt.out _ (HSt.out.below (bAfter HB.out.be (hold_be hS1)))).mono ?_
    rintro e wqt ⟨hbq, qat, qct, FQ, rfl, hsx, -, -⟩
    have HQt := tuck (hsx.sl (B := 0) (fun _ _ => Nat.zero_le _))
    clear hsx
    replace HQl := tuck (HQl.out.below hbq)
    replace HZ := tuck (HZ.out.below hbq)
    have hS1' : (fun w' : World => Below w2.heap.size w2 w' ∧ (w.heap.size < w'.heap.size ∧ w'.cell? ⟨w.heap.size, 0, none⟩ = some (.int .i64 t.kind) ∧ w'.cell? ⟨w.heap.size, 1, none⟩ = some (.int .i64 t.num) ∧ w'.cell? ⟨w.heap.size, 2, none⟩ = some (.slice ta t.kids.length tc))) _ := hold1T hS1 hbq
    refine hK.out _ _ (ph_one (by kernel_rfl) hS1') ?_
    clear hK K hS1
    have hS1 := hS1'
    clear hS1'
    try simp only [Act.put, List.setIfInBounds_toArray, List.set_cons_zero, List.set_cons_succ]
    clear hbq
    refine AnyTwo.step (i := 4) (o := ⟨some 32, _, _, _, _, _⟩) (by kernel_rfl) rfl (fun K hK => ?_)
    go_simp
    have HGL := tuck HZ.out.facts.1
    refine (HSP.out _ _ _ HQl.out ⟨_, rfl, HQt.out⟩).mono ?_
    rintro e wr ⟨hbq, a0, c0, rfl, hw0⟩
    have HW0 := tuck hw0
    clear hw0
    have HH9 := tuck (hold1T hS1 hbq)
    replace HZ := tuck (HZ.out.below hbq)
    obtain ⟨zz, y0, y1, y2, yf⟩ := HZ.out.facts
    have hS1' : (fun w' : World => Below w2.heap.size w2 w' ∧ (w.heap.size < w'.heap.size ∧ w'.cell? ⟨w.heap.size, 0, none⟩ = some (.int .i64 t.kind) ∧ w'.cell? ⟨w.heap.size, 1, none⟩ = some (.int .i64 t.num) ∧ w'.cell? ⟨w.heap.size, 2, none⟩ = some (.slice ta t.kids.length tc))) _ := HH9.out
    refine hK.out _ _ (ph_one (by kernel_rfl) hS1') ?_
    clear hK K hS1
    have hS1 := hS1'
    clear hS1'
    try simp only [Act.put, List.setIfInBounds_toArray, List.set_cons_zero, List.set_cons_succ]
    refine AnyTwo.takeAny HT12 (i := 5) (oi := ⟨some 27, _, _, _, _, _⟩) (v := ?v8cacc5) rfl (by kernel_rfl) (by kernel_rfl) (by decide +kernel) (by rfl) (fun _ _ _ h => h) (Or.inl ⟨by rfl, ?y8cacc5⟩) (ph_one (by kernel_rfl) hS1) ?r8cacc5
    case y8cacc5 => (intro w hSw; (try dsimp only at hSw); go_simp; try (with_reducible rfl))
    try simp only [Act.put, List.setIfInBounds_toArray, List.set_cons_zero, List.set_cons_succ]
    refine AnyTwo.takeAny HT12 (i := 6) (oi := ⟨some 33, _, _, _, _, _⟩) (v := ?v8cacc6) rfl (by kernel_rfl) (by kernel_rfl) (by decide +kernel) (by rfl) (fun _ _ _ h => h) (Or.inl ⟨by rfl, ?y8cacc6⟩) (ph_one (by kernel_rfl) hS1) ?r8cacc6
    case y8cacc6 => (intro w hSw; (try dsimp only at hSw); go_simp; try (with_reducible rfl))
    try simp only [Act.put, List.setIfInBounds_toArray, List.set_cons_zero, List.set_cons_succ]
    refine AnyTwo.takeAny HT12 (i := 7) (oi := ⟨some 34, _, _, _, _, _⟩) (v := ?v8cacc7) rfl (by kernel_rfl) (by kernel_rfl) (by decide +kernel) (by rfl) (fun _ _ _ h => h) (Or.inl ⟨by rfl, ?y8cacc7⟩) (ph_one (by kernel_rfl) hS1) ?r8cacc7
    case y8cacc7 => (intro w hSw; (try dsimp only at hSw); go_simp; try (with_reducible rfl))
    try simp only [Act.put, List.setIfInBounds_toArray, List.set_cons_zero, List.set_cons_succ]
    refine AnyTwo.step (i := 9) (o := ⟨none, _, _, _, _, _⟩) (by kernel_rfl) rfl (fun K hK => ?_)
    go_simp
    have hS1' : (fun w' : World => Below w2.heap.size w2 w' ∧ (w.heap.size < w'.heap.size ∧ w'.cell? ⟨w.heap.size, 0, none⟩ = some (.int .i64 t.kind) ∧ w'.cell? ⟨w.heap.size, 1, none⟩ = some (.int .i64 t.num) ∧ w'.cell? ⟨w.heap.size, 2, none⟩ = some (.slice ta t.kids.length tc))) _ := hold1T_set3 HH9.out (gz := wql.heap.size) (x := .int .i64 R0.kind) (y := .int .i64 R0.num) (z := .slice a0 R0.kids.length c0) HZ0.out HXL.out
    refine hK.out _ _ (ph_one (by kernel_rfl) hS1') ?_
    clear hK K hS1
    have hS1 := hS1'
    clear hS1'
    try simp only [Act.put, List.setIfInBounds_toArray, List.set_cons_zero, List.set_cons_succ]
    refine AnyTwo.step (i := 10) (o := ⟨some 7, _, _, _, _, _⟩) (by kernel_rfl) rfl (fun K hK => ?_)
    go_simp
    refine hK.out _ _ (ph_end (by kernel_rfl) hS1) ?_
    clear hK K
    try simp only [Act.put, List.setIfInBounds_toArray, List.set_cons_zero, List.set_cons_succ]
    refine AnyTwo.done (by kernel_rfl) ?_ _
    go_wp2_with fail
    go_meet
    exact ⟨wql.heap.size, a0, c0, rfl, rfl, hold_be hS1, HZ.out.set3, HZ0.out, (tl_sl3 HW0.out HGL.out).mono (Nat.zero_le _)⟩
  ·skip
   go_simp
   have HZ := tuck (show VarAt w2.heap.size 0 0 (.slice none 0 0) (w2.alloc (.cells #[.int .i64 0, .int .i64 0, .slice none 0 0] 29)).drew from VarAt.new w2 0 0 (.slice none 0 0))
   have HZ0 : Hid (w2.heap.size ≤ w2.heap.size) := tuck (Nat.le_refl _)
   have hS1' : (fun w' : World => Below w2.heap.size w2 w' ∧ (w.heap.size < w'.heap.size ∧ w'.cell? ⟨w.heap.size, 0, none⟩ = some (.int .i64 t.kind) ∧ w'.cell? ⟨w.heap.size, 1, none⟩ = some (.int .i64 t.num) ∧ w'.cell? ⟨w.heap.size, 2, none⟩ = some (.slice ta t.kids.length tc))) _ := ⟨(below1 w2 (.cells #[.int .i64 0, .int .i64 0, .slice none 0 0] 29)).drew, HXt.out.below (below1 w2 (.cells #[.int .i64 0, .int .i64 0, .slice none 0 0] 29)).drew⟩
   refine hK.out _ _ (ph_one (by kernel_rfl) hS1') ?_
   clear hK K hS1
   have hS1 := hS1'
   clear hS1'
   try simp only [Act.put, List.setIfInBounds_toArray, List.set_cons_zero, List.set_cons_succ]
   refine AnyTwo.step (i := 1) (o := ⟨some 29, _, _, _, _, _⟩) (by kernel_rfl) rfl (fun K hK => ?_)
   go_simp
   refine (HTOl.out _ (HSl.out.below (bAfter HB.out.be (hold_be hS1)))).mono ?_
   rintro e wql ⟨hbq, qal, qcl, FQ, rfl, hsx, -, -⟩
   have HQl := tuck (hsx.sl (B := 0) (fun _ _ => Nat.zero_le _))
   clear hsx
   replace HZ := tuck (HZ.out.below hbq)
   have hS1' : (fun w' : World => Below w2.heap.size w2 w' ∧ (w.heap.size < w'.heap.size ∧ w'.cell? ⟨w.heap.size, 0, none⟩ = some (.int .i64 t.kind) ∧ w'.cell? ⟨w.heap.size, 1, none⟩ = some (.int .i64 t.num) ∧ w'.cell? ⟨w.heap.size, 2, none⟩ = some (.slice ta t.kids.length tc))) _ := hold1T hS1 hbq
   refine hK.out _ _ (ph_one (by kernel_rfl) hS1') ?_
   clear hK K hS1
   have hS1 := hS1'
   clear hS1'
   try simp only [Act.put, List.setIfInBounds_toArray, List.set_cons_zero, List.set_cons_succ]
   clear hbq
   refine AnyTwo.step (i := 3) (o := ⟨some 31, _, _, _, _, _⟩) (by kernel_rfl) rfl (fun K hK => ?_)
   go_simp
   refine (HTOt.out _ (HSt.out.below (bAfter HB.out.be (hold_be hS1)))).mono ?_
   rintro e wqt ⟨hbq, qat, qct, FQ, rfl, hsx, -, -⟩
   have HQt := tuck (hsx.sl (B := 0) (fun _ _ => Nat.zero_le _))
   clear hsx
   replace HQl := tuck (HQl.out.below hbq)
   replace HZ := tuck (HZ.out.below hbq)
   have hS1' : (fun w' : World => Below w2.heap.size w2 w' ∧ (w.heap.size < w'.heap.size ∧ w'.cell? ⟨w.heap.size, 0, none⟩ = some (.int .i64 t.kind) ∧ w'.cell? ⟨w.heap.size, 1, none⟩ = some (.int .i64 t.num) ∧ w'.cell? ⟨w.heap.size, 2, none⟩ = some (.slice ta t.kids.length tc))) _ := hold1T hS1 hbq
   refine hK.out _ _ (ph_one (by kernel_rfl) hS1') ?_
   clear hK K hS1
   have hS1 := hS1'
   clear hS1'
   try simp only [Act.put, List.setIfInBounds_toArray, List.set_cons_zero, List.set_cons_succ]
   clear hbq
   refine AnyTwo.step (i := 4) (o := ⟨some 32, _, _, _, _, _⟩) (by kernel_rfl) rfl (fun K hK => ?_)
   go_simp
   have HGL := tuck HZ.out.facts.1
   refine (HSP.out _ _ _ HQl.out ⟨_, rfl, HQt.out⟩).mono ?_
   rintro e wr ⟨hbq, a0, c0, rfl, hw0⟩
   have HW0 := tuck hw0
   clear hw0
   have HH9 := tuck (hold1T hS1 hbq)
   replace HZ := tuck (HZ.out.below hbq)
   obtain ⟨zz, y0, y1, y2, yf⟩ := HZ.out.facts
   have hS1' : (fun w' : World => Below w2.heap.size w2 w' ∧ (w.heap.size < w'.heap.size ∧ w'.cell? ⟨w.heap.size, 0, none⟩ = some (.int .i64 t.kind) ∧ w'.cell? ⟨w.heap.size, 1, none⟩ = some (.int .i64 t.num) ∧ w'.cell? ⟨w.heap.size, 2, none⟩ = some (.slice ta t.kids.length tc))) _ := HH9.out
   refine hK.out _ _ (ph_one (by kernel_rfl) hS1') ?_
   clear hK K hS1
   have hS1 := hS1'
   clear hS1'
   try simp only [Act.put, List.setIfInBounds_toArray, List.set_cons_zero, List.set_cons_succ]
   refine AnyTwo.takeAny HT12 (i := 5) (oi := ⟨some 27, _, _, _, _, _⟩) (v := ?v8accc5) rfl (by kernel_rfl) (by kernel_rfl) (by decide +kernel) (by rfl) (fun _ _ _ h => h) (Or.inl ⟨by rfl, ?y8accc5⟩) (ph_one (by kernel_rfl) hS1) ?r8accc5
   case y8accc5 => (intro w hSw; (try dsimp only at hSw); go_simp; try (with_reducible rfl))
   try simp only [Act.put, List.setIfInBounds_toArray, List.set_cons_zero, List.set_cons_succ]
   refine AnyTwo.takeAny HT12 (i := 6) (oi := ⟨some 33, _, _, _, _, _⟩) (v := ?v8accc6) rfl (by kernel_rfl) (by kernel_rfl) (by decide +kernel) (by rfl) (fun _ _ _ h => h) (Or.inl ⟨by rfl, ?y8accc6⟩) (ph_one (by kernel_rfl) hS1) ?r8accc6
   case y8accc6 => (intro w hSw; (try dsimp only at hSw); go_simp; try (with_reducible rfl))
   try simp only [Act.put, List.setIfInBounds_toArray, List.set_cons_zero, List.set_cons_succ]
   refine AnyTwo.takeAny HT12 (i := 7) (oi := ⟨some 34, _, _, _, _, _⟩) (v := ?v8accc7) rfl (by kernel_rfl) (by kernel_rfl) (by decide +kernel) (by rfl) (fun _ _ _ h => h) (Or.inl ⟨by rfl, ?y8accc7⟩) (ph_one (by kernel_rfl) hS1) ?r8accc7
   case y8accc7 => (intro w hSw; (try dsimp only at hSw); go_simp; try (with_reducible rfl))
   try simp only [Act.put, List.setIfInBounds_toArray, List.set_cons_zero, List.set_cons_succ]
   refine AnyTwo.step (i := 9) (o := ⟨none, _, _, _, _, _⟩) (by kernel_rfl) rfl (fun K hK => ?_)
   go_simp
   have hS1' : (fun w' : World => Below w2.heap.size w2 w' ∧ (w.heap.size < w'.heap.size ∧ w'.cell? ⟨w.heap.size, 0, none⟩ = some (.int .i64 t.kind) ∧ w'.cell? ⟨w.heap.size, 1, none⟩ = some (.int .i64 t.num) ∧ w'.cell? ⟨w.heap.size, 2, none⟩ = some (.slice ta t.kids.length tc))) _ := hold1T_set3 HH9.out (gz := w2.heap.size) (x := .int .i64 R0.kind) (y := .int .i64 R0.num) (z := .slice a0 R0.kids.length c0) HZ0.out HXL.out
   refine hK.out _ _ (ph_one (by kernel_rfl) hS1') ?_
   clear hK K hS1
   have hS1 := hS1'
   clear hS1'
   try simp only [Act.put, List.setIfInBounds_toArray, List.set_cons_zero, List.set_cons_succ]
   refine AnyTwo.step (i := 10) (o := ⟨some 7, _, _, _, _, _⟩) (by kernel_rfl) rfl (fun K hK => ?_)
   go_simp
   refine hK.out _ _ (ph_end (by kernel_rfl) hS1) ?_
   clear hK K
   try simp only [Act.put, List.setIfInBounds_toArray, List.set_cons_zero, List.set_cons_succ]
   refine AnyTwo.done (by kernel_rfl) ?_ _
   go_wp2_with fail
   go_meet
   exact ⟨w2.heap.size, a0, c0, rfl, rfl, hold_be hS1, HZ.out.set3, HZ0.out, (tl_sl3 HW0.out HGL.out).mono (Nat.zero_le _)⟩
 case rest =>
  obtain ⟨g8, u8a0, u8c0, rfl, rfl, hb, hv8, hz8, hs0⟩ := hcut
  rename World => W8
  have H8W0 := tuck hs0
  have V8 := tuck hv8
  replace HXt := tuck (HXt.out.below hb)
  replace HB := tuck (HB.out.below hb)
  clear hb hv8 hz8 hs0
  have HZ8 : Hid (g8 < W8.heap.size) := tuck V8.out.facts.1
  clear zt c0t c1t c2t
  obtain ⟨zt, c0t, c1t, c2t⟩ := HXt.out
  obtain ⟨z8, b0, b1, b2, bf⟩ := V8.out.facts
  go_wp2_with fail
  clear z8 b0 b1 b2 bf
  clear zt c0t c1t c2t
  have HBW : Hid (Bel W8 W8) := tuck ⟨Below.refl _ _⟩
  have HL1t : Hid (w.heap.size < W8.heap.size) := tuck HXt.out.1
  have HL0 : Hid (w.heap.size ≤ W8.heap.size) := tuck HB.out.be.size
  have HL8 : Hid (g8 < W8.heap.size) := tuck V8.out.facts.1
  refine (HTOl.out _ (HSl.out.below HB.out.be)).mono ?_
  rintro e wxl ⟨hb, uxla, uxlc, Fl, rfl, hsx, hnx, hFx⟩
  have HOl := tuck (OwnB.of hsx hnx hFx)
  have HNl := tuck hb.size
  replace HXt := tuck (HXt.out.below hb)
  replace HB := tuck (HB.out.below hb)
  replace V8 := tuck (V8.out.below hb)
  replace HBW := tuck (HBW.out.below hb)
  clear hb hsx hnx hFx
  obtain ⟨zt, c0t, c1t, c2t⟩ := HXt.out
  obtain ⟨z8, b0, b1, b2, bf⟩ := V8.out.facts
  go_wp2_with fail
  clear z8 b0 b1 b2 bf
  clear zt c0t c1t c2t
  refine (HTOt.out _ (HSt.out.below HB.out.be)).mono ?_
  rintro e wxt ⟨hb, uxta, uxtc, Ft, rfl, hsx, hnx, hFx⟩
  have HOt := tuck (OwnB.of hsx hnx hFx)
  have HNt := tuck hb.size
  replace HXt := tuck (HXt.out.below hb)
  replace HB := tuck (HB.out.below hb)
  replace V8 := tuck (V8.out.below hb)
  replace HBW := tuck (HBW.out.below hb)
  replace HOl := tuck (HOl.out.below hb)
  clear hb hsx hnx hFx
  obtain ⟨zt, c0t, c1t, c2t⟩ := HXt.out
  obtain ⟨z8, b0, b1, b2, bf⟩ := V8.out.facts
  go_wp2_with fail
  clear z8 b0 b1 b2 bf
  clear zt c0t c1t c2t
  have hbx := below1 wxt (.cells #[.int .i64 t.kind, .int .i64 t.num, .slice uxta t.kids.length uxtc] 29)
  have VXt := tuck (VarAt.new wxt t.kind t.num (.slice uxta t.kids.length uxtc))
  have hzz : wxt.heap.size < (wxt.alloc (.cells #[.int .i64 t.kind, .int .i64 t.num, .slice uxta t.kids.length uxtc] 29)).heap.size := by simp
  replace HXt := tuck (HXt.out.below hbx)
  replace HB := tuck (HB.out.below hbx)
  replace V8 := tuck (V8.out.below hbx)
  replace HBW := tuck (HBW.out.below hbx)
  replace HOl := tuck (HOl.out.below hbx)
  replace HOt := tuck (HOt.out.below hbx)
  clear hbx
  generalize wxt.alloc (.cells #[.int .i64 t.kind, .int .i64 t.num, .slice uxta t.kids.length uxtc] 29) = WXt at *
  generalize wxt.heap.size = gxt at *
  have HZXt := tuck hzz
  clear hzz
  refine (HIM.out _ _ _ HOl.out.sl ⟨_, rfl, HOt.out.sl⟩).mono ?_
  rintro e wG ⟨hb, Ga0, Gc0, FG0, rfl, hw0, hnd, hF⟩
  have HOG0 := tuck (OwnB.of hw0 hnd hF)
  have HNG := tuck hb.size
  replace HXt := tuck (HXt.out.below hb)
  replace HB := tuck (HB.out.below hb)
  replace V8 := tuck (V8.out.below hb)
  replace HBW := tuck (HBW.out.below hb)
  replace HOl := tuck (HOl.out.below hb)
  replace HOt := tuck (HOt.out.below hb)
  replace VXt := tuck (VXt.out.below hb)
  clear hb hnd hF hw0
  obtain ⟨zt, c0t, c1t, c2t⟩ := HXt.out
  obtain ⟨z8, b0, b1, b2, bf⟩ := V8.out.facts
  obtain ⟨zxt, x0t, x1t, x2t, xft⟩ := VXt.out.facts
  go_wp2_with fail
  clear z8 b0 b1 b2 bf zxt x0t x1t x2t xft
  clear zt c0t c1t c2t
  have hbx := below1 wG (.cells #[.int .i64 R0.kind, .int .i64 R0.num, .slice Ga0 R0.kids.length Gc0] 29)
  have VG := tuck (VarAt.new wG R0.kind R0.num (.slice Ga0 R0.kids.length Gc0))
  have hzz : wG.heap.size < (wG.alloc (.cells #[.int .i64 R0.kind, .int .i64 R0.num, .slice Ga0 R0.kids.length Gc0] 29)).heap.size := by simp
  replace HXt := tuck (HXt.out.below hbx)
  replace HB := tuck (HB.out.below hbx)
  replace V8 := tuck (V8.out.below hbx)
  replace HBW := tuck (HBW.out.below hbx)
  replace HOl := tuck (HOl.out.below hbx)
  replace HOt := tuck (HOt.out.below hbx)
  replace VXt := tuck (VXt.out.below hbx)
  replace HOG0 := tuck (HOG0.out.below hbx)
  clear hbx
  generalize wG.alloc (.cells #[.int .i64 R0.kind, .int .i64 R0.num, .slice Ga0 R0.kids.length Gc0] 29) = WG at *
  generalize wG.heap.size = gG at *
  have HZG := tuck hzz
  clear hzz
  refine (HEQR0.out _ _ _ ⟨_, rfl, HOG0.out.sl⟩ ⟨_, rfl, H8W0.out.below HBW.out.be⟩).mono ?_
  rintro e wE0 ⟨rfl, hb⟩
  replace HXt := tuck (HXt.out.below hb)
  replace HB := tuck (HB.out.below hb)
  replace V8 := tuck (V8.out.below hb)
  replace HBW := tuck (HBW.out.below hb)
  replace HOl := tuck (HOl.out.below hb)
  replace HOt := tuck (HOt.out.below hb)
  replace VXt := tuck (VXt.out.below hb)
  replace HOG0 := tuck (HOG0.out.below hb)
  replace VG := tuck (VG.out.below hb)
  clear hb
  obtain ⟨zt, c0t, c1t, c2t⟩ := HXt.out
  obtain ⟨z8, b0, b1, b2, bf⟩ := V8.out.facts
  obtain ⟨z11, d0, d1, d2, df⟩ := VG.out.facts
  obtain ⟨zxt, x0t, x1t, x2t, xft⟩ := VXt.out.facts
  go_wp2_with fail
  clear z8 b0 b1 b2 bf z11 d0 d1 d2 df zxt x0t x1t x2t xft
  clear zt c0t c1t c2t
  refine (HTOl.out _ (HSl.out.below HB.out.be)).mono ?_
  rintro e w73l ⟨hb, uyla, uylc, FUl, rfl, hsx, hnx, hFx⟩
  have Hyl := tuck (hsx.sl (B := 0) (fun _ _ => Nat.zero_le _))
  replace HXt := tuck (HXt.out.below hb)
  replace HB := tuck (HB.out.below hb)
  replace V8 := tuck (V8.out.below hb)
  replace HBW := tuck (HBW.out.below hb)
  replace HOl := tuck (HOl.out.below hb)
  replace HOt := tuck (HOt.out.below hb)
  replace VXt := tuck (VXt.out.below hb)
  replace HOG0 := tuck (HOG0.out.below hb)
  replace VG := tuck (VG.out.below hb)
  clear hb hsx hnx hFx
  obtain ⟨zt, c0t, c1t, c2t⟩ := HXt.out
  obtain ⟨z8, b0, b1, b2, bf⟩ := V8.out.facts
  obtain ⟨z11, d0, d1, d2, df⟩ := VG.out.facts
  obtain ⟨zxt, x0t, x1t, x2t, xft⟩ := VXt.out.facts
  go_wp2_with fail
  clear z8 b0 b1 b2 bf z11 d0 d1 d2 df zxt x0t x1t x2t xft
  clear zt c0t c1t c2t
  refine (HEQl.out _ _ _ HOl.out.sl Hyl.out).mono ?_
  rintro e w74l ⟨rfl, hb⟩
  replace HXt := tuck (HXt.out.below hb)
  replace HB := tuck (HB.out.below hb)
  replace V8 := tuck (V8.out.below hb)
  replace HBW := tuck (HBW.out.below hb)
  replace HOl := tuck (HOl.out.below hb)
  replace HOt := tuck (HOt.out.below hb)
  replace VXt := tuck (VXt.out.below hb)
  replace HOG0 := tuck (HOG0.out.below hb)
  replace VG := tuck (VG.out.below hb)
  clear hb Hyl
  obtain ⟨zt, c0t, c1t, c2t⟩ := HXt.out
  obtain ⟨z8, b0, b1, b2, bf⟩ := V8.out.facts
  obtain ⟨z11, d0, d1, d2, df⟩ := VG.out.facts
  obtain ⟨zxt, x0t, x1t, x2t, xft⟩ := VXt.out.facts
  go_wp2_with fail
  clear z8 b0 b1 b2 bf z11 d0 d1 d2 df zxt x0t x1t x2t xft
  clear zt c0t c1t c2t
  go_region_held3 (fun w' => Below w74l.heap.size w74l w' ∧ (w.heap.size < w'.heap.size ∧ w'.cell? ⟨w.heap.size, 0, none⟩ = some (.int .i64 t.kind) ∧ w'.cell? ⟨w.heap.size, 1, none⟩ = some (.int .i64 t.num) ∧ w'.cell? ⟨w.heap.size, 2, none⟩ = some (.slice ta t.kids.length tc)) ∧ (gxt < w'.heap.size ∧ w'.cell? ⟨gxt, 0, none⟩ = some (.int .i64 t.kind) ∧ w'.cell? ⟨gxt, 1, none⟩ = some (.int .i64 t.num) ∧ w'.cell? ⟨gxt, 2, none⟩ = some (.slice uxta t.kids.length uxtc))) (first | exact ⟨(Below.refl _ _).drew, HXt.out, VXt.out.four⟩ | exact holdT (by assumption) hb71 | exact holdT (by assumption) hb72) (first | (go_at_call 14; refine (HTOt.out _ (HSt.out.below (bAfter HB.out.be (hold_be (by assumption))))).mono ?_; rintro e w71t ⟨hb71, qa, qc, F71, rfl, hs71, -, -⟩) | (go_at_call 16; refine (HEQt.out _ _ _ ⟨_, rfl, HOt.out.sl.below (hold_be (by assumption))⟩ ⟨_, rfl, hs71.sl (fun _ _ => Nat.zero_le _)⟩).mono ?_; rintro e w72t ⟨rfl, hb72⟩))
  have hb : Below w74l.heap.size w74l w72t := hold_be (by assumption)
  replace HXt := tuck (HXt.out.below hb)
  replace HB := tuck (HB.out.below hb)
  replace V8 := tuck (V8.out.below hb)
  replace HBW := tuck (HBW.out.below hb)
  replace HOl := tuck (HOl.out.below hb)
  replace HOt := tuck (HOt.out.below hb)
  replace VXt := tuck (VXt.out.below hb)
  replace HOG0 := tuck (HOG0.out.below hb)
  replace VG := tuck (VG.out.below hb)
  clear hb hb71 hb72 hs71
  obtain ⟨zt, c0t, c1t, c2t⟩ := HXt.out
  obtain ⟨z8, b0, b1, b2, bf⟩ := V8.out.facts
  obtain ⟨z11, d0, d1, d2, df⟩ := VG.out.facts
  obtain ⟨zxt, x0t, x1t, x2t, xft⟩ := VXt.out.facts
  go_wp2_with fail
  clear z8 b0 b1 b2 bf z11 d0 d1 d2 df zxt x0t x1t x2t xft
  clear zt c0t c1t c2t
  have geHOl := HOl.out.ge
  have ltHOl := HOl.out.lt
  have geHOt := HOt.out.ge
  have ltHOt := HOt.out.lt
  have geHOG0 := HOG0.out.ge
  have ltHOG0 := HOG0.out.lt
  refine (markL_but l Fl (1) _ _ HKl.out.1 HKl.out.2 HOl.out.nd HOl.out.own).mono ?_
  rintro e wml ⟨rfl, hown, hbut⟩
  have e0 := HL1t.out; have e1 := HL0.out; have e2 := HL8.out; have e3 := HNl.out; have e4 := HNt.out; have e5 := HZXt.out; have e6 := HNG.out; have e7 := HZG.out
  skip
  replace HXt := tuck (HXt.out.but hbut (fun hf => by have h1 := geHOl _ hf; have h2 := ltHOl _ hf; omega))
  replace HB := tuck (HB.out.but hbut (fun g hf => by have h1 := geHOl _ hf; have h2 := ltHOl _ hf; omega))
  replace V8 := tuck (V8.out.but hbut (fun hf => by have h1 := geHOl _ hf; have h2 := ltHOl _ hf; omega))
  replace HBW := tuck (HBW.out.but hbut (fun g hf => by have h1 := geHOl _ hf; have h2 := ltHOl _ hf; omega))
  replace HOt := tuck (HOt.out.but hbut (fun g hg hf => by have h1 := geHOl _ hf; have h2 := ltHOl _ hf; have h3 := geHOt _ hg; have h4 := ltHOt _ hg; omega))
  replace VXt := tuck (VXt.out.but hbut (fun hf => by have h1 := geHOl _ hf; have h2 := ltHOl _ hf; omega))
  replace HOG0 := tuck (HOG0.out.but hbut (fun g hg hf => by have h1 := geHOl _ hf; have h2 := ltHOl _ hf; have h3 := geHOG0 _ hg; have h4 := ltHOG0 _ hg; omega))
  replace VG := tuck (VG.out.but hbut (fun hf => by have h1 := geHOl _ hf; have h2 := ltHOl _ hf; omega))
  clear hbut hown geHOl ltHOl geHOt ltHOt geHOG0 ltHOG0
  clear e0 e1 e2 e3 e4 e5 e6 e7
  clear HOl
  obtain ⟨zt, c0t, c1t, c2t⟩ := HXt.out
  obtain ⟨z8, b0, b1, b2, bf⟩ := V8.out.facts
  obtain ⟨z11, d0, d1, d2, df⟩ := VG.out.facts
  obtain ⟨zxt, x0t, x1t, x2t, xft⟩ := VXt.out.facts
  go_wp2_with fail
  clear z8 b0 b1 b2 bf z11 d0 d1 d2 df zxt x0t x1t x2t xft
  clear zt c0t c1t c2t
  have geHOt := HOt.out.ge
  have ltHOt := HOt.out.lt
  have geHOG0 := HOG0.out.ge
  have ltHOG0 := HOG0.out.lt
  refine (markT_any t Ft ((1 : Int) + 2 * (sizes l : Int)) _ _ HKt.out.1 HKt.out.2 HOt.out.nd HOt.out.lts HOt.out.own).mono ?_
  rintro e wmt ⟨rfl, hown, hbut⟩
  have e0 := HL1t.out; have e1 := HL0.out; have e2 := HL8.out; have e3 := HNl.out; have e4 := HNt.out; have e5 := HZXt.out; have e6 := HNG.out; have e7 := HZG.out
  skip
  replace HXt := tuck (HXt.out.but hbut (fun hf => by have h1 := geHOt _ hf; have h2 := ltHOt _ hf; omega))
  replace HB := tuck (HB.out.but hbut (fun g hf => by have h1 := geHOt _ hf; have h2 := ltHOt _ hf; omega))
  replace V8 := tuck (V8.out.but hbut (fun hf => by have h1 := geHOt _ hf; have h2 := ltHOt _ hf; omega))
  replace HBW := tuck (HBW.out.but hbut (fun g hf => by have h1 := geHOt _ hf; have h2 := ltHOt _ hf; omega))
  replace HOG0 := tuck (HOG0.out.but hbut (fun g hg hf => by have h1 := geHOt _ hf; have h2 := ltHOt _ hf; have h3 := geHOG0 _ hg; have h4 := ltHOG0 _ hg; omega))
  replace VG := tuck (VG.out.but hbut (fun hf => by have h1 := geHOt _ hf; have h2 := ltHOt _ hf; omega))
  clear hbut hown geHOt ltHOt geHOG0 ltHOG0
  clear e0 e1 e2 e3 e4 e5 e6 e7
  clear VXt
  clear HOt
  obtain ⟨zt, c0t, c1t, c2t⟩ := HXt.out
  obtain ⟨z8, b0, b1, b2, bf⟩ := V8.out.facts
  obtain ⟨z11, d0, d1, d2, df⟩ := VG.out.facts
  go_wp2_with fail
  clear z8 b0 b1 b2 bf z11 d0 d1 d2 df
  clear zt c0t c1t c2t
  refine (HEQR0.out _ _ _ ⟨_, rfl, HOG0.out.sl⟩ ⟨_, rfl, H8W0.out.below HBW.out.be⟩).mono ?_
  rintro e wK0 ⟨rfl, hb⟩
  replace HXt := tuck (HXt.out.below hb)
  replace HB := tuck (HB.out.below hb)
  replace V8 := tuck (V8.out.below hb)
  replace HBW := tuck (HBW.out.below hb)
  replace HOG0 := tuck (HOG0.out.below hb)
  replace VG := tuck (VG.out.below hb)
  clear hb
  obtain ⟨zt, c0t, c1t, c2t⟩ := HXt.out
  obtain ⟨z8, b0, b1, b2, bf⟩ := V8.out.facts
  obtain ⟨z11, d0, d1, d2, df⟩ := VG.out.facts
  go_wp2_with fail
  clear z8 b0 b1 b2 bf z11 d0 d1 d2 df
  clear zt c0t c1t c2t
  have geHOG0 := HOG0.out.ge
  have ltHOG0 := HOG0.out.lt
  refine (markT_any R0 FG0 (1) _ _ HM0.out.1 HM0.out.2 HOG0.out.nd HOG0.out.lts HOG0.out.own).mono ?_
  rintro e wn0 ⟨rfl, hown, hbut⟩
  have e0 := HL1t.out; have e1 := HL0.out; have e2 := HL8.out; have e3 := HNl.out; have e4 := HNt.out; have e5 := HZXt.out; have e6 := HNG.out; have e7 := HZG.out
  skip
  replace HXt := tuck (HXt.out.but hbut (fun hf => by have h1 := geHOG0 _ hf; have h2 := ltHOG0 _ hf; omega))
  replace HB := tuck (HB.out.but hbut (fun g hf => by have h1 := geHOG0 _ hf; have h2 := ltHOG0 _ hf; omega))
  replace V8 := tuck (V8.out.but hbut (fun hf => by have h1 := geHOG0 _ hf; have h2 := ltHOG0 _ hf; omega))
  replace HBW := tuck (HBW.out.but hbut (fun g hf => by have h1 := geHOG0 _ hf; have h2 := ltHOG0 _ hf; omega))
  replace VG := tuck (VG.out.but hbut (fun hf => by have h1 := geHOG0 _ hf; have h2 := ltHOG0 _ hf; omega))
  replace HOG0 := tuck (HOG0.out.marked hown hbut.size)
  clear hbut hown geHOG0 ltHOG0
  clear e0 e1 e2 e3 e4 e5 e6 e7
  obtain ⟨zt, c0t, c1t, c2t⟩ := HXt.out
  obtain ⟨z8, b0, b1, b2, bf⟩ := V8.out.facts
  obtain ⟨z11, d0, d1, d2, df⟩ := VG.out.facts
  go_wp2_with fail
  clear z8 b0 b1 b2 bf z11 d0 d1 d2 df
  clear zt c0t c1t c2t
  refine (heldT_any R0 R0.kids 0 (1) _ _ HM0.out.1 HM0.out.2 HOG0.out.sl).mono ?_
  rintro e wh0 ⟨rfl, hb⟩
  replace HXt := tuck (HXt.out.below hb)
  replace HB := tuck (HB.out.below hb)
  replace V8 := tuck (V8.out.below hb)
  replace HBW := tuck (HBW.out.below hb)
  replace HOG0 := tuck (HOG0.out.below hb)
  replace VG := tuck (VG.out.below hb)
  clear hb
  obtain ⟨zt, c0t, c1t, c2t⟩ := HXt.out
  go_upto_region 31 with fail
  go_cut [15, 16] (fun p0 p1 wx => ∃ (gz : Nat) (a0 : Option Addr) (c0 : Nat), p0 = .pointer (some ⟨gz, 0, none⟩) ∧ p1 = .bool R1 ∧ Below wh0.heap.size wh0 wx ∧ VarAt gz R0.kind R0.num (.slice a0 R0.kids.length c0) wx ∧ wh0.heap.size ≤ gz ∧ SlIn wx 0 R0.kids (.slice a0 R0.kids.length c0))
  case first =>
   have HT12 : ∀ w' : World, (fun w' : World => Below wh0.heap.size wh0 w' ∧ (w.heap.size < w'.heap.size ∧ w'.cell? ⟨w.heap.size, 0, none⟩ = some (.int .i64 t.kind) ∧ w'.cell? ⟨w.heap.size, 1, none⟩ = some (.int .i64 t.num) ∧ w'.cell? ⟨w.heap.size, 2, none⟩ = some (.slice ta t.kids.length tc))) w' → (fun w' : World => Below wh0.heap.size wh0 w' ∧ (w.heap.size < w'.heap.size ∧ w'.cell? ⟨w.heap.size, 0, none⟩ = some (.int .i64 t.kind) ∧ w'.cell? ⟨w.heap.size, 1, none⟩ = some (.int .i64 t.num) ∧ w'.cell? ⟨w.heap.size, 2, none⟩ = some (.slice ta t.kids.length tc))) w' := fun w' h => h
   refine AnyTwo.begin (fun w' : World => Below wh0.heap.size wh0 w' ∧ (w.heap.size < w'.heap.size ∧ w'.cell? ⟨w.heap.size, 0, none⟩ = some (.int .i64 t.kind) ∧ w'.cell? ⟨w.heap.size, 1, none⟩ = some (.int .i64 t.num) ∧ w'.cell? ⟨w.heap.size, 2, none⟩ = some (.slice ta t.kids.length tc))) (fun w' : World => Below wh0.heap.size wh0 w' ∧ (w.heap.size < w'.heap.size ∧ w'.cell? ⟨w.heap.size, 0, none⟩ = some (.int .i64 t.kind) ∧ w'.cell? ⟨w.heap.size, 1, none⟩ = some (.int .i64 t.num) ∧ w'.cell? ⟨w.heap.size, 2, none⟩ = some (.slice ta t.kids.length tc))) 10 (by kernel_rfl) ?_
   have hS1 : (fun w' : World => Below wh0.heap.size wh0 w' ∧ (w.heap.size < w'.heap.size ∧ w'.cell? ⟨w.heap.size, 0, none⟩ = some (.int .i64 t.kind) ∧ w'.cell? ⟨w.heap.size, 1, none⟩ = some (.int .i64 t.num) ∧ w'.cell? ⟨w.heap.size, 2, none⟩ = some (.slice ta t.kids.length tc))) wh0.drew := ⟨(Below.refl _ _).drew, HXt.out⟩
   have HXL : Hid (w.heap.size < wh0.heap.size) := tuck HXt.out.1
   refine AnyTwo.takeAny HT12 (i := 0) (oi := ⟨some 95, _, _, _, _, _⟩) (v := ?vH0) rfl (by kernel_rfl) (by kernel_rfl) (by decide +kernel) (by rfl) (fun _ _ _ h => h) (Or.inl ⟨by rfl, ?yH0⟩) (ph_one (by kernel_rfl) hS1) ?rH0
   case yH0 => (intro w hSw; (try dsimp only at hSw); go_simp; try (with_reducible rfl))
   try simp only [Act.put, List.setIfInBounds_toArray, List.set_cons_zero, List.set_cons_succ]
   refine AnyTwo.takeAny HT12 (i := 2) (oi := ⟨some 97, _, _, _, _, _⟩) (v := ?vH2) rfl (by kernel_rfl) (by kernel_rfl) (by decide +kernel) (by rfl) (fun _ _ _ h => h) (Or.inl ⟨by rfl, ?yH2⟩) (ph_one (by kernel_rfl) hS1) ?rH2
   case yH2 => (intro w hSw; (try dsimp only at hSw); go_simp; try (with_reducible rfl))
   try simp only [Act.put, List.setIfInBounds_toArray, List.set_cons_zero, List.set_cons_succ]
   refine AnyTwo.fork (i := 1) (o := ⟨some 96, _, _, _, _, _⟩) (j := 8) (o' := ⟨some 15, _, _, _, _, _⟩) (by kernel_rfl) rfl rfl (fun K hK => ?_) (fun K hK => ?_)
   ·skip
    go_simp
    refine (HTOl.out _ (HSl.out.below (bAfter HB.out.be (hold_be hS1)))).mono ?_
    rintro e wql ⟨hbq, qal, qcl, FQ, rfl, hsx, -, -⟩
    have HQl := tuck (hsx.sl (B := 0) (fun _ _ => Nat.zero_le _))
    clear hsx
    have hS1' : (fun w' : World => Below wh0.heap.size wh0 w' ∧ (w.heap.size < w'.heap.size ∧ w'.cell? ⟨w.heap.size, 0, none⟩ = some (.int .i64 t.kind) ∧ w'.cell? ⟨w.heap.size, 1, none⟩ = some (.int .i64 t.num) ∧ w'.cell? ⟨w.heap.size, 2, none⟩ = some (.slice ta t.kids.length tc))) _ := hold1T hS1 hbq
    refine hK.out _ _ (ph_one (by kernel_rfl) hS1') ?_
    clear hK K hS1
    have hS1 := hS1'
    clear hS1'
    try simp only [Act.put, List.setIfInBounds_toArray, List.set_cons_zero, List.set_cons_succ]
    clear hbq
    refine AnyTwo.fork (i := 3) (o := ⟨some 98, _, _, _, _, _⟩) (j := 8) (o' := ⟨some 15, _, _, _, _, _⟩) (by kernel_rfl) rfl rfl (fun K hK => ?_) (fun K hK => ?_)
    ·skip
     go_simp
     refine (HTOt.out _ (HSt.out.below (bAfter HB.out.be (hold_be hS1)))).mono ?_
     rintro e wqt ⟨hbq, qat, qct, FQ, rfl, hsx, -, -⟩
     have HQt := tuck (hsx.sl (B := 0) (fun _ _ => Nat.zero_le _))
     clear hsx
     replace HQl := tuck (HQl.out.below hbq)
     have hS1' : (fun w' : World => Below wh0.heap.size wh0 w' ∧ (w.heap.size < w'.heap.size ∧ w'.cell? ⟨w.heap.size, 0, none⟩ = some (.int .i64 t.kind) ∧ w'.cell? ⟨w.heap.size, 1, none⟩ = some (.int .i64 t.num) ∧ w'.cell? ⟨w.heap.size, 2, none⟩ = some (.slice ta t.kids.length tc))) _ := hold1T hS1 hbq
     refine hK.out _ _ (ph_one (by kernel_rfl) hS1') ?_
     clear hK K hS1
     have hS1 := hS1'
     clear hS1'
     try simp only [Act.put, List.setIfInBounds_toArray, List.set_cons_zero, List.set_cons_succ]
     clear hbq
     refine AnyTwo.fork (i := 4) (o := ⟨some 99, _, _, _, _, _⟩) (j := 8) (o' := ⟨some 15, _, _, _, _, _⟩) (by kernel_rfl) rfl rfl (fun K hK => ?_) (fun K hK => ?_)
     ·skip
      go_simp
      refine (HIM.out _ _ _ HQl.out ⟨_, rfl, HQt.out⟩).mono ?_
      rintro e wr ⟨hbq, a0, c0, FQ0, rfl, hw0, -, hF⟩
      have HW0 := tuck (hw0.sl (fun g hg => (hF g (by simp [hg])).1))
      clear hF hw0
      have HH9 := tuck (hold1T hS1 hbq)
      have hS1' : (fun w' : World => Below wh0.heap.size wh0 w' ∧ (w.heap.size < w'.heap.size ∧ w'.cell? ⟨w.heap.size, 0, none⟩ = some (.int .i64 t.kind) ∧ w'.cell? ⟨w.heap.size, 1, none⟩ = some (.int .i64 t.num) ∧ w'.cell? ⟨w.heap.size, 2, none⟩ = some (.slice ta t.kids.length tc))) _ := HH9.out
      refine hK.out _ _ (ph_one (by kernel_rfl) hS1') ?_
      clear hK K hS1
      have hS1 := hS1'
      clear hS1'
      try simp only [Act.put, List.setIfInBounds_toArray, List.set_cons_zero, List.set_cons_succ]
      refine AnyTwo.takeAny HT12 (i := 5) (oi := ⟨some 94, _, _, _, _, _⟩) (v := ?vHccc5) rfl (by kernel_rfl) (by kernel_rfl) (by decide +kernel) (by rfl) (fun _ _ _ h => h) (Or.inl ⟨by rfl, ?yHccc5⟩) (ph_one (by kernel_rfl) hS1) ?rHccc5
      case yHccc5 => (intro w hSw; (try dsimp only at hSw); go_simp; try (with_reducible rfl))
      try simp only [Act.put, List.setIfInBounds_toArray, List.set_cons_zero, List.set_cons_succ]
      refine AnyTwo.takeAny HT12 (i := 6) (oi := ⟨some 100, _, _, _, _, _⟩) (v := ?vHccc6) rfl (by kernel_rfl) (by kernel_rfl) (by decide +kernel) (by rfl) (fun _ _ _ h => h) (Or.inl ⟨by rfl, ?yHccc6⟩) (ph_one (by kernel_rfl) hS1) ?rHccc6
      case yHccc6 => (intro w hSw; (try dsimp only at hSw); go_simp; try (with_reducible rfl))
      try simp only [Act.put, List.setIfInBounds_toArray, List.set_cons_zero, List.set_cons_succ]
      refine AnyTwo.takeAny HT12 (i := 7) (oi := ⟨some 101, _, _, _, _, _⟩) (v := ?vHccc7) rfl (by kernel_rfl) (by kernel_rfl) (by decide +kernel) (by rfl) (fun _ _ _ h => h) (Or.inl ⟨by rfl, ?yHccc7⟩) (ph_one (by kernel_rfl) hS1) ?rHccc7
      case yHccc7 => (intro w hSw; (try dsimp only at hSw); go_simp; try (with_reducible rfl))
      try simp only [Act.put, List.setIfInBounds_toArray, List.set_cons_zero, List.set_cons_succ]
      refine AnyTwo.step (i := 8) (o := ⟨some 15, _, _, _, _, _⟩) (by kernel_rfl) rfl (fun K hK => ?_)
      go_simp
      have hz0 : wh0.heap.size ≤ wr.heap.size := (hold_be hS1).size
      have HZ0 := tuck hz0
      clear hz0
      have hS1' : (fun w' : World => Below wh0.heap.size wh0 w' ∧ (w.heap.size < w'.heap.size ∧ w'.cell? ⟨w.heap.size, 0, none⟩ = some (.int .i64 t.kind) ∧ w'.cell? ⟨w.heap.size, 1, none⟩ = some (.int .i64 t.num) ∧ w'.cell? ⟨w.heap.size, 2, none⟩ = some (.slice ta t.kids.length tc))) _ := hold1T HH9.out (below1 wr (.cells #[.int .i64 0, .int .i64 0, .slice none 0 0] 29))
      refine hK.out _ _ (ph_one (by kernel_rfl) hS1') ?_
      clear hK K hS1
      have hS1 := hS1'
      clear hS1'
      try simp only [Act.put, List.setIfInBounds_toArray, List.set_cons_zero, List.set_cons_succ]
      refine AnyTwo.step (i := 9) (o := ⟨none, _, _, _, _, _⟩) (by kernel_rfl) rfl (fun K hK => ?_)
      go_simp
      have hS1' : (fun w' : World => Below wh0.heap.size wh0 w' ∧ (w.heap.size < w'.heap.size ∧ w'.cell? ⟨w.heap.size, 0, none⟩ = some (.int .i64 t.kind) ∧ w'.cell? ⟨w.heap.size, 1, none⟩ = some (.int .i64 t.num) ∧ w'.cell? ⟨w.heap.size, 2, none⟩ = some (.slice ta t.kids.length tc))) _ := hold1T HH9.out (below1 wr (.cells #[.int .i64 R0.kind, .int .i64 R0.num, .slice a0 R0.kids.length c0] 29))
      refine hK.out _ _ (ph_one (by kernel_rfl) hS1') ?_
      clear hK K hS1
      have hS1 := hS1'
      clear hS1'
      try simp only [Act.put, List.setIfInBounds_toArray, List.set_cons_zero, List.set_cons_succ]
      refine AnyTwo.step (i := 10) (o := ⟨some 16, _, _, _, _, _⟩) (by kernel_rfl) rfl (fun K hK => ?_)
      go_simp
      refine hK.out _ _ (ph_end (by kernel_rfl) hS1) ?_
      clear hK K
      try simp only [Act.put, List.setIfInBounds_toArray, List.set_cons_zero, List.set_cons_succ]
      refine AnyTwo.done (by kernel_rfl) ?_ _
      go_wp2_with fail
      go_meet
      exact ⟨wr.heap.size, a0, c0, rfl, rfl, hold_be hS1, VarAt.new wr R0.kind R0.num (.slice a0 R0.kids.length c0), HZ0.out, (HW0.out.mono (Nat.zero_le _)).below (below1 wr _)⟩
     ·skip
      go_simp
      have HZ := tuck (VarAt.new wqt 0 0 (.slice none 0 0))
      have hz0 : wh0.heap.size ≤ wqt.heap.size := (hold_be hS1).size
      have HZ0 := tuck hz0
      clear hz0
      replace HQl := tuck (HQl.out.below (below1 wqt (.cells #[.int .i64 0, .int .i64 0, .slice none 0 0] 29)))
      replace HQt := tuck (HQt.out.below (below1 wqt (.cells #[.int .i64 0, .int .i64 0, .slice none 0 0] 29)))
      have hS1' : (fun w' : World => Below wh0.heap.size wh0 w' ∧ (w.heap.size < w'.heap.size ∧ w'.cell? ⟨w.heap.size, 0, none⟩ = some (.int .i64 t.kind) ∧ w'.cell? ⟨w.heap.size, 1, none⟩ = some (.int .i64 t.num) ∧ w'.cell? ⟨w.heap.size, 2, none⟩ = some (.slice ta t.kids.length tc))) _ := hold1T hS1 (below1 wqt (.cells #[.int .i64 0, .int .i64 0, .slice none 0 0] 29))
      refine hK.out _ _ (ph_one (by kernel_rfl) hS1') ?_
      clear hK K hS1
      have hS1 := hS1'
      clear hS1'
      try simp only [Act.put, List.setIfInBounds_toArray, List.set_cons_zero, List.set_cons_succ]
      refine AnyTwo.step (i := 4) (o := ⟨some 99, _, _, _, _, _⟩) (by kernel_rfl) rfl (fun K hK => ?_)
      go_simp
      have HGL := tuck HZ.out.facts.1
      refine (HIM.out _ _ _ HQl.out ⟨_, rfl, HQt.out⟩).mono ?_
      rintro e wr ⟨hbq, a0, c0, FQ0, rfl, hw0, -, hF⟩
      have HW0 := tuck (hw0.sl (fun g hg => (hF g (by simp [hg])).1))
      clear hF hw0
      have HH9 := tuck (hold1T hS1 hbq)
      replace HZ := tuck (HZ.out.below hbq)
      obtain ⟨zz, y0, y1, y2, yf⟩ := HZ.out.facts
      have hS1' : (fun w' : World => Below wh0.heap.size wh0 w' ∧ (w.heap.size < w'.heap.size ∧ w'.cell? ⟨w.heap.size, 0, none⟩ = some (.int .i64 t.kind) ∧ w'.cell? ⟨w.heap.size, 1, none⟩ = some (.int .i64 t.num) ∧ w'.cell? ⟨w.heap.size, 2, none⟩ = some (.slice ta t.kids.length tc))) _ := HH9.out
      refine hK.out _ _ (ph_one (by kernel_rfl) hS1') ?_
      clear hK K hS1
      have hS1 := hS1'
      clear hS1'
      try simp only [Act.put, List.setIfInBounds_toArray, List.set_cons_zero, List.set_cons_succ]
      refine AnyTwo.takeAny HT12 (i := 5) (oi := ⟨some 94, _, _, _, _, _⟩) (v := ?vHccac5) rfl (by kernel_rfl) (by kernel_rfl) (by decide +kernel) (by rfl) (fun _ _ _ h => h) (Or.inl ⟨by rfl, ?yHccac5⟩) (ph_one (by kernel_rfl) hS1) ?rHccac5
      case yHccac5 => (intro w hSw; (try dsimp only at hSw); go_simp; try (with_reducible rfl))
      try simp only [Act.put, List.setIfInBounds_toArray, List.set_cons_zero, List.set_cons_succ]
      refine AnyTwo.takeAny HT12 (i := 6) (oi := ⟨some 100, _, _, _, _, _⟩) (v := ?vHccac6) rfl (by kernel_rfl) (by kernel_rfl) (by decide +kernel) (by rfl) (fun _ _ _ h => h) (Or.inl ⟨by rfl, ?yHccac6⟩) (ph_one (by kernel_rfl) hS1) ?rHccac6
      case yHccac6 => (intro w hSw; (try dsimp only at hSw); go_simp; try (with_reducible rfl))
      try simp only [Act.put, List.setIfInBounds_toArray, List.set_cons_zero, List.set_cons_succ]
      refine AnyTwo.takeAny HT12 (i := 7) (oi := ⟨some 101, _, _, _, _, _⟩) (v := ?vHccac7) rfl (by kernel_rfl) (by kernel_rfl) (by decide +kernel) (by rfl) (fun _ _ _ h => h) (Or.inl ⟨by rfl, ?yHccac7⟩) (ph_one (by kernel_rfl) hS1) ?rHccac7
      case yHccac7 => (intro w hSw; (try dsimp only at hSw); go_simp; try (with_reducible rfl))
      try simp only [Act.put, List.setIfInBounds_toArray, List.set_cons_zero, List.set_cons_succ]
      refine AnyTwo.step (i := 9) (o := ⟨none, _, _, _, _, _⟩) (by kernel_rfl) rfl (fun K hK => ?_)
      go_simp
      have hS1' : (fun w' : World => Below wh0.heap.size wh0 w' ∧ (w.heap.size < w'.heap.size ∧ w'.cell? ⟨w.heap.size, 0, none⟩ = some (.int .i64 t.kind) ∧ w'.cell? ⟨w.heap.size, 1, none⟩ = some (.int .i64 t.num) ∧ w'.cell? ⟨w.heap.size, 2, none⟩ = some (.slice ta t.kids.length tc))) _ := hold1T_set3 HH9.out (gz := wqt.heap.size) (x := .int .i64 R0.kind) (y := .int .i64 R0.num) (z := .slice a0 R0.kids.length c0) HZ0.out HXL.out
      refine hK.out _ _ (ph_one (by kernel_rfl) hS1') ?_
      clear hK K hS1
      have hS1 := hS1'
      clear hS1'
      try simp only [Act.put, List.setIfInBounds_toArray, List.set_cons_zero, List.set_cons_succ]
      refine AnyTwo.step (i := 10) (o := ⟨some 16, _, _, _, _, _⟩) (by kernel_rfl) rfl (fun K hK => ?_)
      go_simp
      refine hK.out _ _ (ph_end (by kernel_rfl) hS1) ?_
      clear hK K
      try simp only [Act.put, List.setIfInBounds_toArray, List.set_cons_zero, List.set_cons_succ]
      refine AnyTwo.done (by kernel_rfl) ?_ _
      go_wp2_with fail
      go_meet
      exact ⟨wqt.heap.size, a0, c0, rfl, rfl, hold_be hS1, HZ.out.set3, HZ0.out, (tl_sl3 HW0.out HGL.out).mono (Nat.zero_le _)⟩
    ·skip
     go_simp
     have HZ := tuck (VarAt.new wql 0 0 (.slice none 0 0))
     have hz0 : wh0.heap.size ≤ wql.heap.size := (hold_be hS1).size
     have HZ0 := tuck hz0
     clear hz0
     replace HQl := tuck (HQl.out.below (below1 wql (.cells #[.int .i64 0, .int .i64 0, .slice none 0 0] 29)))
     have hS1' : (fun w' : World => Below wh0.heap.size wh0 w' ∧ (w.heap.size < w'.heap.size ∧ w'.cell? ⟨w.heap.size, 0, none⟩ = some (.int .i64 t.kind) ∧ w'.cell? ⟨w.heap.size, 1, none⟩ = some (.int .i64 t.num) ∧ w'.cell? ⟨w.heap.size, 2, none⟩ = some (.slice ta t.kids.length tc))) _ := hold1T hS1 (below1 wql (.cells #[.int .i64 0, .int .i64 0, .slice none 0 0] 29))
     refine hK.out _ _ (ph_one (by kernel_rfl) hS1') ?_
     clear hK K hS1
     have hS1 := hS1'
     clear hS1'
     try simp only [Act.put, List.setIfInBounds_toArray, List.set_cons_zero, List.set_cons_succ]
     refine AnyTwo.step (i := 3) (o := ⟨some 98, _, _, _, _, _⟩) (by kernel_rfl) rfl (fun K hK => ?_)
     go_simp
     refine (HTOt.out _ (HSt.out.below (bAfter HB.out.be (hold_be hS1)))).mono ?_
     rintro e wqt ⟨hbq, qat, qct, FQ, rfl, hsx, -, -⟩
     have HQt := tuck (hsx.sl (B := 0) (fun _ _ => Nat.zero_le _))
     clear hsx
     replace HQl := tuck (HQl.out.below hbq)
     replace HZ := tuck (HZ.out.below hbq)
     have hS1' : (fun w' : World => Below wh0.heap.size wh0 w' ∧ (w.heap.size < w'.heap.size ∧ w'.cell? ⟨w.heap.size, 0, none⟩ = some (.int .i64 t.kind) ∧ w'.cell? ⟨w.heap.size, 1, none⟩ = some (.int .i64 t.num) ∧ w'.cell? ⟨w.heap.size, 2, none⟩ = some (.slice ta t.kids.length tc))) _ := hold1T hS1 hbq
     refine hK.out _ _ (ph_one (by kernel_rfl) hS1') ?_
     clear hK K hS1
     have hS1 := hS1'
     clear hS1'
     try simp only [Act.put, List.setIfInBounds_toArray, List.set_cons_zero, List.set_cons_succ]
     clear hbq
     refine AnyTwo.step (i := 4) (o := ⟨some 99, _, _, _, _, _⟩) (by kernel_rfl) rfl (fun K hK => ?_)
     go_simp
     have HGL := tuck HZ.out.facts.1
     refine (HIM.out _ _ _ HQl.out ⟨_, rfl, HQt.out⟩).mono ?_
     rintro e wr ⟨hbq, a0, c0, FQ0, rfl, hw0, -, hF⟩
     have HW0 := tuck (hw0.sl (fun g hg => (hF g (by simp [hg])).1))
     clear hF hw0
     have HH9 := tuck (hold1T hS1 hbq)
     replace HZ := tuck (HZ.out.below hbq)
     obtain ⟨zz, y0, y1, y2, yf⟩ := HZ.out.facts
     have hS1' : (fun w' : World => Below wh0.heap.size wh0 w' ∧ (w.heap.size < w'.heap.size ∧ w'.cell? ⟨w.heap.size, 0, none⟩ = some (.int .i64 t.kind) ∧ w'.cell? ⟨w.heap.size, 1, none⟩ = some (.int .i64 t.num) ∧ w'.cell? ⟨w.heap.size, 2, none⟩ = some (.slice ta t.kids.length tc))) _ := HH9.out
     refine hK.out _ _ (ph_one (by kernel_rfl) hS1') ?_
     clear hK K hS1
     have hS1 := hS1'
     clear hS1'
     try simp only [Act.put, List.setIfInBounds_toArray, List.set_cons_zero, List.set_cons_succ]
     refine AnyTwo.takeAny HT12 (i := 5) (oi := ⟨some 94, _, _, _, _, _⟩) (v := ?vHcacc5) rfl (by kernel_rfl) (by kernel_rfl) (by decide +kernel) (by rfl) (fun _ _ _ h => h) (Or.inl ⟨by rfl, ?yHcacc5⟩) (ph_one (by kernel_rfl) hS1) ?rHcacc5
     case yHcacc5 => (intro w hSw; (try dsimp only at hSw); go_simp; try (with_reducible rfl))
     try simp only [Act.put, List.setIfInBounds_toArray, List.set_cons_zero, List.set_cons_succ]
     refine AnyTwo.takeAny HT12 (i := 6) (oi := ⟨some 100, _, _, _, _, _⟩) (v := ?vHcacc6) rfl (by kernel_rfl) (by kernel_rfl) (by decide +kernel) (by rfl) (fun _ _ _ h => h) (Or.inl ⟨by rfl, ?yHcacc6⟩) (ph_one (by kernel_rfl) hS1) ?rHcacc6
     case yHcacc6 => (intro w hSw; (try dsimp only at hSw); go_simp; try (with_reducible rfl))
     try simp only [Act.put, List.setIfInBounds_toArray, List.set_cons_zero, List.set_cons_succ]
     refine AnyTwo.takeAny HT12 (i := 7) (oi := ⟨some 101, _, _, _, _, _⟩) (v := ?vHcacc7) rfl (by kernel_rfl) (by kernel_rfl) (by decide +kernel) (by rfl) (fun _ _ _ h => h) (Or.inl ⟨by rfl, ?yHcacc7⟩) (ph_one (by kernel_rfl) hS1) ?rHcacc7
     case yHcacc7 => (intro w hSw; (try dsimp only at hSw); go_simp; try (with_reducible rfl))
     try simp only [Act.put, List.setIfInBounds_toArray, List.set_cons_zero, List.set_cons_succ]
     refine AnyTwo.step (i := 9) (o := ⟨none, _, _, _, _, _⟩) (by kernel_rfl) rfl (fun K hK => ?_)
     go_simp
     have hS1' : (fun w' : World => Below wh0.heap.size wh0 w' ∧ (w.heap.size < w'.heap.size ∧ w'.cell? ⟨w.heap.size, 0, none⟩ = some (.int .i64 t.kind) ∧ w'.cell? ⟨w.heap.size, 1, none⟩ = some (.int .i64 t.num) ∧ w'.cell? ⟨w.heap.size, 2, none⟩ = some (.slice ta t.kids.length tc))) _ := hold1T_set3 HH9.out (gz := wql.heap.size) (x := .int .i64 R0.kind) (y := .int .i64 R0.num) (z := .slice a0 R0.kids.length c0) HZ0.out HXL.out
     refine hK.out _ _ (ph_one (by kernel_rfl) hS1') ?_
     clear hK K hS1
     have hS1 := hS1'
     clear hS1'
     try simp only [Act.put, List.setIfInBounds_toArray, List.set_cons_zero, List.set_cons_succ]
     refine AnyTwo.step (i := 10) (o := ⟨some 16, _, _, _, _, _⟩) (by kernel_rfl) rfl (fun K hK => ?_)
     go_simp
     refine hK.out _ _ (ph_end (by kernel_rfl) hS1) ?_
     clear hK K
     try simp only [Act.put, List.setIfInBounds_toArray, List.set_cons_zero, List.set_cons_succ]
     refine AnyTwo.done (by kernel_rfl) ?_ _
     go_wp2_with fail
     go_meet
     exact ⟨wql.heap.size, a0, c0, rfl, rfl, hold_be hS1, HZ.out.set3, HZ0.out, (tl_sl3 HW0.out HGL.out).mono (Nat.zero_le _)⟩
   ·skip
    go_simp
    have HZ := tuck (show VarAt wh0.heap.size 0 0 (.slice none 0 0) (wh0.alloc (.cells #[.int .i64 0, .int .i64 0, .slice none 0 0] 29)).drew from VarAt.new wh0 0 0 (.slice none 0 0))
    have HZ0 : Hid (wh0.heap.size ≤ wh0.heap.size) := tuck (Nat.le_refl _)
    have hS1' : (fun w' : World => Below wh0.heap.size wh0 w' ∧ (w.heap.size < w'.heap.size ∧ w'.cell? ⟨w.heap.size, 0, none⟩ = some (.int .i64 t.kind) ∧ w'.cell? ⟨w.heap.size, 1, none⟩ = some (.int .i64 t.num) ∧ w'.cell? ⟨w.heap.size, 2, none⟩ = some (.slice ta t.kids.length tc))) _ := ⟨(below1 wh0 (.cells #[.int .i64 0, .int .i64 0, .slice none 0 0] 29)).drew, HXt.out.below (below1 wh0 (.cells #[.int .i64 0, .int .i64 0, .slice none 0 0] 29)).drew⟩
    refine hK.out _ _ (ph_one (by kernel_rfl) hS1') ?_
    clear hK K hS1
    have hS1 := hS1'
    clear hS1'
    try simp only [Act.put, List.setIfInBounds_toArray, List.set_cons_zero, List.set_cons_succ]
    refine AnyTwo.step (i := 1) (o := ⟨some 96, _, _, _, _, _⟩) (by kernel_rfl) rfl (fun K hK => ?_)
    go_simp
    refine (HTOl.out _ (HSl.out.below (bAfter HB.out.be (hold_be hS1)))).mono ?_
    rintro e wql ⟨hbq, qal, qcl, FQ, rfl, hsx, -, -⟩
    have HQl := tuck (hsx.sl (B := 0) (fun _ _ => Nat.zero_le _))
    clear hsx
    replace HZ := tuck (HZ.out.below hbq)
    have hS1' : (fun w' : World => Below wh0.heap.size wh0 w' ∧ (w.heap.size < w'.heap.size ∧ w'.cell? ⟨w.heap.size, 0, none⟩ = some (.int .i64 t.kind) ∧ w'.cell? ⟨w.heap.size, 1, none⟩ = some (.int .i64 t.num) ∧ w'.cell? ⟨w.heap.size, 2, none⟩ = some (.slice ta t.kids.length tc))) _ := hold1T hS1 hbq
    refine hK.out _ _ (ph_one (by kernel_rfl) hS1') ?_
    clear hK K hS1
    have hS1 := hS1'
    clear hS1'
    try simp only [Act.put, List.setIfInBounds_toArray, List.set_cons_zero, List.set_cons_succ]
    clear hbq
    refine AnyTwo.step (i := 3) (o := ⟨some 98, _, _, _, _, _⟩) (by kernel_rfl) rfl (fun K hK => ?_)
    go_simp
    refine (HTOt.out _ (HSt.out.below (bAfter HB.out.be (hold_be hS1)))).mono ?_
    rintro e wqt ⟨hbq, qat, qct, FQ, rfl, hsx, -, -⟩
    have HQt := tuck (hsx.sl (B := 0) (fun _ _ => Nat.zero_le _))
    clear hsx
    replace HQl := tuck (HQl.out.below hbq)
    replace HZ := tuck (HZ.out.below hbq)
    have hS1' : (fun w' : World => Below wh0.heap.size wh0 w' ∧ (w.heap.size < w'.heap.size ∧ w'.cell? ⟨w.heap.size, 0, none⟩ = some (.int .i64 t.kind) ∧ w'.cell? ⟨w.heap.size, 1, none⟩ = some (.int .i64 t.num) ∧ w'.cell? ⟨w.heap.size, 2, none⟩ = some (.slice ta t.kids.length tc))) _ := hold1T hS1 hbq
    refine hK.out _ _ (ph_one (by kernel_rfl) hS1') ?_
    clear hK K hS1
    have hS1 := hS1'
    clear hS1'
    try simp only [Act.put, List.setIfInBounds_toArray, List.set_cons_zero, List.set_cons_succ]
    clear hbq
    refine AnyTwo.step (i := 4) (o := ⟨some 99, _, _, _, _, _⟩) (by kernel_rfl) rfl (fun K hK => ?_)
    go_simp
    have HGL := tuck HZ.out.facts.1
    refine (HIM.out _ _ _ HQl.out ⟨_, rfl, HQt.out⟩).mono ?_
    rintro e wr ⟨hbq, a0, c0, FQ0, rfl, hw0, -, hF⟩
    have HW0 := tuck (hw0.sl (fun g hg => (hF g (by simp [hg])).1))
    clear hF hw0
    have HH9 := tuck (hold1T hS1 hbq)
    replace HZ := tuck (HZ.out.below hbq)
    obtain ⟨zz, y0, y1, y2, yf⟩ := HZ.out.facts
    have hS1' : (fun w' : World => Below wh0.heap.size wh0 w' ∧ (w.heap.size < w'.heap.size ∧ w'.cell? ⟨w.heap.size, 0, none⟩ = some (.int .i64 t.kind) ∧ w'.cell? ⟨w.heap.size, 1, none⟩ = some (.int .i64 t.num) ∧ w'.cell? ⟨w.heap.size, 2, none⟩ = some (.slice ta t.kids.length tc))) _ := HH9.out
    refine hK.out _ _ (ph_one (by kernel_rfl) hS1') ?_
    clear hK K hS1
    have hS1 := hS1'
    clear hS1'
    try simp only [Act.put, List.setIfInBounds_toArray, List.set_cons_zero, List.set_cons_succ]
    refine AnyTwo.takeAny HT12 (i := 5) (oi := ⟨some 94, _, _, _, _, _⟩) (v := ?vHaccc5) rfl (by kernel_rfl) (by kernel_rfl) (by decide +kernel) (by rfl) (fun _ _ _ h => h) (Or.inl ⟨by rfl, ?yHaccc5⟩) (ph_one (by kernel_rfl) hS1) ?rHaccc5
    case yHaccc5 => (intro w hSw; (try dsimp only at hSw); go_simp; try (with_reducible rfl))
    try simp only [Act.put, List.setIfInBounds_toArray, List.set_cons_zero, List.set_cons_succ]
    refine AnyTwo.takeAny HT12 (i := 6) (oi := ⟨some 100, _, _, _, _, _⟩) (v := ?vHaccc6) rfl (by kernel_rfl) (by kernel_rfl) (by decide +kernel) (by rfl) (fun _ _ _ h => h) (Or.inl ⟨by rfl, ?yHaccc6⟩) (ph_one (by kernel_rfl) hS1) ?rHaccc6
    case yHaccc6 => (intro w hSw; (try dsimp only at hSw); go_simp; try (with_reducible rfl))
    try simp only [Act.put, List.setIfInBounds_toArray, List.set_cons_zero, List.set_cons_succ]
    refine AnyTwo.takeAny HT12 (i := 7) (oi := ⟨some 101, _, _, _, _, _⟩) (v := ?vHaccc7) rfl (by kernel_rfl) (by kernel_rfl) (by decide +kernel) (by rfl) (fun _ _ _ h => h) (Or.inl ⟨by rfl, ?yHaccc7⟩) (ph_one (by kernel_rfl) hS1) ?rHaccc7
    case yHaccc7 => (intro w hSw; (try dsimp only at hSw); go_simp; try (with_reducible rfl))
    try simp only [Act.put, List.setIfInBounds_toArray, List.set_cons_zero, List.set_cons_succ]
    refine AnyTwo.step (i := 9) (o := ⟨none, _, _, _, _, _⟩) (by kernel_rfl) rfl (fun K hK => ?_)
    go_simp
    have hS1' : (fun w' : World => Below wh0.heap.size wh0 w' ∧ (w.heap.size < w'.heap.size ∧ w'.cell? ⟨w.heap.size, 0, none⟩ = some (.int .i64 t.kind) ∧ w'.cell? ⟨w.heap.size, 1, none⟩ = some (.int .i64 t.num) ∧ w'.cell? ⟨w.heap.size, 2, none⟩ = some (.slice ta t.kids.length tc))) _ := hold1T_set3 HH9.out (gz := wh0.heap.size) (x := .int .i64 R0.kind) (y := .int .i64 R0.num) (z := .slice a0 R0.kids.length c0) HZ0.out HXL.out
    refine hK.out _ _ (ph_one (by kernel_rfl) hS1') ?_
    clear hK K hS1
    have hS1 := hS1'
    clear hS1'
    try simp only [Act.put, List.setIfInBounds_toArray, List.set_cons_zero, List.set_cons_succ]
    refine AnyTwo.step (i := 10) (o := ⟨some 16, _, _, _, _, _⟩) (by kernel_rfl) rfl (fun K hK => ?_)
    go_simp
    refine hK.out _ _ (ph_end (by kernel_rfl) hS1) ?_
    clear hK K
    try simp only [Act.put, List.setIfInBounds_toArray, List.set_cons_zero, List.set_cons_succ]
    refine AnyTwo.done (by kernel_rfl) ?_ _
    go_wp2_with fail
    go_meet
    exact ⟨wh0.heap.size, a0, c0, rfl, rfl, hold_be hS1, HZ.out.set3, HZ0.out, (tl_sl3 HW0.out HGL.out).mono (Nat.zero_le _)⟩
  case rest =>
   obtain ⟨gH, uHa0, uHc0, rfl, rfl, hb, hv8, hz8, hs0⟩ := hcut
   rename World => WH
   have HHW0 := tuck hs0
   have VH := tuck hv8
   replace HXt := tuck (HXt.out.below hb)
   replace HB := tuck (HB.out.below hb)
   replace V8 := tuck (V8.out.below hb)
   replace HBW := tuck (HBW.out.below hb)
   replace HOG0 := tuck (HOG0.out.below hb)
   replace VG := tuck (VG.out.below hb)
   clear hb hv8 hz8 hs0
   have HZH : Hid (gH < WH.heap.size) := tuck VH.out.facts.1
   clear zt c0t c1t c2t
   obtain ⟨zt, c0t, c1t, c2t⟩ := HXt.out
   obtain ⟨z8, b0, b1, b2, bf⟩ := V8.out.facts
   obtain ⟨z11, d0, d1, d2, df⟩ := VG.out.facts
   obtain ⟨zh, y0, y1, y2, yf⟩ := VH.out.facts
   go_wp2_with fail
   clear z8 b0 b1 b2 bf z11 d0 d1 d2 df zh y0 y1 y2 yf
   clear zt c0t c1t c2t
   refine (HEQR0.out _ _ _ ⟨_, rfl, HHW0.out⟩ ⟨_, rfl, H8W0.out.below HBW.out.be⟩).mono ?_
   rintro e wF0 ⟨rfl, hb⟩
   replace HXt := tuck (HXt.out.below hb)
   replace HB := tuck (HB.out.below hb)
   replace V8 := tuck (V8.out.below hb)
   replace HBW := tuck (HBW.out.below hb)
   replace HOG0 := tuck (HOG0.out.below hb)
   replace VG := tuck (VG.out.below hb)
   replace VH := tuck (VH.out.below hb)
   replace HHW0 := tuck (HHW0.out.below hb)
   clear hb
   obtain ⟨zt, c0t, c1t, c2t⟩ := HXt.out
   obtain ⟨z8, b0, b1, b2, bf⟩ := V8.out.facts
   obtain ⟨z11, d0, d1, d2, df⟩ := VG.out.facts
   obtain ⟨zh, y0, y1, y2, yf⟩ := VH.out.facts
   go_wp2_with fail
   clear z8 b0 b1 b2 bf z11 d0 d1 d2 df zh y0 y1 y2 yf
   clear zt c0t c1t c2t
   refine (heldT_any R0 R0.kids 0 (1) _ _ HM0.out.1 HM0.out.2 HOG0.out.sl).mono ?_
   rintro e wi0 ⟨rfl, hb⟩
   replace HXt := tuck (HXt.out.below hb)
   replace HB := tuck (HB.out.below hb)
   replace V8 := tuck (V8.out.below hb)
   replace HBW := tuck (HBW.out.below hb)
   replace HOG0 := tuck (HOG0.out.below hb)
   replace VG := tuck (VG.out.below hb)
   replace VH := tuck (VH.out.below hb)
   clear hb
   go_wp2_with fail
   go_ret
   exact ⟨rfl, HB.out.be⟩
set_option maxRecDepth 100000 in
theorem lifted (os : Os) (started : os.Started) (H : Type) (enc : TypeId × Value → H) :
  ReturnsInHanded {} Try.checked os 4 .any (Rows.fnExactLamOverSpec.pre6 enc Try.prog Try.f4 Rows.fnExactLamOverRow.domain false) (Rows.fnExactLamOverSpec.post enc Try.prog Try.f4 false true false false) := by
 refine returnsInHanded_of_change (C := Try.checked) own started (by kernel_rfl) Try.func4
  (ChangeSpec.witness6 (enc := enc) (C := Try.checked) false ⟨#[], #[.slice none 0 0, .agg #[.int .i64 0, .int .i64 0, .slice none 0 0]], []⟩ 8 (by kernel_rfl) (by kernel_rfl) (by kernel_rfl) (by kernel_rfl)) ?_
 intro W base args ds gs before hval0 hW hcnd _
 have hval : ∀ (j : Nat) t v, Try.f4.params[j]? = some t → args[j]? = some v → Value.okWide Try.prog W .any base t v := hval0
 have hW' := hW
 obtain ⟨p, q, hA0, hV, rfl, hfz, hnd⟩ := hW
 have hA : DataW.TrodAll enc Try.prog W 0 (fun _ => true) true Try.f4.params.toList args.toList ds p := hA0
 rw [Try.params4] at hA hval
 obtain ⟨v0, vs0, d0, ds0, p0, q0, hargs, rfl, rfl, h0, r0⟩ := trodAll_cons hA
 obtain ⟨v1, vs1, d1, ds1, p1, q1, rfl, rfl, rfl, h1, r1⟩ := trodAll_cons r0
 obtain ⟨rfl, rfl, rfl⟩ := trodAll_nil r1
 obtain rfl : args = #[v0, v1] := by cases args; simp_all
 obtain ⟨l0, hl0⟩ := open_terms (hval 0 22 v0 rfl rfl) h0
 obtain ⟨t1, ht1⟩ := open_term (hval 1 24 v1 rfl rfl) h1
 refine (walk l0 t1 W v0 v1 hl0 ht1).mono fun e W' ⟨he, hb⟩ => ?_
 subst he
 exact ⟨_, rfl, law_post rfl rfl (fun gs h => by subst h; rfl) (by rw [Try.params4]; exact readable_FnExactLamOver) laid hW' hb⟩
theorem over : Rows.fnExactLamOverRow.holds Try.pinned (OpenSpec.ofChange Rows.fnExactLamOverSpec) :=
 OpenClaim.holds_of_wide 4 Try.f4 rfl rfl rfl rfl rfl rfl rfl ⟨rfl, rfl, rfl, rfl, rfl⟩ rfl rfl rfl rfl rfl (by kernel_rfl) Try.func4 (by kernel_rfl)
  (of_decide_eq_true (by kernel_rfl)) (by unfold Func.isWrapper; first | (rw [if_pos (by decide +kernel)]; kernel_rfl) | (rw [if_neg (by decide +kernel)]; exact ⟨rfl, rfl⟩))
  (fun os started H enc _ => lifted os started H enc)
theorem proved : Rows.FnExactLamOverSaid :=
 over
end Go.Proofs.Ytakdfpoigjgcnaa.fnExactLamOver
