/-
  The law FnExactContextAt: for every list of terms, every term (no ring among their parts) and every list of numbers, ContextAt answers as its model, writes into no argument, and its answer is memory of its own.
-/
import Derived.Test.YtleijaegpfjnpaaB03
import Derived.Test.YtleijaegpfjnpaaB21
import Derived.Test.YtleijaegpfjnpaaB25
import Derived.Test.YtleijaegpfjnpaaB33
import Derived.Test.YtleijaegpfjnpaaB42
import Derived.Test.YtleijaegpfjnpaaB59
import Derived.Test.YtleijaegpfjnpaaB60
import Derived.Deep.DeepCutAuto
namespace Go.Proofs.Ytleijaegpfjnpaa.fnExactContextAt
open Go.ChangeShapes Go.WideShapes Go.ChangeAt Go.RowKit Go.Deep
set_option linter.unusedVariables false
theorem readable_FnExactContextAt : ∀ t ∈ (#[22, 24, 25] : Array TypeId).toList, Try.prog.readableRec t = true ∧ t < Try.prog.types.size := by
 intro t ht
 simp at ht
 rcases ht with rfl | rfl | rfl
 all_goals exact ⟨by kernel_rfl, of_decide_eq_true (by kernel_rfl)⟩
theorem laid : laidOutB Try.prog = true := by kernel_rfl
set_option maxRecDepth 100000 in
set_option maxHeartbeats 40000000 in
/-- The walk. -/
theorem walk (l : List Tm) (t : Tm) (Np : Int → Int) (lenp : Nat) (w : World) (vl : Value) (vt : Value) (vp : Value) (hl : SlIn w 0 l vl) (ht : TmIn w 0 t vt) (hp : Ints w 0 Np lenp vp) : Calls Try.prog 8 #[vl, vt, vp] w fun e w' => e = .returned (.bool true) ∧ Below w.heap.size w w' := by
 obtain ⟨la, lc, rfl⟩ := hl.form
 have HSl := tuck hl
 obtain ⟨st, rfl, ht⟩ := ht
 obtain ⟨ta, tc, rfl⟩ := ht.form
 have HSt := tuck ht
 obtain ⟨pa, pc, rfl⟩ := hp.form
 have HSp := tuck hp
 clear hl ht hp
 by_cases hlenp : lenp ≤ 1048576
 rotate_left
 ·have hlbp : decide ((1048576 : Int) < (lenp : Int)) = true := by simp; omega
  clear hlenp
  go_enter Try.func8, Try.ntmps8
  go_wp2
  go_ret
  exact ⟨rfl, below1 _ _⟩
 have hlbp : decide ((1048576 : Int) < (lenp : Int)) = false := by simp; omega
 have HSZl : Hid (∀ (w : World), SlIn w 0 l (.slice la l.length lc) → Calls Try.prog 30 #[(.slice la l.length lc), .int .i64 1048576] w (SzPost w (szV l 1048576))) := fun w h => szS_any l 1048576 w _ (by omega) (by omega) h
 by_cases hszl : (sizes l : Int) ≤ 1048576
 rotate_left
 ·rw [szV_not (by omega)] at HSZl
  clear hszl
  go_enter Try.func8, Try.ntmps8
  go_wp2_with fail
  refine (HSZl.out _ (HSl.out.below (below1 _ _))).mono ?_
  rintro e w1 ⟨rfl, hb⟩
  have HXt := tuck ((BoxAt.new w t.kind t.num (.slice ta t.kids.length tc) 24).below hb)
  have HB : Hid (Bel w w1) := tuck ⟨bAfter (below1 _ _) hb⟩
  clear hb
  obtain ⟨zt, c0t, c1t, c2t⟩ := HXt.out
  go_wp2_with fail
  go_ret
  exact ⟨rfl, HB.out.be⟩
 rw [szV_of (by omega)] at HSZl
 obtain ⟨left1, hleft1⟩ : ∃ left : Int, left = 1048576 - (sizes l : Int) := ⟨_, rfl⟩
 have hl1a : (0 : Int) ≤ left1 := by omega
 have hl1b : left1 ≤ 1048576 := by omega
 rw [← hleft1] at HSZl
 have HSZt : Hid (∀ (w : World), SlIn w 0 t.kids (.slice ta t.kids.length tc) → Calls Try.prog 9 #[.agg #[.int .i64 t.kind, .int .i64 t.num, (.slice ta t.kids.length tc)], .int .i64 left1] w (SzPost w (szV t.kids left1))) := fun w h => szT_any t left1 w _ hl1a hl1b ⟨_, rfl, h⟩
 by_cases hszt : (sizes t.kids : Int) ≤ left1
 rotate_left
 ·rw [szV_not (by omega)] at HSZt
  clear hszt hszl hleft1 hl1b
  go_enter Try.func8, Try.ntmps8
  go_wp2_with fail
  refine (HSZl.out _ (HSl.out.below (below1 _ _))).mono ?_
  rintro e w1 ⟨rfl, hb⟩
  have HXt := tuck ((BoxAt.new w t.kind t.num (.slice ta t.kids.length tc) 24).below hb)
  have HB : Hid (Bel w w1) := tuck ⟨bAfter (below1 _ _) hb⟩
  clear hb
  obtain ⟨zt, c0t, c1t, c2t⟩ := HXt.out
  go_wp2_with fail
  refine (HSZt.out _ (HSt.out.below HB.out.be)).mono ?_
  rintro e w2 ⟨rfl, hb⟩
  replace HXt := tuck (HXt.out.below hb)
  replace HB := tuck (HB.out.below hb)
  clear hb
  clear zt c0t c1t c2t
  obtain ⟨zt, c0t, c1t, c2t⟩ := HXt.out
  go_wp2_with fail
  go_ret
  exact ⟨rfl, HB.out.be⟩
 rw [szV_of (by omega)] at HSZt
 obtain ⟨left2, hleft2⟩ : ∃ left : Int, left = left1 - (sizes t.kids : Int) := ⟨_, rfl⟩
 have hl2a : (0 : Int) ≤ left2 := by omega
 have hl2b : left2 ≤ 1048576 := by omega
 rw [← hleft2] at HSZt
 obtain ⟨R0, hR0⟩ : ∃ R : List Tm, R = orNil (CtxOk l t Np lenp) (ctxOf l t Np lenp) := ⟨_, rfl⟩
 obtain ⟨R1, hR1⟩ : ∃ R : Bool, R = tr (CtxOk l t Np lenp) := ⟨_, rfl⟩
 have HSP : Hid (∀ (w : World) (vl : Value) (vt : Value) (vp : Value), SlIn w 0 l vl → TmIn w 0 t vt → Ints w 0 Np lenp vp → Calls Try.prog 31 #[vl, vt, vp] w (fun e w' => Below w.heap.size w w' ∧ ∃ (a0 : Option Addr) (c0 : Nat), e = .returned (.tuple #[.slice a0 R0.length c0, .bool R1]) ∧ SlIn w' w.heap.size R0 (.slice a0 R0.length c0))) := fun w vl vt vp hl ht hp => by subst hR0; subst hR1; exact contextS_any l t Np lenp hlenp w vl vt vp hl ht hp
 have HIM : Hid (∀ (w : World) (vl : Value) (vt : Value) (vp : Value), SlIn w 0 l vl → TmIn w 0 t vt → Ints w 0 Np lenp vp → Calls Try.prog 33 #[vl, vt, vp] w (fun e w' => Below w.heap.size w w' ∧ ∃ (a0 : Option Addr) (c0 : Nat) (F0 : List Nat), e = .returned (.tuple #[.slice a0 R0.length c0, .bool R1]) ∧ SlOwn w' R0 (.slice a0 R0.length c0) F0 ∧ (F0).Nodup ∧ ∀ g ∈ F0, w.heap.size ≤ g ∧ g < w'.heap.size)) := fun w vl vt vp hl ht hp => by subst hR0; subst hR1; exact contextI_any l t Np lenp hlenp w vl vt vp hl ht hp
 have hszR0 : sizes R0 ≤ 1000000 := by subst hR0; subst hR1; exact ctxOf_sizes l t Np lenp
 clear hR0 hR1
 have HTOl : Hid (∀ (w : World), SlIn w 0 l (.slice la l.length lc) → Calls Try.prog 32 #[(.slice la l.length lc)] w fun e w' => Below w.heap.size w w' ∧ ∃ a c F, e = .returned (.slice a l.length c) ∧ SlOwn w' l (.slice a l.length c) F ∧ F.Nodup ∧ ∀ g ∈ F, w.heap.size ≤ g ∧ g < w'.heap.size) := fun w h => toSo_made l w _ (by omega) h
 have HEQl : Hid (∀ (w : World) (v1 v2 : Value), SlIn w 0 l v1 → SlIn w 0 l v2 → Calls Try.prog 34 #[v1, v2] w (EqPost w true)) := fun w v1 v2 h1 h2 => by have := eqS_any l l w v1 v2 h1 h2; rwa [same_self] at this
 have HTOt : Hid (∀ (w : World), SlIn w 0 t.kids (.slice ta t.kids.length tc) → Calls Try.prog 11 #[.agg #[.int .i64 t.kind, .int .i64 t.num, (.slice ta t.kids.length tc)]] w fun e w' => Below w.heap.size w w' ∧ ∃ a c F, e = .returned (.agg #[.int .i64 t.kind, .int .i64 t.num, .slice a t.kids.length c]) ∧ SlOwn w' t.kids (.slice a t.kids.length c) F ∧ F.Nodup ∧ ∀ g ∈ F, w.heap.size ≤ g ∧ g < w'.heap.size) := fun w h => toO_made t w _ (by omega) ⟨_, rfl, h⟩
 have HEQt : Hid (∀ (w : World) (v1 v2 : Value), TmIn w 0 t v1 → TmIn w 0 t v2 → Calls Try.prog 14 #[v1, v2] w (EqPost w true)) := fun w v1 v2 h1 h2 => by have := eqT_any t t w v1 v2 h1 h2; rwa [same_self] at this
 have HTOp : Hid (∀ (w : World), Ints w 0 Np lenp (.slice pa lenp pc) → Calls Try.prog 12 #[(.slice pa lenp pc)] w (ToInts w Np lenp)) := fun w h => toInts_any Np lenp w _ hlenp h
 have HEQp : Hid (∀ (w : World) (v1 v2 : Value), Ints w 0 Np lenp v1 → Ints w 0 Np lenp v2 → Calls Try.prog 15 #[v1, v2] w (EqPost w true)) := fun w v1 v2 h1 h2 => eqInts_any Np lenp w v1 v2 hlenp h1 h2
 have HEQR0 : Hid (∀ (w : World) (v1 v2 : Value), SlIn w 0 R0 v1 → SlIn w 0 R0 v2 → Calls Try.prog 34 #[v1, v2] w (EqPost w true)) := fun w v1 v2 h1 h2 => by have := eqS_any R0 R0 w v1 v2 h1 h2; rwa [same_self] at this
 have hrr1 : (R1 != R1) = false := by simp
 have hkl : (0 : Int) ≤ 1 ∧ (1 : Int) + 2 * (sizes l : Int) ≤ 4611686018427387904 := by omega
 have HKl := tuck hkl
 have hkt : (0 : Int) ≤ (1 : Int) + 2 * (sizes l : Int) ∧ (1 : Int) + 2 * (sizes l : Int) + 2 * (sizes t.kids : Int) ≤ 4611686018427387904 := by omega
 have HKt := tuck hkt
 have hkp : (0 : Int) ≤ (1 : Int) + 2 * (sizes l : Int) + 2 * (sizes t.kids : Int) ∧ (1 : Int) + 2 * (sizes l : Int) + 2 * (sizes t.kids : Int) + (lenp : Int) ≤ 4611686018427387904 := by omega
 have HKp := tuck hkp
 have hkend : ¬ ((1 : Int) + 2 * (sizes l : Int) + 2 * (sizes t.kids : Int) + (lenp : Int)) < 0 := by omega
 have hm0 : (0 : Int) ≤ 1 ∧ (1 : Int) + 2 * (sizes R0 : Int) ≤ 4611686018427387904 := by omega
 have HM0 := tuck hm0
 have hmn0 : ¬ ((1 : Int) + 2 * (sizes R0 : Int)) < 0 := by omega
 clear hszR0 hszl hszt hleft1 hleft2 hl1b hl2b hkl hkt hkp hm0
 have HLENp := tuck hlenp
 clear hlenp
 go_enter Try.func8, Try.ntmps8
 go_wp2_with fail
 refine (HSZl.out _ (HSl.out.below (below1 _ _))).mono ?_
 rintro e w1 ⟨rfl, hb⟩
 have HXt := tuck ((BoxAt.new w t.kind t.num (.slice ta t.kids.length tc) 24).below hb)
 have HB : Hid (Bel w w1) := tuck ⟨bAfter (below1 _ _) hb⟩
 clear hb
 obtain ⟨zt, c0t, c1t, c2t⟩ := HXt.out
 go_wp2_with fail
 refine (HSZt.out _ (HSt.out.below HB.out.be)).mono ?_
 rintro e w2 ⟨rfl, hb⟩
 replace HXt := tuck (HXt.out.below hb)
 replace HB := tuck (HB.out.below hb)
 clear hb
 clear zt c0t c1t c2t
 obtain ⟨zt, c0t, c1t, c2t⟩ := HXt.out
 go_upto_region 10 with fail
 go_cut [8, 9] (fun p0 p1 wx => ∃ (a0 : Option Addr) (c0 : Nat), p0 = .slice a0 R0.length c0 ∧ p1 = .bool R1 ∧ Below w2.heap.size w2 wx ∧ SlIn wx 0 R0 (.slice a0 R0.length c0))
 case first =>
  have HT12 : ∀ w' : World, (fun w' : World => Below w2.heap.size w2 w' ∧ (w.heap.size < w'.heap.size ∧ w'.cell? ⟨w.heap.size, 0, none⟩ = some (.int .i64 t.kind) ∧ w'.cell? ⟨w.heap.size, 1, none⟩ = some (.int .i64 t.num) ∧ w'.cell? ⟨w.heap.size, 2, none⟩ = some (.slice ta t.kids.length tc))) w' → (fun w' : World => Below w2.heap.size w2 w' ∧ (w.heap.size < w'.heap.size ∧ w'.cell? ⟨w.heap.size, 0, none⟩ = some (.int .i64 t.kind) ∧ w'.cell? ⟨w.heap.size, 1, none⟩ = some (.int .i64 t.num) ∧ w'.cell? ⟨w.heap.size, 2, none⟩ = some (.slice ta t.kids.length tc))) w' := fun w' h => h
  refine AnyTwo.begin (fun w' : World => Below w2.heap.size w2 w' ∧ (w.heap.size < w'.heap.size ∧ w'.cell? ⟨w.heap.size, 0, none⟩ = some (.int .i64 t.kind) ∧ w'.cell? ⟨w.heap.size, 1, none⟩ = some (.int .i64 t.num) ∧ w'.cell? ⟨w.heap.size, 2, none⟩ = some (.slice ta t.kids.length tc))) (fun w' : World => Below w2.heap.size w2 w' ∧ (w.heap.size < w'.heap.size ∧ w'.cell? ⟨w.heap.size, 0, none⟩ = some (.int .i64 t.kind) ∧ w'.cell? ⟨w.heap.size, 1, none⟩ = some (.int .i64 t.num) ∧ w'.cell? ⟨w.heap.size, 2, none⟩ = some (.slice ta t.kids.length tc))) 11 (by kernel_rfl) ?_
  have hS1 : (fun w' : World => Below w2.heap.size w2 w' ∧ (w.heap.size < w'.heap.size ∧ w'.cell? ⟨w.heap.size, 0, none⟩ = some (.int .i64 t.kind) ∧ w'.cell? ⟨w.heap.size, 1, none⟩ = some (.int .i64 t.num) ∧ w'.cell? ⟨w.heap.size, 2, none⟩ = some (.slice ta t.kids.length tc))) w2.drew := ⟨(Below.refl _ _).drew, HXt.out⟩
  have HXL : Hid (w.heap.size < w2.heap.size) := tuck HXt.out.1
  refine AnyTwo.takeAny HT12 (i := 0) (oi := ⟨some 34, _, _, _, _, _⟩) (v := ?v80) rfl (by kernel_rfl) (by kernel_rfl) (by decide +kernel) (by rfl) (fun _ _ _ h => h) (Or.inl ⟨by rfl, ?y80⟩) (ph_one (by kernel_rfl) hS1) ?r80
  case y80 => (intro w hSw; (try dsimp only at hSw); go_simp; try (with_reducible rfl))
  try simp only [Act.put, List.setIfInBounds_toArray, List.set_cons_zero, List.set_cons_succ]
  refine AnyTwo.takeAny HT12 (i := 2) (oi := ⟨some 36, _, _, _, _, _⟩) (v := ?v82) rfl (by kernel_rfl) (by kernel_rfl) (by decide +kernel) (by rfl) (fun _ _ _ h => h) (Or.inl ⟨by rfl, ?y82⟩) (ph_one (by kernel_rfl) hS1) ?r82
  case y82 => (intro w hSw; (try dsimp only at hSw); go_simp; try (with_reducible rfl))
  try simp only [Act.put, List.setIfInBounds_toArray, List.set_cons_zero, List.set_cons_succ]
  refine AnyTwo.takeAny HT12 (i := 4) (oi := ⟨some 38, _, _, _, _, _⟩) (v := ?v84) rfl (by kernel_rfl) (by kernel_rfl) (by decide +kernel) (by rfl) (fun _ _ _ h => h) (Or.inl ⟨by rfl, ?y84⟩) (ph_one (by kernel_rfl) hS1) ?r84
  case y84 => (intro w hSw; (try dsimp only at hSw); go_simp; try (with_reducible rfl))
  try simp only [Act.put, List.setIfInBounds_toArray, List.set_cons_zero, List.set_cons_succ]
  refine AnyTwo.step (i := 1) (o := ⟨some 35, _, _, _, _, _⟩) (by kernel_rfl) rfl (fun K hK => ?_)
  go_simp
  refine (HTOl.out _ (HSl.out.below (bAfter HB.out.be (hold_be hS1)))).mono ?_
  rintro e wql ⟨hbq, qal, qcl, FQ, rfl, hsx, -, -⟩
  have HQl := tuck (hsx.sl (B := 0) (fun _ _ => Nat.zero_le _))
  clear hsx
  have hS1' : (fun w' : World => Below w2.heap.size w2 w' ∧ (w.heap.size < w'.heap.size ∧ w'.cell? ⟨w.heap.size, 0, none⟩ = some (.int .i64 t.kind) ∧ w'.cell? ⟨w.heap.size, 1, none⟩ = some (.int .i64 t.num) ∧ w'.cell? ⟨w.heap.size, 2, none⟩ = some (.slice ta t.kids.length tc))) _ := hold1T hS1 hbq
  refine hK.out _ _ (ph_one (by kernel_rfl) hS1') ?_
  clear hK K hS1
  have hS1 := hS1'
  clear hS1'
  try simp only [Act.put, List.setIfInBounds_toArray, List.set_cons_zero, List.set_cons_succ]
  clear hbq
  refine AnyTwo.step (i := 3) (o := ⟨some 37, _, _, _, _, _⟩) (by kernel_rfl) rfl (fun K hK => ?_)
  go_simp
  refine (HTOt.out _ (HSt.out.below (bAfter HB.out.be (hold_be hS1)))).mono ?_
  rintro e wqt ⟨hbq, qat, qct, FQ, rfl, hsx, -, -⟩
  have HQt := tuck (hsx.sl (B := 0) (fun _ _ => Nat.zero_le _))
  clear hsx
  replace HQl := tuck (HQl.out.below hbq)
  have hS1' : (fun w' : World => Below w2.heap.size w2 w' ∧ (w.heap.size < w'.heap.size ∧ w'.cell? ⟨w.heap.size, 0, none⟩ = some (.int .i64 t.kind) ∧ w'.cell? ⟨w.heap.size, 1, none⟩ = some (.int .i64 t.num) ∧ w'.cell? ⟨w.heap.size, 2, none⟩ = some (.slice ta t.kids.length tc))) _ := hold1T hS1 hbq
  refine hK.out _ _ (ph_one (by kernel_rfl) hS1') ?_
  clear hK K hS1
  have hS1 := hS1'
  clear hS1'
  try simp only [Act.put, List.setIfInBounds_toArray, List.set_cons_zero, List.set_cons_succ]
  clear hbq
  refine AnyTwo.step (i := 5) (o := ⟨some 39, _, _, _, _, _⟩) (by kernel_rfl) rfl (fun K hK => ?_)
  go_simp
  refine (HTOp.out _ (HSp.out.below (bAfter HB.out.be (hold_be hS1)))).mono ?_
  rintro e wqp ⟨hbq, v, rfl, hio⟩
  obtain rfl := hio.form
  have HQp := tuck (hio.ints.mono (Nat.zero_le _))
  clear hio
  replace HQl := tuck (HQl.out.below hbq)
  replace HQt := tuck (HQt.out.below hbq)
  have hS1' : (fun w' : World => Below w2.heap.size w2 w' ∧ (w.heap.size < w'.heap.size ∧ w'.cell? ⟨w.heap.size, 0, none⟩ = some (.int .i64 t.kind) ∧ w'.cell? ⟨w.heap.size, 1, none⟩ = some (.int .i64 t.num) ∧ w'.cell? ⟨w.heap.size, 2, none⟩ = some (.slice ta t.kids.length tc))) _ := hold1T hS1 hbq
  refine hK.out _ _ (ph_one (by kernel_rfl) hS1') ?_
  clear hK K hS1
  have hS1 := hS1'
  clear hS1'
  try simp only [Act.put, List.setIfInBounds_toArray, List.set_cons_zero, List.set_cons_succ]
  clear hbq
  refine AnyTwo.step (i := 6) (o := ⟨some 40, _, _, _, _, _⟩) (by kernel_rfl) rfl (fun K hK => ?_)
  go_simp
  refine (HSP.out _ _ _ _ HQl.out ⟨_, rfl, HQt.out⟩ HQp.out).mono ?_
  rintro e wr ⟨hbq, a0, c0, rfl, hw0⟩
  have HW0 := tuck hw0
  clear hw0
  have HH9 := tuck (hold1T hS1 hbq)
  have hS1' : (fun w' : World => Below w2.heap.size w2 w' ∧ (w.heap.size < w'.heap.size ∧ w'.cell? ⟨w.heap.size, 0, none⟩ = some (.int .i64 t.kind) ∧ w'.cell? ⟨w.heap.size, 1, none⟩ = some (.int .i64 t.num) ∧ w'.cell? ⟨w.heap.size, 2, none⟩ = some (.slice ta t.kids.length tc))) _ := HH9.out
  refine hK.out _ _ (ph_one (by kernel_rfl) hS1') ?_
  clear hK K hS1
  have hS1 := hS1'
  clear hS1'
  try simp only [Act.put, List.setIfInBounds_toArray, List.set_cons_zero, List.set_cons_succ]
  refine AnyTwo.takeAny HT12 (i := 7) (oi := ⟨some 33, _, _, _, _, _⟩) (v := ?v8cccc7) rfl (by kernel_rfl) (by kernel_rfl) (by decide +kernel) (by rfl) (fun _ _ _ h => h) (Or.inl ⟨by rfl, ?y8cccc7⟩) (ph_one (by kernel_rfl) hS1) ?r8cccc7
  case y8cccc7 => (intro w hSw; (try dsimp only at hSw); go_simp; try (with_reducible rfl))
  try simp only [Act.put, List.setIfInBounds_toArray, List.set_cons_zero, List.set_cons_succ]
  refine AnyTwo.takeAny HT12 (i := 8) (oi := ⟨some 41, _, _, _, _, _⟩) (v := ?v8cccc8) rfl (by kernel_rfl) (by kernel_rfl) (by decide +kernel) (by rfl) (fun _ _ _ h => h) (Or.inl ⟨by rfl, ?y8cccc8⟩) (ph_one (by kernel_rfl) hS1) ?r8cccc8
  case y8cccc8 => (intro w hSw; (try dsimp only at hSw); go_simp; try (with_reducible rfl))
  try simp only [Act.put, List.setIfInBounds_toArray, List.set_cons_zero, List.set_cons_succ]
  refine AnyTwo.takeAny HT12 (i := 9) (oi := ⟨some 42, _, _, _, _, _⟩) (v := ?v8cccc9) rfl (by kernel_rfl) (by kernel_rfl) (by decide +kernel) (by rfl) (fun _ _ _ h => h) (Or.inl ⟨by rfl, ?y8cccc9⟩) (ph_one (by kernel_rfl) hS1) ?r8cccc9
  case y8cccc9 => (intro w hSw; (try dsimp only at hSw); go_simp; try (with_reducible rfl))
  try simp only [Act.put, List.setIfInBounds_toArray, List.set_cons_zero, List.set_cons_succ]
  refine AnyTwo.step (i := 10) (o := ⟨some 8, _, _, _, _, _⟩) (by kernel_rfl) rfl (fun K hK => ?_)
  go_simp
  refine hK.out _ _ (ph_one (by kernel_rfl) hS1) ?_
  clear hK K
  try simp only [Act.put, List.setIfInBounds_toArray, List.set_cons_zero, List.set_cons_succ]
  refine AnyTwo.step (i := 11) (o := ⟨some 9, _, _, _, _, _⟩) (by kernel_rfl) rfl (fun K hK => ?_)
  go_simp
  refine hK.out _ _ (ph_end (by kernel_rfl) hS1) ?_
  clear hK K
  try simp only [Act.put, List.setIfInBounds_toArray, List.set_cons_zero, List.set_cons_succ]
  refine AnyTwo.done (by kernel_rfl) ?_ _
  go_wp2_with fail
  go_meet
  exact ⟨a0, c0, rfl, rfl, hold_be hS1, HW0.out.mono (Nat.zero_le _)⟩
 case rest =>
  obtain ⟨u8a0, u8c0, rfl, rfl, hb, hs0⟩ := hcut
  rename World => W8
  have H8W0 := tuck hs0
  replace HXt := tuck (HXt.out.below hb)
  replace HB := tuck (HB.out.below hb)
  clear hb hs0
  clear zt c0t c1t c2t
  obtain ⟨zt, c0t, c1t, c2t⟩ := HXt.out
  go_wp2_with fail
  clear zt c0t c1t c2t
  have HBW : Hid (Bel W8 W8) := tuck ⟨Below.refl _ _⟩
  have HL1t : Hid (w.heap.size < W8.heap.size) := tuck HXt.out.1
  have HL0 : Hid (w.heap.size ≤ W8.heap.size) := tuck HB.out.be.size
  refine (HTOl.out _ (HSl.out.below HB.out.be)).mono ?_
  rintro e wxl ⟨hb, uxla, uxlc, Fl, rfl, hsx, hnx, hFx⟩
  have HOl := tuck (OwnB.of hsx hnx hFx)
  have HNl := tuck hb.size
  replace HXt := tuck (HXt.out.below hb)
  replace HB := tuck (HB.out.below hb)
  replace HBW := tuck (HBW.out.below hb)
  clear hb hsx hnx hFx
  obtain ⟨zt, c0t, c1t, c2t⟩ := HXt.out
  go_wp2_with fail
  clear zt c0t c1t c2t
  refine (HTOt.out _ (HSt.out.below HB.out.be)).mono ?_
  rintro e wxt ⟨hb, uxta, uxtc, Ft, rfl, hsx, hnx, hFx⟩
  have HOt := tuck (OwnB.of hsx hnx hFx)
  have HNt := tuck hb.size
  replace HXt := tuck (HXt.out.below hb)
  replace HB := tuck (HB.out.below hb)
  replace HBW := tuck (HBW.out.below hb)
  replace HOl := tuck (HOl.out.below hb)
  clear hb hsx hnx hFx
  obtain ⟨zt, c0t, c1t, c2t⟩ := HXt.out
  go_wp2_with fail
  clear zt c0t c1t c2t
  have hbx := below1 wxt (.cells #[.int .i64 t.kind, .int .i64 t.num, .slice uxta t.kids.length uxtc] 29)
  have VXt := tuck (VarAt.new wxt t.kind t.num (.slice uxta t.kids.length uxtc))
  have hzz : wxt.heap.size < (wxt.alloc (.cells #[.int .i64 t.kind, .int .i64 t.num, .slice uxta t.kids.length uxtc] 29)).heap.size := by simp
  replace HXt := tuck (HXt.out.below hbx)
  replace HB := tuck (HB.out.below hbx)
  replace HBW := tuck (HBW.out.below hbx)
  replace HOl := tuck (HOl.out.below hbx)
  replace HOt := tuck (HOt.out.below hbx)
  clear hbx
  generalize wxt.alloc (.cells #[.int .i64 t.kind, .int .i64 t.num, .slice uxta t.kids.length uxtc] 29) = WXt at *
  generalize wxt.heap.size = gxt at *
  have HZXt := tuck hzz
  clear hzz
  refine (HTOp.out _ (HSp.out.below HB.out.be)).mono ?_
  rintro e wxp ⟨hb, v, rfl, hio⟩
  obtain rfl := hio.form
  have HOp := tuck hio
  have HLp := tuck hio.lt
  have HNp := tuck hb.size
  replace HXt := tuck (HXt.out.below hb)
  replace HB := tuck (HB.out.below hb)
  replace HBW := tuck (HBW.out.below hb)
  replace HOl := tuck (HOl.out.below hb)
  replace HOt := tuck (HOt.out.below hb)
  replace VXt := tuck (VXt.out.below hb)
  clear hb hio
  obtain ⟨zt, c0t, c1t, c2t⟩ := HXt.out
  obtain ⟨zxt, x0t, x1t, x2t, xft⟩ := VXt.out.facts
  go_wp2_with fail
  clear zxt x0t x1t x2t xft
  clear zt c0t c1t c2t
  refine (HIM.out _ _ _ _ HOl.out.sl ⟨_, rfl, HOt.out.sl⟩ (HOp.out.ints.mono (Nat.zero_le _))).mono ?_
  rintro e wG ⟨hb, Ga0, Gc0, FG0, rfl, hw0, hnd, hF⟩
  have HOG0 := tuck (OwnB.of hw0 hnd hF)
  have HNG := tuck hb.size
  replace HXt := tuck (HXt.out.below hb)
  replace HB := tuck (HB.out.below hb)
  replace HBW := tuck (HBW.out.below hb)
  replace HOl := tuck (HOl.out.below hb)
  replace HOt := tuck (HOt.out.below hb)
  replace VXt := tuck (VXt.out.below hb)
  replace HOp := tuck (HOp.out.below hb)
  clear hb hnd hF hw0
  obtain ⟨zt, c0t, c1t, c2t⟩ := HXt.out
  obtain ⟨zxt, x0t, x1t, x2t, xft⟩ := VXt.out.facts
  go_wp2_with fail
  clear zxt x0t x1t x2t xft
  clear zt c0t c1t c2t
  refine (HEQR0.out _ _ _ (HOG0.out.sl) (H8W0.out.below HBW.out.be)).mono ?_
  rintro e wE0 ⟨rfl, hb⟩
  replace HXt := tuck (HXt.out.below hb)
  replace HB := tuck (HB.out.below hb)
  replace HBW := tuck (HBW.out.below hb)
  replace HOl := tuck (HOl.out.below hb)
  replace HOt := tuck (HOt.out.below hb)
  replace VXt := tuck (VXt.out.below hb)
  replace HOp := tuck (HOp.out.below hb)
  replace HOG0 := tuck (HOG0.out.below hb)
  clear hb
  obtain ⟨zt, c0t, c1t, c2t⟩ := HXt.out
  obtain ⟨zxt, x0t, x1t, x2t, xft⟩ := VXt.out.facts
  go_wp2_with fail
  clear zxt x0t x1t x2t xft
  clear zt c0t c1t c2t
  refine (HTOl.out _ (HSl.out.below HB.out.be)).mono ?_
  rintro e w73l ⟨hb, uyla, uylc, FUl, rfl, hsx, hnx, hFx⟩
  have Hyl := tuck (hsx.sl (B := 0) (fun _ _ => Nat.zero_le _))
  replace HXt := tuck (HXt.out.below hb)
  replace HB := tuck (HB.out.below hb)
  replace HBW := tuck (HBW.out.below hb)
  replace HOl := tuck (HOl.out.below hb)
  replace HOt := tuck (HOt.out.below hb)
  replace VXt := tuck (VXt.out.below hb)
  replace HOp := tuck (HOp.out.below hb)
  replace HOG0 := tuck (HOG0.out.below hb)
  clear hb hsx hnx hFx
  obtain ⟨zt, c0t, c1t, c2t⟩ := HXt.out
  obtain ⟨zxt, x0t, x1t, x2t, xft⟩ := VXt.out.facts
  go_wp2_with fail
  clear zxt x0t x1t x2t xft
  clear zt c0t c1t c2t
  refine (HEQl.out _ _ _ HOl.out.sl Hyl.out).mono ?_
  rintro e w74l ⟨rfl, hb⟩
  replace HXt := tuck (HXt.out.below hb)
  replace HB := tuck (HB.out.below hb)
  replace HBW := tuck (HBW.out.below hb)
  replace HOl := tuck (HOl.out.below hb)
  replace HOt := tuck (HOt.out.below hb)
  replace VXt := tuck (VXt.out.below hb)
  replace HOp := tuck (HOp.out.below hb)
  replace HOG0 := tuck (HOG0.out.below hb)
  clear hb Hyl
  obtain ⟨zt, c0t, c1t, c2t⟩ := HXt.out
  obtain ⟨zxt, x0t, x1t, x2t, xft⟩ := VXt.out.facts
  go_wp2_with fail
  clear zxt x0t x1t x2t xft
  clear zt c0t c1t c2t
  go_region_held3 (fun w' => Below w74l.heap.size w74l w' ∧ (w.heap.size < w'.heap.size ∧ w'.cell? ⟨w.heap.size, 0, none⟩ = some (.int .i64 t.kind) ∧ w'.cell? ⟨w.heap.size, 1, none⟩ = some (.int .i64 t.num) ∧ w'.cell? ⟨w.heap.size, 2, none⟩ = some (.slice ta t.kids.length tc)) ∧ (gxt < w'.heap.size ∧ w'.cell? ⟨gxt, 0, none⟩ = some (.int .i64 t.kind) ∧ w'.cell? ⟨gxt, 1, none⟩ = some (.int .i64 t.num) ∧ w'.cell? ⟨gxt, 2, none⟩ = some (.slice uxta t.kids.length uxtc))) (first | exact ⟨(Below.refl _ _).drew, HXt.out, VXt.out.four⟩ | exact holdT (by assumption) hb71 | exact holdT (by assumption) hb72) (first | (go_at_call 11; refine (HTOt.out _ (HSt.out.below (bAfter HB.out.be (hold_be (by assumption))))).mono ?_; rintro e w71t ⟨hb71, qa, qc, F71, rfl, hs71, -, -⟩) | (go_at_call 14; refine (HEQt.out _ _ _ ⟨_, rfl, HOt.out.sl.below (hold_be (by assumption))⟩ ⟨_, rfl, hs71.sl (fun _ _ => Nat.zero_le _)⟩).mono ?_; rintro e w72t ⟨rfl, hb72⟩))
  have hb : Below w74l.heap.size w74l w72t := hold_be (by assumption)
  replace HXt := tuck (HXt.out.below hb)
  replace HB := tuck (HB.out.below hb)
  replace HBW := tuck (HBW.out.below hb)
  replace HOl := tuck (HOl.out.below hb)
  replace HOt := tuck (HOt.out.below hb)
  replace VXt := tuck (VXt.out.below hb)
  replace HOp := tuck (HOp.out.below hb)
  replace HOG0 := tuck (HOG0.out.below hb)
  clear hb hb71 hb72 hs71
  obtain ⟨zt, c0t, c1t, c2t⟩ := HXt.out
  obtain ⟨zxt, x0t, x1t, x2t, xft⟩ := VXt.out.facts
  go_wp2_with fail
  clear zxt x0t x1t x2t xft
  clear zt c0t c1t c2t
  refine (HTOp.out _ (HSp.out.below HB.out.be)).mono ?_
  rintro e w73p ⟨hb, v, rfl, hio⟩
  obtain rfl := hio.form
  have Hyp := tuck (hio.ints.mono (Nat.zero_le _))
  replace HXt := tuck (HXt.out.below hb)
  replace HB := tuck (HB.out.below hb)
  replace HBW := tuck (HBW.out.below hb)
  replace HOl := tuck (HOl.out.below hb)
  replace HOt := tuck (HOt.out.below hb)
  replace VXt := tuck (VXt.out.below hb)
  replace HOp := tuck (HOp.out.below hb)
  replace HOG0 := tuck (HOG0.out.below hb)
  clear hb hio
  obtain ⟨zt, c0t, c1t, c2t⟩ := HXt.out
  obtain ⟨zxt, x0t, x1t, x2t, xft⟩ := VXt.out.facts
  go_wp2_with fail
  clear zxt x0t x1t x2t xft
  clear zt c0t c1t c2t
  refine (HEQp.out _ _ _ (HOp.out.ints.mono (Nat.zero_le _)) Hyp.out).mono ?_
  rintro e w74p ⟨rfl, hb⟩
  replace HXt := tuck (HXt.out.below hb)
  replace HB := tuck (HB.out.below hb)
  replace HBW := tuck (HBW.out.below hb)
  replace HOl := tuck (HOl.out.below hb)
  replace HOt := tuck (HOt.out.below hb)
  replace VXt := tuck (VXt.out.below hb)
  replace HOp := tuck (HOp.out.below hb)
  replace HOG0 := tuck (HOG0.out.below hb)
  clear hb Hyp
  obtain ⟨zt, c0t, c1t, c2t⟩ := HXt.out
  obtain ⟨zxt, x0t, x1t, x2t, xft⟩ := VXt.out.facts
  go_wp2_with fail
  clear zxt x0t x1t x2t xft
  clear zt c0t c1t c2t
  have geHOl := HOl.out.ge
  have ltHOl := HOl.out.lt
  have geHOt := HOt.out.ge
  have ltHOt := HOt.out.lt
  have geHOG0 := HOG0.out.ge
  have ltHOG0 := HOG0.out.lt
  refine (markL_but l Fl (1) _ _ HKl.out.1 HKl.out.2 HOl.out.nd HOl.out.own).mono ?_
  rintro e wml ⟨rfl, hown, hbut⟩
  have e0 := HL1t.out; have e1 := HL0.out; have e2 := HNl.out; have e3 := HNt.out; have e4 := HZXt.out; have e5 := HNp.out; have e6 := HLp.out; have e7 := HNG.out
  skip
  replace HXt := tuck (HXt.out.but hbut (fun hf => by have h1 := geHOl _ hf; have h2 := ltHOl _ hf; omega))
  replace HB := tuck (HB.out.but hbut (fun g hf => by have h1 := geHOl _ hf; have h2 := ltHOl _ hf; omega))
  replace HBW := tuck (HBW.out.but hbut (fun g hf => by have h1 := geHOl _ hf; have h2 := ltHOl _ hf; omega))
  replace HOt := tuck (HOt.out.but hbut (fun g hg hf => by have h1 := geHOl _ hf; have h2 := ltHOl _ hf; have h3 := geHOt _ hg; have h4 := ltHOt _ hg; omega))
  replace VXt := tuck (VXt.out.but hbut (fun hf => by have h1 := geHOl _ hf; have h2 := ltHOl _ hf; omega))
  replace HOp := tuck (HOp.out.but hbut (fun hf => by have h1 := geHOl _ hf; have h2 := ltHOl _ hf; omega))
  replace HOG0 := tuck (HOG0.out.but hbut (fun g hg hf => by have h1 := geHOl _ hf; have h2 := ltHOl _ hf; have h3 := geHOG0 _ hg; have h4 := ltHOG0 _ hg; omega))
  clear hbut hown geHOl ltHOl geHOt ltHOt geHOG0 ltHOG0
  clear e0 e1 e2 e3 e4 e5 e6 e7
  clear HOl
  obtain ⟨zt, c0t, c1t, c2t⟩ := HXt.out
  obtain ⟨zxt, x0t, x1t, x2t, xft⟩ := VXt.out.facts
  go_wp2_with fail
  clear zxt x0t x1t x2t xft
  clear zt c0t c1t c2t
  have geHOt := HOt.out.ge
  have ltHOt := HOt.out.lt
  have geHOG0 := HOG0.out.ge
  have ltHOG0 := HOG0.out.lt
  refine (markT_any t Ft ((1 : Int) + 2 * (sizes l : Int)) _ _ HKt.out.1 HKt.out.2 HOt.out.nd HOt.out.lts HOt.out.own).mono ?_
  rintro e wmt ⟨rfl, hown, hbut⟩
  have e0 := HL1t.out; have e1 := HL0.out; have e2 := HNl.out; have e3 := HNt.out; have e4 := HZXt.out; have e5 := HNp.out; have e6 := HLp.out; have e7 := HNG.out
  skip
  replace HXt := tuck (HXt.out.but hbut (fun hf => by have h1 := geHOt _ hf; have h2 := ltHOt _ hf; omega))
  replace HB := tuck (HB.out.but hbut (fun g hf => by have h1 := geHOt _ hf; have h2 := ltHOt _ hf; omega))
  replace HBW := tuck (HBW.out.but hbut (fun g hf => by have h1 := geHOt _ hf; have h2 := ltHOt _ hf; omega))
  replace HOp := tuck (HOp.out.but hbut (fun hf => by have h1 := geHOt _ hf; have h2 := ltHOt _ hf; omega))
  replace HOG0 := tuck (HOG0.out.but hbut (fun g hg hf => by have h1 := geHOt _ hf; have h2 := ltHOt _ hf; have h3 := geHOG0 _ hg; have h4 := ltHOG0 _ hg; omega))
  clear hbut hown geHOt ltHOt geHOG0 ltHOG0
  clear e0 e1 e2 e3 e4 e5 e6 e7
  clear VXt
  clear HOt
  obtain ⟨zt, c0t, c1t, c2t⟩ := HXt.out
  go_wp2_with fail
  clear zt c0t c1t c2t
  have geHOG0 := HOG0.out.ge
  have ltHOG0 := HOG0.out.lt
  refine (markInts_any Np lenp _ ((1 : Int) + 2 * (sizes l : Int) + 2 * (sizes t.kids : Int)) _ _ HLENp.out HKp.out.1 HKp.out.2 HOp.out).mono ?_
  rintro e wmp ⟨rfl, hbut⟩
  have e0 := HL1t.out; have e1 := HL0.out; have e2 := HNl.out; have e3 := HNt.out; have e4 := HZXt.out; have e5 := HNp.out; have e6 := HLp.out; have e7 := HNG.out
  skip
  replace HXt := tuck (HXt.out.but hbut (fun hf => by have h1 := List.mem_singleton.1 hf; omega))
  replace HB := tuck (HB.out.but hbut (fun g hf => by have h1 := List.mem_singleton.1 hf; omega))
  replace HBW := tuck (HBW.out.but hbut (fun g hf => by have h1 := List.mem_singleton.1 hf; omega))
  replace HOG0 := tuck (HOG0.out.but hbut (fun g hg hf => by have h1 := List.mem_singleton.1 hf; have h3 := geHOG0 _ hg; have h4 := ltHOG0 _ hg; omega))
  clear hbut geHOG0 ltHOG0
  clear e0 e1 e2 e3 e4 e5 e6 e7
  clear HOp
  obtain ⟨zt, c0t, c1t, c2t⟩ := HXt.out
  go_wp2_with fail
  clear zt c0t c1t c2t
  refine (HEQR0.out _ _ _ (HOG0.out.sl) (H8W0.out.below HBW.out.be)).mono ?_
  rintro e wK0 ⟨rfl, hb⟩
  replace HXt := tuck (HXt.out.below hb)
  replace HB := tuck (HB.out.below hb)
  replace HBW := tuck (HBW.out.below hb)
  replace HOG0 := tuck (HOG0.out.below hb)
  clear hb
  obtain ⟨zt, c0t, c1t, c2t⟩ := HXt.out
  go_wp2_with fail
  clear zt c0t c1t c2t
  have geHOG0 := HOG0.out.ge
  have ltHOG0 := HOG0.out.lt
  refine (markL_but R0 FG0 (1) _ _ HM0.out.1 HM0.out.2 HOG0.out.nd HOG0.out.own).mono ?_
  rintro e wn0 ⟨rfl, hown, hbut⟩
  have e0 := HL1t.out; have e1 := HL0.out; have e2 := HNl.out; have e3 := HNt.out; have e4 := HZXt.out; have e5 := HNp.out; have e6 := HLp.out; have e7 := HNG.out
  skip
  replace HXt := tuck (HXt.out.but hbut (fun hf => by have h1 := geHOG0 _ hf; have h2 := ltHOG0 _ hf; omega))
  replace HB := tuck (HB.out.but hbut (fun g hf => by have h1 := geHOG0 _ hf; have h2 := ltHOG0 _ hf; omega))
  replace HBW := tuck (HBW.out.but hbut (fun g hf => by have h1 := geHOG0 _ hf; have h2 := ltHOG0 _ hf; omega))
  replace HOG0 := tuck (HOG0.out.marked hown hbut.size)
  clear hbut hown geHOG0 ltHOG0
  clear e0 e1 e2 e3 e4 e5 e6 e7
  obtain ⟨zt, c0t, c1t, c2t⟩ := HXt.out
  go_wp2_with fail
  clear zt c0t c1t c2t
  refine (heldL_any R0 0 (1) _ _ HM0.out.1 HM0.out.2 HOG0.out.sl).mono ?_
  rintro e wh0 ⟨rfl, hb⟩
  replace HXt := tuck (HXt.out.below hb)
  replace HB := tuck (HB.out.below hb)
  replace HBW := tuck (HBW.out.below hb)
  replace HOG0 := tuck (HOG0.out.below hb)
  clear hb
  obtain ⟨zt, c0t, c1t, c2t⟩ := HXt.out
  go_upto_region 37 with fail
  go_cut [18, 19] (fun p0 p1 wx => ∃ (a0 : Option Addr) (c0 : Nat), p0 = .slice a0 R0.length c0 ∧ p1 = .bool R1 ∧ Below wh0.heap.size wh0 wx ∧ SlIn wx 0 R0 (.slice a0 R0.length c0))
  case first =>
   have HT12 : ∀ w' : World, (fun w' : World => Below wh0.heap.size wh0 w' ∧ (w.heap.size < w'.heap.size ∧ w'.cell? ⟨w.heap.size, 0, none⟩ = some (.int .i64 t.kind) ∧ w'.cell? ⟨w.heap.size, 1, none⟩ = some (.int .i64 t.num) ∧ w'.cell? ⟨w.heap.size, 2, none⟩ = some (.slice ta t.kids.length tc))) w' → (fun w' : World => Below wh0.heap.size wh0 w' ∧ (w.heap.size < w'.heap.size ∧ w'.cell? ⟨w.heap.size, 0, none⟩ = some (.int .i64 t.kind) ∧ w'.cell? ⟨w.heap.size, 1, none⟩ = some (.int .i64 t.num) ∧ w'.cell? ⟨w.heap.size, 2, none⟩ = some (.slice ta t.kids.length tc))) w' := fun w' h => h
   refine AnyTwo.begin (fun w' : World => Below wh0.heap.size wh0 w' ∧ (w.heap.size < w'.heap.size ∧ w'.cell? ⟨w.heap.size, 0, none⟩ = some (.int .i64 t.kind) ∧ w'.cell? ⟨w.heap.size, 1, none⟩ = some (.int .i64 t.num) ∧ w'.cell? ⟨w.heap.size, 2, none⟩ = some (.slice ta t.kids.length tc))) (fun w' : World => Below wh0.heap.size wh0 w' ∧ (w.heap.size < w'.heap.size ∧ w'.cell? ⟨w.heap.size, 0, none⟩ = some (.int .i64 t.kind) ∧ w'.cell? ⟨w.heap.size, 1, none⟩ = some (.int .i64 t.num) ∧ w'.cell? ⟨w.heap.size, 2, none⟩ = some (.slice ta t.kids.length tc))) 11 (by kernel_rfl) ?_
   have hS1 : (fun w' : World => Below wh0.heap.size wh0 w' ∧ (w.heap.size < w'.heap.size ∧ w'.cell? ⟨w.heap.size, 0, none⟩ = some (.int .i64 t.kind) ∧ w'.cell? ⟨w.heap.size, 1, none⟩ = some (.int .i64 t.num) ∧ w'.cell? ⟨w.heap.size, 2, none⟩ = some (.slice ta t.kids.length tc))) wh0.drew := ⟨(Below.refl _ _).drew, HXt.out⟩
   have HXL : Hid (w.heap.size < wh0.heap.size) := tuck HXt.out.1
   refine AnyTwo.takeAny HT12 (i := 0) (oi := ⟨some 114, _, _, _, _, _⟩) (v := ?vH0) rfl (by kernel_rfl) (by kernel_rfl) (by decide +kernel) (by rfl) (fun _ _ _ h => h) (Or.inl ⟨by rfl, ?yH0⟩) (ph_one (by kernel_rfl) hS1) ?rH0
   case yH0 => (intro w hSw; (try dsimp only at hSw); go_simp; try (with_reducible rfl))
   try simp only [Act.put, List.setIfInBounds_toArray, List.set_cons_zero, List.set_cons_succ]
   refine AnyTwo.takeAny HT12 (i := 2) (oi := ⟨some 116, _, _, _, _, _⟩) (v := ?vH2) rfl (by kernel_rfl) (by kernel_rfl) (by decide +kernel) (by rfl) (fun _ _ _ h => h) (Or.inl ⟨by rfl, ?yH2⟩) (ph_one (by kernel_rfl) hS1) ?rH2
   case yH2 => (intro w hSw; (try dsimp only at hSw); go_simp; try (with_reducible rfl))
   try simp only [Act.put, List.setIfInBounds_toArray, List.set_cons_zero, List.set_cons_succ]
   refine AnyTwo.takeAny HT12 (i := 4) (oi := ⟨some 118, _, _, _, _, _⟩) (v := ?vH4) rfl (by kernel_rfl) (by kernel_rfl) (by decide +kernel) (by rfl) (fun _ _ _ h => h) (Or.inl ⟨by rfl, ?yH4⟩) (ph_one (by kernel_rfl) hS1) ?rH4
   case yH4 => (intro w hSw; (try dsimp only at hSw); go_simp; try (with_reducible rfl))
   try simp only [Act.put, List.setIfInBounds_toArray, List.set_cons_zero, List.set_cons_succ]
   refine AnyTwo.step (i := 1) (o := ⟨some 115, _, _, _, _, _⟩) (by kernel_rfl) rfl (fun K hK => ?_)
   go_simp
   refine (HTOl.out _ (HSl.out.below (bAfter HB.out.be (hold_be hS1)))).mono ?_
   rintro e wql ⟨hbq, qal, qcl, FQ, rfl, hsx, -, -⟩
   have HQl := tuck (hsx.sl (B := 0) (fun _ _ => Nat.zero_le _))
   clear hsx
   have hS1' : (fun w' : World => Below wh0.heap.size wh0 w' ∧ (w.heap.size < w'.heap.size ∧ w'.cell? ⟨w.heap.size, 0, none⟩ = some (.int .i64 t.kind) ∧ w'.cell? ⟨w.heap.size, 1, none⟩ = some (.int .i64 t.num) ∧ w'.cell? ⟨w.heap.size, 2, none⟩ = some (.slice ta t.kids.length tc))) _ := hold1T hS1 hbq
   refine hK.out _ _ (ph_one (by kernel_rfl) hS1') ?_
   clear hK K hS1
   have hS1 := hS1'
   clear hS1'
   try simp only [Act.put, List.setIfInBounds_toArray, List.set_cons_zero, List.set_cons_succ]
   clear hbq
   refine AnyTwo.step (i := 3) (o := ⟨some 117, _, _, _, _, _⟩) (by kernel_rfl) rfl (fun K hK => ?_)
   go_simp
   refine (HTOt.out _ (HSt.out.below (bAfter HB.out.be (hold_be hS1)))).mono ?_
   rintro e wqt ⟨hbq, qat, qct, FQ, rfl, hsx, -, -⟩
   have HQt := tuck (hsx.sl (B := 0) (fun _ _ => Nat.zero_le _))
   clear hsx
   replace HQl := tuck (HQl.out.below hbq)
   have hS1' : (fun w' : World => Below wh0.heap.size wh0 w' ∧ (w.heap.size < w'.heap.size ∧ w'.cell? ⟨w.heap.size, 0, none⟩ = some (.int .i64 t.kind) ∧ w'.cell? ⟨w.heap.size, 1, none⟩ = some (.int .i64 t.num) ∧ w'.cell? ⟨w.heap.size, 2, none⟩ = some (.slice ta t.kids.length tc))) _ := hold1T hS1 hbq
   refine hK.out _ _ (ph_one (by kernel_rfl) hS1') ?_
   clear hK K hS1
   have hS1 := hS1'
   clear hS1'
   try simp only [Act.put, List.setIfInBounds_toArray, List.set_cons_zero, List.set_cons_succ]
   clear hbq
   refine AnyTwo.step (i := 5) (o := ⟨some 119, _, _, _, _, _⟩) (by kernel_rfl) rfl (fun K hK => ?_)
   go_simp
   refine (HTOp.out _ (HSp.out.below (bAfter HB.out.be (hold_be hS1)))).mono ?_
   rintro e wqp ⟨hbq, v, rfl, hio⟩
   obtain rfl := hio.form
   have HQp := tuck (hio.ints.mono (Nat.zero_le _))
   clear hio
   replace HQl := tuck (HQl.out.below hbq)
   replace HQt := tuck (HQt.out.below hbq)
   have hS1' : (fun w' : World => Below wh0.heap.size wh0 w' ∧ (w.heap.size < w'.heap.size ∧ w'.cell? ⟨w.heap.size, 0, none⟩ = some (.int .i64 t.kind) ∧ w'.cell? ⟨w.heap.size, 1, none⟩ = some (.int .i64 t.num) ∧ w'.cell? ⟨w.heap.size, 2, none⟩ = some (.slice ta t.kids.length tc))) _ := hold1T hS1 hbq
   refine hK.out _ _ (ph_one (by kernel_rfl) hS1') ?_
   clear hK K hS1
   have hS1 := hS1'
   clear hS1'
   try simp only [Act.put, List.setIfInBounds_toArray, List.set_cons_zero, List.set_cons_succ]
   clear hbq
   refine AnyTwo.step (i := 6) (o := ⟨some 120, _, _, _, _, _⟩) (by kernel_rfl) rfl (fun K hK => ?_)
   go_simp
   refine (HIM.out _ _ _ _ HQl.out ⟨_, rfl, HQt.out⟩ HQp.out).mono ?_
   rintro e wr ⟨hbq, a0, c0, FQ0, rfl, hw0, -, hF⟩
   have HW0 := tuck (hw0.sl (fun g hg => (hF g (by simp [hg])).1))
   clear hF hw0
   have HH9 := tuck (hold1T hS1 hbq)
   have hS1' : (fun w' : World => Below wh0.heap.size wh0 w' ∧ (w.heap.size < w'.heap.size ∧ w'.cell? ⟨w.heap.size, 0, none⟩ = some (.int .i64 t.kind) ∧ w'.cell? ⟨w.heap.size, 1, none⟩ = some (.int .i64 t.num) ∧ w'.cell? ⟨w.heap.size, 2, none⟩ = some (.slice ta t.kids.length tc))) _ := HH9.out
   refine hK.out _ _ (ph_one (by kernel_rfl) hS1') ?_
   clear hK K hS1
   have hS1 := hS1'
   clear hS1'
   try simp only [Act.put, List.setIfInBounds_toArray, List.set_cons_zero, List.set_cons_succ]
   refine AnyTwo.takeAny HT12 (i := 7) (oi := ⟨some 113, _, _, _, _, _⟩) (v := ?vHcccc7) rfl (by kernel_rfl) (by kernel_rfl) (by decide +kernel) (by rfl) (fun _ _ _ h => h) (Or.inl ⟨by rfl, ?yHcccc7⟩) (ph_one (by kernel_rfl) hS1) ?rHcccc7
   case yHcccc7 => (intro w hSw; (try dsimp only at hSw); go_simp; try (with_reducible rfl))
   try simp only [Act.put, List.setIfInBounds_toArray, List.set_cons_zero, List.set_cons_succ]
   refine AnyTwo.takeAny HT12 (i := 8) (oi := ⟨some 121, _, _, _, _, _⟩) (v := ?vHcccc8) rfl (by kernel_rfl) (by kernel_rfl) (by decide +kernel) (by rfl) (fun _ _ _ h => h) (Or.inl ⟨by rfl, ?yHcccc8⟩) (ph_one (by kernel_rfl) hS1) ?rHcccc8
   case yHcccc8 => (intro w hSw; (try dsimp only at hSw); go_simp; try (with_reducible rfl))
   try simp only [Act.put, List.setIfInBounds_toArray, List.set_cons_zero, List.set_cons_succ]
   refine AnyTwo.takeAny HT12 (i := 9) (oi := ⟨some 122, _, _, _, _, _⟩) (v := ?vHcccc9) rfl (by kernel_rfl) (by kernel_rfl) (by decide +kernel) (by rfl) (fun _ _ _ h => h) (Or.inl ⟨by rfl, ?yHcccc9⟩) (ph_one (by kernel_rfl) hS1) ?rHcccc9
   case yHcccc9 => (intro w hSw; (try dsimp only at hSw); go_simp; try (with_reducible rfl))
   try simp only [Act.put, List.setIfInBounds_toArray, List.set_cons_zero, List.set_cons_succ]
   refine AnyTwo.step (i := 10) (o := ⟨some 18, _, _, _, _, _⟩) (by kernel_rfl) rfl (fun K hK => ?_)
   go_simp
   refine hK.out _ _ (ph_one (by kernel_rfl) hS1) ?_
   clear hK K
   try simp only [Act.put, List.setIfInBounds_toArray, List.set_cons_zero, List.set_cons_succ]
   refine AnyTwo.step (i := 11) (o := ⟨some 19, _, _, _, _, _⟩) (by kernel_rfl) rfl (fun K hK => ?_)
   go_simp
   refine hK.out _ _ (ph_end (by kernel_rfl) hS1) ?_
   clear hK K
   try simp only [Act.put, List.setIfInBounds_toArray, List.set_cons_zero, List.set_cons_succ]
   refine AnyTwo.done (by kernel_rfl) ?_ _
   go_wp2_with fail
   go_meet
   exact ⟨a0, c0, rfl, rfl, hold_be hS1, HW0.out.mono (Nat.zero_le _)⟩
  case rest =>
   obtain ⟨uHa0, uHc0, rfl, rfl, hb, hs0⟩ := hcut
   rename World => WH
   have HHW0 := tuck hs0
   replace HXt := tuck (HXt.out.below hb)
   replace HB := tuck (HB.out.below hb)
   replace HBW := tuck (HBW.out.below hb)
   replace HOG0 := tuck (HOG0.out.below hb)
   clear hb hs0
   clear zt c0t c1t c2t
   obtain ⟨zt, c0t, c1t, c2t⟩ := HXt.out
   go_wp2_with fail
   clear zt c0t c1t c2t
   refine (HEQR0.out _ _ _ (HHW0.out) (H8W0.out.below HBW.out.be)).mono ?_
   rintro e wF0 ⟨rfl, hb⟩
   replace HXt := tuck (HXt.out.below hb)
   replace HB := tuck (HB.out.below hb)
   replace HBW := tuck (HBW.out.below hb)
   replace HOG0 := tuck (HOG0.out.below hb)
   replace HHW0 := tuck (HHW0.out.below hb)
   clear hb
   obtain ⟨zt, c0t, c1t, c2t⟩ := HXt.out
   go_wp2_with fail
   clear zt c0t c1t c2t
   refine (heldL_any R0 0 (1) _ _ HM0.out.1 HM0.out.2 HOG0.out.sl).mono ?_
   rintro e wi0 ⟨rfl, hb⟩
   replace HXt := tuck (HXt.out.below hb)
   replace HB := tuck (HB.out.below hb)
   replace HBW := tuck (HBW.out.below hb)
   replace HOG0 := tuck (HOG0.out.below hb)
   clear hb
   go_wp2_with fail
   go_ret
   exact ⟨rfl, HB.out.be⟩
set_option maxRecDepth 100000 in
theorem lifted (os : Os) (started : os.Started) (H : Type) (enc : TypeId × Value → H) :
  ReturnsInHanded {} Try.checked os 8 .any (Rows.fnExactContextAtSpec.pre6 enc Try.prog Try.f8 Rows.fnExactContextAtRow.domain false) (Rows.fnExactContextAtSpec.post enc Try.prog Try.f8 false true false false) := by
 refine returnsInHanded_of_change (C := Try.checked) own started (by kernel_rfl) Try.func8
  (ChangeSpec.witness6 (enc := enc) (C := Try.checked) false ⟨#[], #[.slice none 0 0, .agg #[.int .i64 0, .int .i64 0, .slice none 0 0], .slice none 0 0], []⟩ 8 (by kernel_rfl) (by kernel_rfl) (by kernel_rfl) (by kernel_rfl)) ?_
 intro W base args ds gs before hval0 hW hcnd _
 have hval : ∀ (j : Nat) t v, Try.f8.params[j]? = some t → args[j]? = some v → Value.okWide Try.prog W .any base t v := hval0
 have hW' := hW
 obtain ⟨p, q, hA0, hV, rfl, hfz, hnd⟩ := hW
 have hA : DataW.TrodAll enc Try.prog W 0 (fun _ => true) true Try.f8.params.toList args.toList ds p := hA0
 rw [Try.params8] at hA hval
 obtain ⟨v0, vs0, d0, ds0, p0, q0, hargs, rfl, rfl, h0, r0⟩ := trodAll_cons hA
 obtain ⟨v1, vs1, d1, ds1, p1, q1, rfl, rfl, rfl, h1, r1⟩ := trodAll_cons r0
 obtain ⟨v2, vs2, d2, ds2, p2, q2, rfl, rfl, rfl, h2, r2⟩ := trodAll_cons r1
 obtain ⟨rfl, rfl, rfl⟩ := trodAll_nil r2
 obtain rfl : args = #[v0, v1, v2] := by cases args; simp_all
 obtain ⟨l0, hl0⟩ := open_terms (hval 0 22 v0 rfl rfl) h0
 obtain ⟨t1, ht1⟩ := open_term (hval 1 24 v1 rfl rfl) h1
 obtain ⟨N2, len2, hi2⟩ := open_intsl (hval 2 25 v2 rfl rfl) h2
 refine (walk l0 t1 N2 len2 W v0 v1 v2 hl0 ht1 hi2).mono fun e W' ⟨he, hb⟩ => ?_
 subst he
 exact ⟨_, rfl, law_post rfl rfl (fun gs h => by subst h; rfl) (by rw [Try.params8]; exact readable_FnExactContextAt) laid hW' hb⟩
theorem over : Rows.fnExactContextAtRow.holds Try.pinned (OpenSpec.ofChange Rows.fnExactContextAtSpec) :=
 OpenClaim.holds_of_wide 8 Try.f8 rfl rfl rfl rfl rfl rfl rfl ⟨rfl, rfl, rfl, rfl, rfl⟩ rfl rfl rfl rfl rfl (by kernel_rfl) Try.func8 (by kernel_rfl)
  (of_decide_eq_true (by kernel_rfl)) (by unfold Func.isWrapper; first | (rw [if_pos (by decide +kernel)]; kernel_rfl) | (rw [if_neg (by decide +kernel)]; exact ⟨rfl, rfl⟩))
  (fun os started H enc _ => lifted os started H enc)
theorem proved : Rows.FnExactContextAtSaid :=
 over
end Go.Proofs.Ytleijaegpfjnpaa.fnExactContextAt
