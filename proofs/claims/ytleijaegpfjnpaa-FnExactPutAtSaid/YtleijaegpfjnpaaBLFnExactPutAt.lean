/-
  The law FnExactPutAt: for every two terms (no ring among their parts) and every list of numbers, PutAt answers as its model, writes into no argument, and its answer is memory of its own.
-/
import Derived.Test.YtleijaegpfjnpaaB03
import Derived.Test.YtleijaegpfjnpaaB21
import Derived.Test.YtleijaegpfjnpaaB25
import Derived.Test.YtleijaegpfjnpaaB33
import Derived.Test.YtleijaegpfjnpaaB42
import Derived.Test.YtleijaegpfjnpaaB54
import Derived.Deep.DeepCutAuto
namespace Go.Proofs.Ytleijaegpfjnpaa.fnExactPutAt
open Go.ChangeShapes Go.WideShapes Go.ChangeAt Go.RowKit Go.Deep
set_option linter.unusedVariables false
theorem readable_FnExactPutAt : ∀ t ∈ (#[24, 25, 24] : Array TypeId).toList, Try.prog.readableRec t = true ∧ t < Try.prog.types.size := by
 intro t ht
 simp at ht
 rcases ht with rfl | rfl | rfl
 all_goals exact ⟨by kernel_rfl, of_decide_eq_true (by kernel_rfl)⟩
theorem laid : laidOutB Try.prog = true := by kernel_rfl
set_option maxRecDepth 100000 in
set_option maxHeartbeats 40000000 in
/-- The walk. -/
theorem walk (t : Tm) (Np : Int → Int) (lenp : Nat) (u : Tm) (w : World) (vt : Value) (vp : Value) (vu : Value) (ht : TmIn w 0 t vt) (hp : Ints w 0 Np lenp vp) (hu : TmIn w 0 u vu) : Calls Try.prog 4 #[vt, vp, vu] w fun e w' => e = .returned (.bool true) ∧ Below w.heap.size w w' := by
 obtain ⟨st, rfl, ht⟩ := ht
 obtain ⟨ta, tc, rfl⟩ := ht.form
 have HSt := tuck ht
 obtain ⟨pa, pc, rfl⟩ := hp.form
 have HSp := tuck hp
 obtain ⟨su, rfl, hu⟩ := hu
 obtain ⟨ua, uc, rfl⟩ := hu.form
 have HSu := tuck hu
 clear ht hp hu
 by_cases hlenp : lenp ≤ 1048576
 rotate_left
 ·have hlbp : decide ((1048576 : Int) < (lenp : Int)) = true := by simp; omega
  clear hlenp
  go_enter Try.func4, Try.ntmps4
  go_wp2
  go_ret
  exact ⟨rfl, below2 _ _ _⟩
 have hlbp : decide ((1048576 : Int) < (lenp : Int)) = false := by simp; omega
 have HSZt : Hid (∀ (w : World), SlIn w 0 t.kids (.slice ta t.kids.length tc) → Calls Try.prog 9 #[.agg #[.int .i64 t.kind, .int .i64 t.num, (.slice ta t.kids.length tc)], .int .i64 1048576] w (SzPost w (szV t.kids 1048576))) := fun w h => szT_any t 1048576 w _ (by omega) (by omega) ⟨_, rfl, h⟩
 by_cases hszt : (sizes t.kids : Int) ≤ 1048576
 rotate_left
 ·rw [szV_not (by omega)] at HSZt
  clear hszt
  go_enter Try.func4, Try.ntmps4
  go_wp2_with fail
  refine (HSZt.out _ (HSt.out.below (below2 _ _ _))).mono ?_
  rintro e w1 ⟨rfl, hb⟩
  have HXt := tuck (((BoxAt.new w t.kind t.num (.slice ta t.kids.length tc) 24).below (below1 _ (.cells #[.int .i64 u.kind, .int .i64 u.num, .slice ua u.kids.length uc] 24))).below hb)
  have HXu := tuck ((box_new1 w (.cells #[.int .i64 t.kind, .int .i64 t.num, .slice ta t.kids.length tc] 24) u.kind u.num (.slice ua u.kids.length uc) 24).below hb)
  have HB : Hid (Bel w w1) := tuck ⟨bAfter (below2 _ _ _) hb⟩
  clear hb
  obtain ⟨zt, c0t, c1t, c2t⟩ := HXt.out
  obtain ⟨zu, c0u, c1u, c2u⟩ := HXu.out
  go_wp2_with fail
  go_ret
  exact ⟨rfl, HB.out.be⟩
 rw [szV_of (by omega)] at HSZt
 obtain ⟨left1, hleft1⟩ : ∃ left : Int, left = 1048576 - (sizes t.kids : Int) := ⟨_, rfl⟩
 have hl1a : (0 : Int) ≤ left1 := by omega
 have hl1b : left1 ≤ 1048576 := by omega
 rw [← hleft1] at HSZt
 have HSZu : Hid (∀ (w : World), SlIn w 0 u.kids (.slice ua u.kids.length uc) → Calls Try.prog 9 #[.agg #[.int .i64 u.kind, .int .i64 u.num, (.slice ua u.kids.length uc)], .int .i64 left1] w (SzPost w (szV u.kids left1))) := fun w h => szT_any u left1 w _ hl1a hl1b ⟨_, rfl, h⟩
 by_cases hszu : (sizes u.kids : Int) ≤ left1
 rotate_left
 ·rw [szV_not (by omega)] at HSZu
  clear hszu hszt hleft1 hl1b
  go_enter Try.func4, Try.ntmps4
  go_wp2_with fail
  refine (HSZt.out _ (HSt.out.below (below2 _ _ _))).mono ?_
  rintro e w1 ⟨rfl, hb⟩
  have HXt := tuck (((BoxAt.new w t.kind t.num (.slice ta t.kids.length tc) 24).below (below1 _ (.cells #[.int .i64 u.kind, .int .i64 u.num, .slice ua u.kids.length uc] 24))).below hb)
  have HXu := tuck ((box_new1 w (.cells #[.int .i64 t.kind, .int .i64 t.num, .slice ta t.kids.length tc] 24) u.kind u.num (.slice ua u.kids.length uc) 24).below hb)
  have HB : Hid (Bel w w1) := tuck ⟨bAfter (below2 _ _ _) hb⟩
  clear hb
  obtain ⟨zt, c0t, c1t, c2t⟩ := HXt.out
  obtain ⟨zu, c0u, c1u, c2u⟩ := HXu.out
  go_wp2_with fail
  refine (HSZu.out _ (HSu.out.below HB.out.be)).mono ?_
  rintro e w2 ⟨rfl, hb⟩
  replace HXt := tuck (HXt.out.below hb)
  replace HXu := tuck (HXu.out.below hb)
  replace HB := tuck (HB.out.below hb)
  clear hb
  clear zt c0t c1t c2t zu c0u c1u c2u
  obtain ⟨zt, c0t, c1t, c2t⟩ := HXt.out
  obtain ⟨zu, c0u, c1u, c2u⟩ := HXu.out
  go_wp2_with fail
  go_ret
  exact ⟨rfl, HB.out.be⟩
 rw [szV_of (by omega)] at HSZu
 obtain ⟨left2, hleft2⟩ : ∃ left : Int, left = left1 - (sizes u.kids : Int) := ⟨_, rfl⟩
 have hl2a : (0 : Int) ≤ left2 := by omega
 have hl2b : left2 ≤ 1048576 := by omega
 rw [← hleft2] at HSZu
 obtain ⟨R0, hR0⟩ : ∃ R : Tm, R = orZero (PutOk t Np lenp u) (around (wayP t Np lenp) u) := ⟨_, rfl⟩
 obtain ⟨R1, hR1⟩ : ∃ R : Bool, R = tr (PutOk t Np lenp u) := ⟨_, rfl⟩
 have HSP : Hid (∀ (w : World) (vt : Value) (vp : Value) (vu : Value), TmIn w 0 t vt → IntsC w 0 Np lenp vp → TmIn w 0 u vu → Calls Try.prog 19 #[vt, vp, vu] w (fun e w' => Below w.heap.size w w' ∧ ∃ (a0 : Option Addr) (c0 : Nat), e = .returned (.tuple #[.agg #[.int .i64 R0.kind, .int .i64 R0.num, .slice a0 R0.kids.length c0], .bool R1]) ∧ SlIn w' w.heap.size R0.kids (.slice a0 R0.kids.length c0))) := fun w vt vp vu ht hp hu => by subst hR0; subst hR1; exact putAtS_any t Np lenp hlenp u w vt vp vu ht hp hu
 have HIM : Hid (∀ (w : World) (vt : Value) (vp : Value) (vu : Value), TmIn w 0 t vt → IntsC w 0 Np lenp vp → TmIn w 0 u vu → Calls Try.prog 20 #[vt, vp, vu] w (fun e w' => Below w.heap.size w w' ∧ ∃ (a0 : Option Addr) (c0 : Nat) (F0 : List Nat), e = .returned (.tuple #[.agg #[.int .i64 R0.kind, .int .i64 R0.num, .slice a0 R0.kids.length c0], .bool R1]) ∧ SlOwn w' R0.kids (.slice a0 R0.kids.length c0) F0 ∧ (F0).Nodup ∧ ∀ g ∈ F0, w.heap.size ≤ g ∧ g < w'.heap.size)) := fun w vt vp vu ht hp hu => by subst hR0; subst hR1; exact (putAtI_any t Np lenp hlenp u w vt vp vu ht hp.ints hu).mono fun _ _ h => h.law
 have hszR0 : sizes R0.kids ≤ 1000000 := by subst hR0; subst hR1; exact Nat.le_trans (orZero_szs fun h => h.2) (by decide)
 clear hR0 hR1
 have HTOt : Hid (∀ (w : World), SlIn w 0 t.kids (.slice ta t.kids.length tc) → Calls Try.prog 11 #[.agg #[.int .i64 t.kind, .int .i64 t.num, (.slice ta t.kids.length tc)]] w fun e w' => Below w.heap.size w w' ∧ ∃ a c F, e = .returned (.agg #[.int .i64 t.kind, .int .i64 t.num, .slice a t.kids.length c]) ∧ SlOwn w' t.kids (.slice a t.kids.length c) F ∧ F.Nodup ∧ ∀ g ∈ F, w.heap.size ≤ g ∧ g < w'.heap.size) := fun w h => toO_made t w _ (by omega) ⟨_, rfl, h⟩
 have HEQt : Hid (∀ (w : World) (v1 v2 : Value), TmIn w 0 t v1 → TmIn w 0 t v2 → Calls Try.prog 14 #[v1, v2] w (EqPost w true)) := fun w v1 v2 h1 h2 => by have := eqT_any t t w v1 v2 h1 h2; rwa [same_self] at this
 have HTOp : Hid (∀ (w : World), Ints w 0 Np lenp (.slice pa lenp pc) → Calls Try.prog 12 #[(.slice pa lenp pc)] w (ToInts w Np lenp)) := fun w h => toInts_any Np lenp w _ hlenp h
 have HEQp : Hid (∀ (w : World) (v1 v2 : Value), Ints w 0 Np lenp v1 → Ints w 0 Np lenp v2 → Calls Try.prog 15 #[v1, v2] w (EqPost w true)) := fun w v1 v2 h1 h2 => eqInts_any Np lenp w v1 v2 hlenp h1 h2
 have HTOu : Hid (∀ (w : World), SlIn w 0 u.kids (.slice ua u.kids.length uc) → Calls Try.prog 11 #[.agg #[.int .i64 u.kind, .int .i64 u.num, (.slice ua u.kids.length uc)]] w fun e w' => Below w.heap.size w w' ∧ ∃ a c F, e = .returned (.agg #[.int .i64 u.kind, .int .i64 u.num, .slice a u.kids.length c]) ∧ SlOwn w' u.kids (.slice a u.kids.length c) F ∧ F.Nodup ∧ ∀ g ∈ F, w.heap.size ≤ g ∧ g < w'.heap.size) := fun w h => toO_made u w _ (by omega) ⟨_, rfl, h⟩
 have HEQu : Hid (∀ (w : World) (v1 v2 : Value), TmIn w 0 u v1 → TmIn w 0 u v2 → Calls Try.prog 14 #[v1, v2] w (EqPost w true)) := fun w v1 v2 h1 h2 => by have := eqT_any u u w v1 v2 h1 h2; rwa [same_self] at this
 have HEQR0 : Hid (∀ (w : World) (v1 v2 : Value), TmIn w 0 R0 v1 → TmIn w 0 R0 v2 → Calls Try.prog 14 #[v1, v2] w (EqPost w true)) := fun w v1 v2 h1 h2 => by have := eqT_any R0 R0 w v1 v2 h1 h2; rwa [same_self] at this
 have hrr1 : (R1 != R1) = false := by simp
 have hkt : (0 : Int) ≤ 1 ∧ (1 : Int) + 2 * (sizes t.kids : Int) ≤ 4611686018427387904 := by omega
 have HKt := tuck hkt
 have hkp : (0 : Int) ≤ (1 : Int) + 2 * (sizes t.kids : Int) ∧ (1 : Int) + 2 * (sizes t.kids : Int) + (lenp : Int) ≤ 4611686018427387904 := by omega
 have HKp := tuck hkp
 have hku : (0 : Int) ≤ (1 : Int) + 2 * (sizes t.kids : Int) + (lenp : Int) ∧ (1 : Int) + 2 * (sizes t.kids : Int) + (lenp : Int) + 2 * (sizes u.kids : Int) ≤ 4611686018427387904 := by omega
 have HKu := tuck hku
 have hkend : ¬ ((1 : Int) + 2 * (sizes t.kids : Int) + (lenp : Int) + 2 * (sizes u.kids : Int)) < 0 := by omega
 have hm0 : (0 : Int) ≤ 1 ∧ (1 : Int) + 2 * (sizes R0.kids : Int) ≤ 4611686018427387904 := by omega
 have HM0 := tuck hm0
 have hmn0 : ¬ ((1 : Int) + 2 * (sizes R0.kids : Int)) < 0 := by omega
 clear hszR0 hszt hszu hleft1 hleft2 hl1b hl2b hkt hkp hku hm0
 have HLENp := tuck hlenp
 clear hlenp
 go_enter Try.func4, Try.ntmps4
 go_wp2_with fail
 refine (HSZt.out _ (HSt.out.below (below2 _ _ _))).mono ?_
 rintro e w1 ⟨rfl, hb⟩
 have HXt := tuck (((BoxAt.new w t.kind t.num (.slice ta t.kids.length tc) 24).below (below1 _ (.cells #[.int .i64 u.kind, .int .i64 u.num, .slice ua u.kids.length uc] 24))).below hb)
 have HXu := tuck ((box_new1 w (.cells #[.int .i64 t.kind, .int .i64 t.num, .slice ta t.kids.length tc] 24) u.kind u.num (.slice ua u.kids.length uc) 24).below hb)
 have HB : Hid (Bel w w1) := tuck ⟨bAfter (below2 _ _ _) hb⟩
 clear hb
 obtain ⟨zt, c0t, c1t, c2t⟩ := HXt.out
 obtain ⟨zu, c0u, c1u, c2u⟩ := HXu.out
 go_wp2_with fail
 refine (HSZu.out _ (HSu.out.below HB.out.be)).mono ?_
 rintro e w2 ⟨rfl, hb⟩
 replace HXt := tuck (HXt.out.below hb)
 replace HXu := tuck (HXu.out.below hb)
 replace HB := tuck (HB.out.below hb)
 clear hb
 clear zt c0t c1t c2t zu c0u c1u c2u
 obtain ⟨zt, c0t, c1t, c2t⟩ := HXt.out
 obtain ⟨zu, c0u, c1u, c2u⟩ := HXu.out
 go_upto_region 10 with fail
 go_cut [8, 9] (fun p0 p1 wx => ∃ (gz : Nat) (a0 : Option Addr) (c0 : Nat), p0 = .pointer (some ⟨gz, 0, none⟩) ∧ p1 = .bool R1 ∧ Below w2.heap.size w2 wx ∧ VarAt gz R0.kind R0.num (.slice a0 R0.kids.length c0) wx ∧ w2.heap.size ≤ gz ∧ SlIn wx 0 R0.kids (.slice a0 R0.kids.length c0))
 case first =>
  have HT12 : ∀ w' : World, (fun w' : World => Below w2.heap.size w2 w' ∧ (w.heap.size < w'.heap.size ∧ w'.cell? ⟨w.heap.size, 0, none⟩ = some (.int .i64 t.kind) ∧ w'.cell? ⟨w.heap.size, 1, none⟩ = some (.int .i64 t.num) ∧ w'.cell? ⟨w.heap.size, 2, none⟩ = some (.slice ta t.kids.length tc)) ∧ ((w.heap.size + 1) < w'.heap.size ∧ w'.cell? ⟨(w.heap.size + 1), 0, none⟩ = some (.int .i64 u.kind) ∧ w'.cell? ⟨(w.heap.size + 1), 1, none⟩ = some (.int .i64 u.num) ∧ w'.cell? ⟨(w.heap.size + 1), 2, none⟩ = some (.slice ua u.kids.length uc))) w' → (fun w' : World => Below w2.heap.size w2 w' ∧ (w.heap.size < w'.heap.size ∧ w'.cell? ⟨w.heap.size, 0, none⟩ = some (.int .i64 t.kind) ∧ w'.cell? ⟨w.heap.size, 1, none⟩ = some (.int .i64 t.num) ∧ w'.cell? ⟨w.heap.size, 2, none⟩ = some (.slice ta t.kids.length tc)) ∧ ((w.heap.size + 1) < w'.heap.size ∧ w'.cell? ⟨(w.heap.size + 1), 0, none⟩ = some (.int .i64 u.kind) ∧ w'.cell? ⟨(w.heap.size + 1), 1, none⟩ = some (.int .i64 u.num) ∧ w'.cell? ⟨(w.heap.size + 1), 2, none⟩ = some (.slice ua u.kids.length uc))) w' := fun w' h => h
  refine AnyTwo.begin (fun w' : World => Below w2.heap.size w2 w' ∧ (w.heap.size < w'.heap.size ∧ w'.cell? ⟨w.heap.size, 0, none⟩ = some (.int .i64 t.kind) ∧ w'.cell? ⟨w.heap.size, 1, none⟩ = some (.int .i64 t.num) ∧ w'.cell? ⟨w.heap.size, 2, none⟩ = some (.slice ta t.kids.length tc)) ∧ ((w.heap.size + 1) < w'.heap.size ∧ w'.cell? ⟨(w.heap.size + 1), 0, none⟩ = some (.int .i64 u.kind) ∧ w'.cell? ⟨(w.heap.size + 1), 1, none⟩ = some (.int .i64 u.num) ∧ w'.cell? ⟨(w.heap.size + 1), 2, none⟩ = some (.slice ua u.kids.length uc))) (fun w' : World => Below w2.heap.size w2 w' ∧ (w.heap.size < w'.heap.size ∧ w'.cell? ⟨w.heap.size, 0, none⟩ = some (.int .i64 t.kind) ∧ w'.cell? ⟨w.heap.size, 1, none⟩ = some (.int .i64 t.num) ∧ w'.cell? ⟨w.heap.size, 2, none⟩ = some (.slice ta t.kids.length tc)) ∧ ((w.heap.size + 1) < w'.heap.size ∧ w'.cell? ⟨(w.heap.size + 1), 0, none⟩ = some (.int .i64 u.kind) ∧ w'.cell? ⟨(w.heap.size + 1), 1, none⟩ = some (.int .i64 u.num) ∧ w'.cell? ⟨(w.heap.size + 1), 2, none⟩ = some (.slice ua u.kids.length uc))) 12 (by kernel_rfl) ?_
  have hS1 : (fun w' : World => Below w2.heap.size w2 w' ∧ (w.heap.size < w'.heap.size ∧ w'.cell? ⟨w.heap.size, 0, none⟩ = some (.int .i64 t.kind) ∧ w'.cell? ⟨w.heap.size, 1, none⟩ = some (.int .i64 t.num) ∧ w'.cell? ⟨w.heap.size, 2, none⟩ = some (.slice ta t.kids.length tc)) ∧ ((w.heap.size + 1) < w'.heap.size ∧ w'.cell? ⟨(w.heap.size + 1), 0, none⟩ = some (.int .i64 u.kind) ∧ w'.cell? ⟨(w.heap.size + 1), 1, none⟩ = some (.int .i64 u.num) ∧ w'.cell? ⟨(w.heap.size + 1), 2, none⟩ = some (.slice ua u.kids.length uc))) w2.drew := ⟨(Below.refl _ _).drew, HXt.out, HXu.out⟩
  have HXL : Hid (w.heap.size < w2.heap.size ∧ (w.heap.size + 1) < w2.heap.size) := tuck ⟨HXt.out.1, HXu.out.1⟩
  refine AnyTwo.takeAny HT12 (i := 0) (oi := ⟨some 34, _, _, _, _, _⟩) (v := ?v80) rfl (by kernel_rfl) (by kernel_rfl) (by decide +kernel) (by rfl) (fun _ _ _ h => h) (Or.inl ⟨by rfl, ?y80⟩) (ph_one (by kernel_rfl) hS1) ?r80
  case y80 => (intro w hSw; (try dsimp only at hSw); go_simp; try (with_reducible rfl))
  try simp only [Act.put, List.setIfInBounds_toArray, List.set_cons_zero, List.set_cons_succ]
  refine AnyTwo.takeAny HT12 (i := 2) (oi := ⟨some 36, _, _, _, _, _⟩) (v := ?v82) rfl (by kernel_rfl) (by kernel_rfl) (by decide +kernel) (by rfl) (fun _ _ _ h => h) (Or.inl ⟨by rfl, ?y82⟩) (ph_one (by kernel_rfl) hS1) ?r82
  case y82 => (intro w hSw; (try dsimp only at hSw); go_simp; try (with_reducible rfl))
  try simp only [Act.put, List.setIfInBounds_toArray, List.set_cons_zero, List.set_cons_succ]
  refine AnyTwo.takeAny HT12 (i := 4) (oi := ⟨some 38, _, _, _, _, _⟩) (v := ?v84) rfl (by kernel_rfl) (by kernel_rfl) (by decide +kernel) (by rfl) (fun _ _ _ h => h) (Or.inl ⟨by rfl, ?y84⟩) (ph_one (by kernel_rfl) hS1) ?r84
  case y84 => (intro w hSw; (try dsimp only at hSw); go_simp; try (with_reducible rfl))
  try simp only [Act.put, List.setIfInBounds_toArray, List.set_cons_zero, List.set_cons_succ]
  refine AnyTwo.fork (i := 1) (o := ⟨some 35, _, _, _, _, _⟩) (j := 10) (o' := ⟨some 8, _, _, _, _, _⟩) (by kernel_rfl) rfl rfl (fun K hK => ?_) (fun K hK => ?_)
  ·skip
   go_simp
   refine (HTOt.out _ (HSt.out.below (bAfter HB.out.be (hold_be hS1)))).mono ?_
   rintro e wqt ⟨hbq, qat, qct, FQ, rfl, hsx, -, -⟩
   have HQt := tuck (hsx.sl (B := 0) (fun _ _ => Nat.zero_le _))
   clear hsx
   have hS1' : (fun w' : World => Below w2.heap.size w2 w' ∧ (w.heap.size < w'.heap.size ∧ w'.cell? ⟨w.heap.size, 0, none⟩ = some (.int .i64 t.kind) ∧ w'.cell? ⟨w.heap.size, 1, none⟩ = some (.int .i64 t.num) ∧ w'.cell? ⟨w.heap.size, 2, none⟩ = some (.slice ta t.kids.length tc)) ∧ ((w.heap.size + 1) < w'.heap.size ∧ w'.cell? ⟨(w.heap.size + 1), 0, none⟩ = some (.int .i64 u.kind) ∧ w'.cell? ⟨(w.heap.size + 1), 1, none⟩ = some (.int .i64 u.num) ∧ w'.cell? ⟨(w.heap.size + 1), 2, none⟩ = some (.slice ua u.kids.length uc))) _ := holdT hS1 hbq
   refine hK.out _ _ (ph_one (by kernel_rfl) hS1') ?_
   clear hK K hS1
   have hS1 := hS1'
   clear hS1'
   try simp only [Act.put, List.setIfInBounds_toArray, List.set_cons_zero, List.set_cons_succ]
   clear hbq
   refine AnyTwo.fork (i := 3) (o := ⟨some 37, _, _, _, _, _⟩) (j := 10) (o' := ⟨some 8, _, _, _, _, _⟩) (by kernel_rfl) rfl rfl (fun K hK => ?_) (fun K hK => ?_)
   ·skip
    go_simp
    refine (HTOp.out _ (HSp.out.below (bAfter HB.out.be (hold_be hS1)))).mono ?_
    rintro e wqp ⟨hbq, v, hv, hio⟩
    have hic := hio.intsC
    obtain ⟨qap, qcp, rfl⟩ := hic.form
    subst hv
    have HQp := tuck (hic.mono (Nat.zero_le _))
    clear hio hic
    replace HQt := tuck (HQt.out.below hbq)
    have hS1' : (fun w' : World => Below w2.heap.size w2 w' ∧ (w.heap.size < w'.heap.size ∧ w'.cell? ⟨w.heap.size, 0, none⟩ = some (.int .i64 t.kind) ∧ w'.cell? ⟨w.heap.size, 1, none⟩ = some (.int .i64 t.num) ∧ w'.cell? ⟨w.heap.size, 2, none⟩ = some (.slice ta t.kids.length tc)) ∧ ((w.heap.size + 1) < w'.heap.size ∧ w'.cell? ⟨(w.heap.size + 1), 0, none⟩ = some (.int .i64 u.kind) ∧ w'.cell? ⟨(w.heap.size + 1), 1, none⟩ = some (.int .i64 u.num) ∧ w'.cell? ⟨(w.heap.size + 1), 2, none⟩ = some (.slice ua u.kids.length uc))) _ := holdT hS1 hbq
    refine hK.out _ _ (ph_one (by kernel_rfl) hS1') ?_
    clear hK K hS1
    have hS1 := hS1'
    clear hS1'
    try simp only [Act.put, List.setIfInBounds_toArray, List.set_cons_zero, List.set_cons_succ]
    clear hbq
    refine AnyTwo.fork (i := 5) (o := ⟨some 39, _, _, _, _, _⟩) (j := 10) (o' := ⟨some 8, _, _, _, _, _⟩) (by kernel_rfl) rfl rfl (fun K hK => ?_) (fun K hK => ?_)
    ·skip
     go_simp
     refine (HTOu.out _ (HSu.out.below (bAfter HB.out.be (hold_be hS1)))).mono ?_
     rintro e wqu ⟨hbq, qau, qcu, FQ, rfl, hsx, -, -⟩
     have HQu := tuck (hsx.sl (B := 0) (fun _ _ => Nat.zero_le _))
     clear hsx
     replace HQt := tuck (HQt.out.below hbq)
     replace HQp := tuck (HQp.out.below hbq)
     have hS1' : (fun w' : World => Below w2.heap.size w2 w' ∧ (w.heap.size < w'.heap.size ∧ w'.cell? ⟨w.heap.size, 0, none⟩ = some (.int .i64 t.kind) ∧ w'.cell? ⟨w.heap.size, 1, none⟩ = some (.int .i64 t.num) ∧ w'.cell? ⟨w.heap.size, 2, none⟩ = some (.slice ta t.kids.length tc)) ∧ ((w.heap.size + 1) < w'.heap.size ∧ w'.cell? ⟨(w.heap.size + 1), 0, none⟩ = some (.int .i64 u.kind) ∧ w'.cell? ⟨(w.heap.size + 1), 1, none⟩ = some (.int .i64 u.num) ∧ w'.cell? ⟨(w.heap.size + 1), 2, none⟩ = some (.slice ua u.kids.length uc))) _ := holdT hS1 hbq
     refine hK.out _ _ (ph_one (by kernel_rfl) hS1') ?_
     clear hK K hS1
     have hS1 := hS1'
     clear hS1'
     try simp only [Act.put, List.setIfInBounds_toArray, List.set_cons_zero, List.set_cons_succ]
     clear hbq
     refine AnyTwo.fork (i := 6) (o := ⟨some 40, _, _, _, _, _⟩) (j := 10) (o' := ⟨some 8, _, _, _, _, _⟩) (by kernel_rfl) rfl rfl (fun K hK => ?_) (fun K hK => ?_)
     ·skip
      go_simp
      refine (HSP.out _ _ _ _ ⟨_, rfl, HQt.out⟩ HQp.out ⟨_, rfl, HQu.out⟩).mono ?_
      rintro e wr ⟨hbq, a0, c0, rfl, hw0⟩
      have HW0 := tuck hw0
      clear hw0
      have HH9 := tuck (holdT hS1 hbq)
      have hS1' : (fun w' : World => Below w2.heap.size w2 w' ∧ (w.heap.size < w'.heap.size ∧ w'.cell? ⟨w.heap.size, 0, none⟩ = some (.int .i64 t.kind) ∧ w'.cell? ⟨w.heap.size, 1, none⟩ = some (.int .i64 t.num) ∧ w'.cell? ⟨w.heap.size, 2, none⟩ = some (.slice ta t.kids.length tc)) ∧ ((w.heap.size + 1) < w'.heap.size ∧ w'.cell? ⟨(w.heap.size + 1), 0, none⟩ = some (.int .i64 u.kind) ∧ w'.cell? ⟨(w.heap.size + 1), 1, none⟩ = some (.int .i64 u.num) ∧ w'.cell? ⟨(w.heap.size + 1), 2, none⟩ = some (.slice ua u.kids.length uc))) _ := HH9.out
      refine hK.out _ _ (ph_one (by kernel_rfl) hS1') ?_
      clear hK K hS1
      have hS1 := hS1'
      clear hS1'
      try simp only [Act.put, List.setIfInBounds_toArray, List.set_cons_zero, List.set_cons_succ]
      refine AnyTwo.takeAny HT12 (i := 7) (oi := ⟨some 33, _, _, _, _, _⟩) (v := ?v8cccc7) rfl (by kernel_rfl) (by kernel_rfl) (by decide +kernel) (by rfl) (fun _ _ _ h => h) (Or.inl ⟨by rfl, ?y8cccc7⟩) (ph_one (by kernel_rfl) hS1) ?r8cccc7
      case y8cccc7 => (intro w hSw; (try dsimp only at hSw); go_simp; try (with_reducible rfl))
      try simp only [Act.put, List.setIfInBounds_toArray, List.set_cons_zero, List.set_cons_succ]
      refine AnyTwo.takeAny HT12 (i := 8) (oi := ⟨some 41, _, _, _, _, _⟩) (v := ?v8cccc8) rfl (by kernel_rfl) (by kernel_rfl) (by decide +kernel) (by rfl) (fun _ _ _ h => h) (Or.inl ⟨by rfl, ?y8cccc8⟩) (ph_one (by kernel_rfl) hS1) ?r8cccc8
      case y8cccc8 => (intro w hSw; (try dsimp only at hSw); go_simp; try (with_reducible rfl))
      try simp only [Act.put, List.setIfInBounds_toArray, List.set_cons_zero, List.set_cons_succ]
      refine AnyTwo.takeAny HT12 (i := 9) (oi := ⟨some 42, _, _, _, _, _⟩) (v := ?v8cccc9) rfl (by kernel_rfl) (by kernel_rfl) (by decide +kernel) (by rfl) (fun _ _ _ h => h) (Or.inl ⟨by rfl, ?y8cccc9⟩) (ph_one (by kernel_rfl) hS1) ?r8cccc9
      case y8cccc9 => (intro w hSw; (try dsimp only at hSw); go_simp; try (with_reducible rfl))
      try simp only [Act.put, List.setIfInBounds_toArray, List.set_cons_zero, List.set_cons_succ]
      refine AnyTwo.step (i := 10) (o := ⟨some 8, _, _, _, _, _⟩) (by kernel_rfl) rfl (fun K hK => ?_)
      go_simp
      have hz0 : w2.heap.size ≤ wr.heap.size := (hold_be hS1).size
      have HZ0 := tuck hz0
      clear hz0
      have hS1' : (fun w' : World => Below w2.heap.size w2 w' ∧ (w.heap.size < w'.heap.size ∧ w'.cell? ⟨w.heap.size, 0, none⟩ = some (.int .i64 t.kind) ∧ w'.cell? ⟨w.heap.size, 1, none⟩ = some (.int .i64 t.num) ∧ w'.cell? ⟨w.heap.size, 2, none⟩ = some (.slice ta t.kids.length tc)) ∧ ((w.heap.size + 1) < w'.heap.size ∧ w'.cell? ⟨(w.heap.size + 1), 0, none⟩ = some (.int .i64 u.kind) ∧ w'.cell? ⟨(w.heap.size + 1), 1, none⟩ = some (.int .i64 u.num) ∧ w'.cell? ⟨(w.heap.size + 1), 2, none⟩ = some (.slice ua u.kids.length uc))) _ := holdT HH9.out (below1 wr (.cells #[.int .i64 0, .int .i64 0, .slice none 0 0] 29))
      refine hK.out _ _ (ph_one (by kernel_rfl) hS1') ?_
      clear hK K hS1
      have hS1 := hS1'
      clear hS1'
      try simp only [Act.put, List.setIfInBounds_toArray, List.set_cons_zero, List.set_cons_succ]
      refine AnyTwo.step (i := 11) (o := ⟨none, _, _, _, _, _⟩) (by kernel_rfl) rfl (fun K hK => ?_)
      go_simp
      have hS1' : (fun w' : World => Below w2.heap.size w2 w' ∧ (w.heap.size < w'.heap.size ∧ w'.cell? ⟨w.heap.size, 0, none⟩ = some (.int .i64 t.kind) ∧ w'.cell? ⟨w.heap.size, 1, none⟩ = some (.int .i64 t.num) ∧ w'.cell? ⟨w.heap.size, 2, none⟩ = some (.slice ta t.kids.length tc)) ∧ ((w.heap.size + 1) < w'.heap.size ∧ w'.cell? ⟨(w.heap.size + 1), 0, none⟩ = some (.int .i64 u.kind) ∧ w'.cell? ⟨(w.heap.size + 1), 1, none⟩ = some (.int .i64 u.num) ∧ w'.cell? ⟨(w.heap.size + 1), 2, none⟩ = some (.slice ua u.kids.length uc))) _ := holdT HH9.out (below1 wr (.cells #[.int .i64 R0.kind, .int .i64 R0.num, .slice a0 R0.kids.length c0] 29))
      refine hK.out _ _ (ph_one (by kernel_rfl) hS1') ?_
      clear hK K hS1
      have hS1 := hS1'
      clear hS1'
      try simp only [Act.put, List.setIfInBounds_toArray, List.set_cons_zero, List.set_cons_succ]
      refine AnyTwo.step (i := 12) (o := ⟨some 9, _, _, _, _, _⟩) (by kernel_rfl) rfl (fun K hK => ?_)
      go_simp
      refine hK.out _ _ (ph_end (by kernel_rfl) hS1) ?_
      clear hK K
      try simp only [Act.put, List.setIfInBounds_toArray, List.set_cons_zero, List.set_cons_succ]
      refine AnyTwo.done (by kernel_rfl) ?_ _
      go_wp2_with fail
      go_meet
      exact ⟨wr.heap.size, a0, c0, rfl, rfl, hold_be hS1, VarAt.new wr R0.kind R0.num (.slice a0 R0.kids.length c0), HZ0.out, (HW0.out.mono (Nat.zero_le _)).below (below1 wr _)⟩
     ·skip
      go_simp
      have HZ := tuck (VarAt.new wqu 0 0 (.slice none 0 0))
      have hz0 : w2.heap.size ≤ wqu.heap.size := (hold_be hS1).size
      have HZ0 := tuck hz0
      clear hz0
      replace HQt := tuck (HQt.out.below (below1 wqu (.cells #[.int .i64 0, .int .i64 0, .slice none 0 0] 29)))
      replace HQp := tuck (HQp.out.below (below1 wqu (.cells #[.int .i64 0, .int .i64 0, .slice none 0 0] 29)))
      replace HQu := tuck (HQu.out.below (below1 wqu (.cells #[.int .i64 0, .int .i64 0, .slice none 0 0] 29)))
      have hS1' : (fun w' : World => Below w2.heap.size w2 w' ∧ (w.heap.size < w'.heap.size ∧ w'.cell? ⟨w.heap.size, 0, none⟩ = some (.int .i64 t.kind) ∧ w'.cell? ⟨w.heap.size, 1, none⟩ = some (.int .i64 t.num) ∧ w'.cell? ⟨w.heap.size, 2, none⟩ = some (.slice ta t.kids.length tc)) ∧ ((w.heap.size + 1) < w'.heap.size ∧ w'.cell? ⟨(w.heap.size + 1), 0, none⟩ = some (.int .i64 u.kind) ∧ w'.cell? ⟨(w.heap.size + 1), 1, none⟩ = some (.int .i64 u.num) ∧ w'.cell? ⟨(w.heap.size + 1), 2, none⟩ = some (.slice ua u.kids.length uc))) _ := holdT hS1 (below1 wqu (.cells #[.int .i64 0, .int .i64 0, .slice none 0 0] 29))
      refine hK.out _ _ (ph_one (by kernel_rfl) hS1') ?_
      clear hK K hS1
      have hS1 := hS1'
      clear hS1'
      try simp only [Act.put, List.setIfInBounds_toArray, List.set_cons_zero, List.set_cons_succ]
      refine AnyTwo.step (i := 6) (o := ⟨some 40, _, _, _, _, _⟩) (by kernel_rfl) rfl (fun K hK => ?_)
      go_simp
      have HGL := tuck HZ.out.facts.1
      refine (HSP.out _ _ _ _ ⟨_, rfl, HQt.out⟩ HQp.out ⟨_, rfl, HQu.out⟩).mono ?_
      rintro e wr ⟨hbq, a0, c0, rfl, hw0⟩
      have HW0 := tuck hw0
      clear hw0
      have HH9 := tuck (holdT hS1 hbq)
      replace HZ := tuck (HZ.out.below hbq)
      obtain ⟨zz, y0, y1, y2, yf⟩ := HZ.out.facts
      have hS1' : (fun w' : World => Below w2.heap.size w2 w' ∧ (w.heap.size < w'.heap.size ∧ w'.cell? ⟨w.heap.size, 0, none⟩ = some (.int .i64 t.kind) ∧ w'.cell? ⟨w.heap.size, 1, none⟩ = some (.int .i64 t.num) ∧ w'.cell? ⟨w.heap.size, 2, none⟩ = some (.slice ta t.kids.length tc)) ∧ ((w.heap.size + 1) < w'.heap.size ∧ w'.cell? ⟨(w.heap.size + 1), 0, none⟩ = some (.int .i64 u.kind) ∧ w'.cell? ⟨(w.heap.size + 1), 1, none⟩ = some (.int .i64 u.num) ∧ w'.cell? ⟨(w.heap.size + 1), 2, none⟩ = some (.slice ua u.kids.length uc))) _ := HH9.out
      refine hK.out _ _ (ph_one (by kernel_rfl) hS1') ?_
      clear hK K hS1
      have hS1 := hS1'
      clear hS1'
      try simp only [Act.put, List.setIfInBounds_toArray, List.set_cons_zero, List.set_cons_succ]
      refine AnyTwo.takeAny HT12 (i := 7) (oi := ⟨some 33, _, _, _, _, _⟩) (v := ?v8cccac7) rfl (by kernel_rfl) (by kernel_rfl) (by decide +kernel) (by rfl) (fun _ _ _ h => h) (Or.inl ⟨by rfl, ?y8cccac7⟩) (ph_one (by kernel_rfl) hS1) ?r8cccac7
      case y8cccac7 => (intro w hSw; (try dsimp only at hSw); go_simp; try (with_reducible rfl))
      try simp only [Act.put, List.setIfInBounds_toArray, List.set_cons_zero, List.set_cons_succ]
      refine AnyTwo.takeAny HT12 (i := 8) (oi := ⟨some 41, _, _, _, _, _⟩) (v := ?v8cccac8) rfl (by kernel_rfl) (by kernel_rfl) (by decide +kernel) (by rfl) (fun _ _ _ h => h) (Or.inl ⟨by rfl, ?y8cccac8⟩) (ph_one (by kernel_rfl) hS1) ?r8cccac8
      case y8cccac8 => (intro w hSw; (try dsimp only at hSw); go_simp; try (with_reducible rfl))
      try simp only [Act.put, List.setIfInBounds_toArray, List.set_cons_zero, List.set_cons_succ]
      refine AnyTwo.takeAny HT12 (i := 9) (oi := ⟨some 42, _, _, _, _, _⟩) (v := ?v8cccac9) rfl (by kernel_rfl) (by kernel_rfl) (by decide +kernel) (by rfl) (fun _ _ _ h => h) (Or.inl ⟨by rfl, ?y8cccac9⟩) (ph_one (by kernel_rfl) hS1) ?r8cccac9
      case y8cccac9 => (intro w hSw; (try dsimp only at hSw); go_simp; try (with_reducible rfl))
      try simp only [Act.put, List.setIfInBounds_toArray, List.set_cons_zero, List.set_cons_succ]
      refine AnyTwo.step (i := 11) (o := ⟨none, _, _, _, _, _⟩) (by kernel_rfl) rfl (fun K hK => ?_)
      go_simp
      have hS1' : (fun w' : World => Below w2.heap.size w2 w' ∧ (w.heap.size < w'.heap.size ∧ w'.cell? ⟨w.heap.size, 0, none⟩ = some (.int .i64 t.kind) ∧ w'.cell? ⟨w.heap.size, 1, none⟩ = some (.int .i64 t.num) ∧ w'.cell? ⟨w.heap.size, 2, none⟩ = some (.slice ta t.kids.length tc)) ∧ ((w.heap.size + 1) < w'.heap.size ∧ w'.cell? ⟨(w.heap.size + 1), 0, none⟩ = some (.int .i64 u.kind) ∧ w'.cell? ⟨(w.heap.size + 1), 1, none⟩ = some (.int .i64 u.num) ∧ w'.cell? ⟨(w.heap.size + 1), 2, none⟩ = some (.slice ua u.kids.length uc))) _ := holdT_set3 HH9.out (gz := wqu.heap.size) (x := .int .i64 R0.kind) (y := .int .i64 R0.num) (z := .slice a0 R0.kids.length c0) HZ0.out HXL.out.1 HXL.out.2
      refine hK.out _ _ (ph_one (by kernel_rfl) hS1') ?_
      clear hK K hS1
      have hS1 := hS1'
      clear hS1'
      try simp only [Act.put, List.setIfInBounds_toArray, List.set_cons_zero, List.set_cons_succ]
      refine AnyTwo.step (i := 12) (o := ⟨some 9, _, _, _, _, _⟩) (by kernel_rfl) rfl (fun K hK => ?_)
      go_simp
      refine hK.out _ _ (ph_end (by kernel_rfl) hS1) ?_
      clear hK K
      try simp only [Act.put, List.setIfInBounds_toArray, List.set_cons_zero, List.set_cons_succ]
      refine AnyTwo.done (by kernel_rfl) ?_ _
      go_wp2_with fail
      go_meet
      exact ⟨wqu.heap.size, a0, c0, rfl, rfl, hold_be hS1, HZ.out.set3, HZ0.out, (tl_sl3 HW0.out HGL.out).mono (Nat.zero_le _)⟩
    ·skip
     go_simp
     have HZ := tuck (VarAt.new wqp 0 0 (.slice none 0 0))
     have hz0 : w2.heap.size ≤ wqp.heap.size := (hold_be hS1).size
     have HZ0 := tuck hz0
     clear hz0
     replace HQt := tuck (HQt.out.below (below1 wqp (.cells #[.int .i64 0, .int .i64 0, .slice none 0 0] 29)))
     replace HQp := tuck (HQp.out.below (below1 wqp (.cells #[.int .i64 0, .int .i64 0, .slice none 0 0] 29)))
     have hS1' : (fun w' : World => Below w2.heap.size w2 w' ∧ (w.heap.size < w'.heap.size ∧ w'.cell? ⟨w.heap.size, 0, none⟩ = some (.int .i64 t.kind) ∧ w'.cell? ⟨w.heap.size, 1, none⟩ = some (.int .i64 t.num) ∧ w'.cell? ⟨w.heap.size, 2, none⟩ = some (.slice ta t.kids.length tc)) ∧ ((w.heap.size + 1) < w'.heap.size ∧ w'.cell? ⟨(w.heap.size + 1), 0, none⟩ = some (.int .i64 u.kind) ∧ w'.cell? ⟨(w.heap.size + 1), 1, none⟩ = some (.int .i64 u.num) ∧ w'.cell? ⟨(w.heap.size + 1), 2, none⟩ = some (.slice ua u.kids.length uc))) _ := holdT hS1 (below1 wqp (.cells #[.int .i64 0, .int .i64 0, .slice none 0 0] 29))
     refine hK.out _ _ (ph_one (by kernel_rfl) hS1') ?_
     clear hK K hS1
     have hS1 := hS1'
     clear hS1'
     try simp only [Act.put, List.setIfInBounds_toArray, List.set_cons_zero, List.set_cons_succ]
     refine AnyTwo.step (i := 5) (o := ⟨some 39, _, _, _, _, _⟩) (by kernel_rfl) rfl (fun K hK => ?_)
     go_simp
     refine (HTOu.out _ (HSu.out.below (bAfter HB.out.be (hold_be hS1)))).mono ?_
     rintro e wqu ⟨hbq, qau, qcu, FQ, rfl, hsx, -, -⟩
     have HQu := tuck (hsx.sl (B := 0) (fun _ _ => Nat.zero_le _))
     clear hsx
     replace HQt := tuck (HQt.out.below hbq)
     replace HQp := tuck (HQp.out.below hbq)
     replace HZ := tuck (HZ.out.below hbq)
     have hS1' : (fun w' : World => Below w2.heap.size w2 w' ∧ (w.heap.size < w'.heap.size ∧ w'.cell? ⟨w.heap.size, 0, none⟩ = some (.int .i64 t.kind) ∧ w'.cell? ⟨w.heap.size, 1, none⟩ = some (.int .i64 t.num) ∧ w'.cell? ⟨w.heap.size, 2, none⟩ = some (.slice ta t.kids.length tc)) ∧ ((w.heap.size + 1) < w'.heap.size ∧ w'.cell? ⟨(w.heap.size + 1), 0, none⟩ = some (.int .i64 u.kind) ∧ w'.cell? ⟨(w.heap.size + 1), 1, none⟩ = some (.int .i64 u.num) ∧ w'.cell? ⟨(w.heap.size + 1), 2, none⟩ = some (.slice ua u.kids.length uc))) _ := holdT hS1 hbq
     refine hK.out _ _ (ph_one (by kernel_rfl) hS1') ?_
     clear hK K hS1
     have hS1 := hS1'
     clear hS1'
     try simp only [Act.put, List.setIfInBounds_toArray, List.set_cons_zero, List.set_cons_succ]
     clear hbq
     refine AnyTwo.step (i := 6) (o := ⟨some 40, _, _, _, _, _⟩) (by kernel_rfl) rfl (fun K hK => ?_)
     go_simp
     have HGL := tuck HZ.out.facts.1
     refine (HSP.out _ _ _ _ ⟨_, rfl, HQt.out⟩ HQp.out ⟨_, rfl, HQu.out⟩).mono ?_
     rintro e wr ⟨hbq, a0, c0, rfl, hw0⟩
     have HW0 := tuck hw0
     clear hw0
     have HH9 := tuck (holdT hS1 hbq)
     replace HZ := tuck (HZ.out.below hbq)
     obtain ⟨zz, y0, y1, y2, yf⟩ := HZ.out.facts
     have hS1' : (fun w' : World => Below w2.heap.size w2 w' ∧ (w.heap.size < w'.heap.size ∧ w'.cell? ⟨w.heap.size, 0, none⟩ = some (.int .i64 t.kind) ∧ w'.cell? ⟨w.heap.size, 1, none⟩ = some (.int .i64 t.num) ∧ w'.cell? ⟨w.heap.size, 2, none⟩ = some (.slice ta t.kids.length tc)) ∧ ((w.heap.size + 1) < w'.heap.size ∧ w'.cell? ⟨(w.heap.size + 1), 0, none⟩ = some (.int .i64 u.kind) ∧ w'.cell? ⟨(w.heap.size + 1), 1, none⟩ = some (.int .i64 u.num) ∧ w'.cell? ⟨(w.heap.size + 1), 2, none⟩ = some (.slice ua u.kids.length uc))) _ := HH9.out
     refine hK.out _ _ (ph_one (by kernel_rfl) hS1') ?_
     clear hK K hS1
     have hS1 := hS1'
     clear hS1'
     try simp only [Act.put, List.setIfInBounds_toArray, List.set_cons_zero, List.set_cons_succ]
     refine AnyTwo.takeAny HT12 (i := 7) (oi := ⟨some 33, _, _, _, _, _⟩) (v := ?v8ccacc7) rfl (by kernel_rfl) (by kernel_rfl) (by decide +kernel) (by rfl) (fun _ _ _ h => h) (Or.inl ⟨by rfl, ?y8ccacc7⟩) (ph_one (by kernel_rfl) hS1) ?r8ccacc7
     case y8ccacc7 => (intro w hSw; (try dsimp only at hSw); go_simp; try (with_reducible rfl))
     try simp only [Act.put, List.setIfInBounds_toArray, List.set_cons_zero, List.set_cons_succ]
     refine AnyTwo.takeAny HT12 (i := 8) (oi := ⟨some 41, _, _, _, _, _⟩) (v := ?v8ccacc8) rfl (by kernel_rfl) (by kernel_rfl) (by decide +kernel) (by rfl) (fun _ _ _ h => h) (Or.inl ⟨by rfl, ?y8ccacc8⟩) (ph_one (by kernel_rfl) hS1) ?r8ccacc8
     case y8ccacc8 => (intro w hSw; (try dsimp only at hSw); go_simp; try (with_reducible rfl))
     try simp only [Act.put, List.setIfInBounds_toArray, List.set_cons_zero, List.set_cons_succ]
     refine AnyTwo.takeAny HT12 (i := 9) (oi := ⟨some 42, _, _, _, _, _⟩) (v := ?v8ccacc9) rfl (by kernel_rfl) (by kernel_rfl) (by decide +kernel) (by rfl) (fun _ _ _ h => h) (Or.inl ⟨by rfl, ?y8ccacc9⟩) (ph_one (by kernel_rfl) hS1) ?r8ccacc9
     case y8ccacc9 => (intro w hSw; (try dsimp only at hSw); go_simp; try (with_reducible rfl))
     try simp only [Act.put, List.setIfInBounds_toArray, List.set_cons_zero, List.set_cons_succ]
     refine AnyTwo.step (i := 11) (o := ⟨none, _, _, _, _, _⟩) (by kernel_rfl) rfl (fun K hK => ?_)
     go_simp
     have hS1' : (fun w' : World => Below w2.heap.size w2 w' ∧ (w.heap.size < w'.heap.size ∧ w'.cell? ⟨w.heap.size, 0, none⟩ = some (.int .i64 t.kind) ∧ w'.cell? ⟨w.heap.size, 1, none⟩ = some (.int .i64 t.num) ∧ w'.cell? ⟨w.heap.size, 2, none⟩ = some (.slice ta t.kids.length tc)) ∧ ((w.heap.size + 1) < w'.heap.size ∧ w'.cell? ⟨(w.heap.size + 1), 0, none⟩ = some (.int .i64 u.kind) ∧ w'.cell? ⟨(w.heap.size + 1), 1, none⟩ = some (.int .i64 u.num) ∧ w'.cell? ⟨(w.heap.size + 1), 2, none⟩ = some (.slice ua u.kids.length uc))) _ := holdT_set3 HH9.out (gz := wqp.heap.size) (x := .int .i64 R0.kind) (y := .int .i64 R0.num) (z := .slice a0 R0.kids.length c0) HZ0.out HXL.out.1 HXL.out.2
     refine hK.out _ _ (ph_one (by kernel_rfl) hS1') ?_
     clear hK K hS1
     have hS1 := hS1'
     clear hS1'
     try simp only [Act.put, List.setIfInBounds_toArray, List.set_cons_zero, List.set_cons_succ]
     refine AnyTwo.step (i := 12) (o := ⟨some 9, _, _, _, _, _⟩) (by kernel_rfl) rfl (fun K hK => ?_)
     go_simp
     refine hK.out _ _ (ph_end (by kernel_rfl) hS1) ?_
     clear hK K
     try simp only [Act.put, List.setIfInBounds_toArray, List.set_cons_zero, List.set_cons_succ]
     refine AnyTwo.done (by kernel_rfl) ?_ _
     go_wp2_with fail
     go_meet
     exact ⟨wqp.heap.size, a0, c0, rfl, rfl, hold_be hS1, HZ.out.set3, HZ0.out, (tl_sl3 HW0.out HGL.out).mono (Nat.zero_le _)⟩
   ·skip
    go_simp
    have HZ := tuck (VarAt.new wqt 0 0 (.slice none 0 0))
    have hz0 : w2.heap.size ≤ wqt.heap.size := (hold_be hS1).size
    have HZ0 := tuck hz0
    clear hz0
    replace HQt := tuck (HQt.out.below (below1 wqt (.cells #[.int .i64 0, .int .i64 0, .slice none 0 0] 29)))
    have hS1' : (fun w' : World => Below w2.heap.size w2 w' ∧ (w.heap.size < w'.heap.size ∧ w'.cell? ⟨w.heap.size, 0, none⟩ = some (.int .i64 t.kind) ∧ w'.cell? ⟨w.heap.size, 1, none⟩ = some (.int .i64 t.num) ∧ w'.cell? ⟨w.heap.size, 2, none⟩ = some (.slice ta t.kids.length tc)) ∧ ((w.heap.size + 1) < w'.heap.size ∧ w'.cell? ⟨(w.heap.size + 1), 0, none⟩ = some (.int .i64 u.kind) ∧ w'.cell? ⟨(w.heap.size + 1), 1, none⟩ = some (.int .i64 u.num) ∧ w'.cell? ⟨(w.heap.size + 1), 2, none⟩ = some (.slice ua u.kids.length uc))) _ := holdT hS1 (below1 wqt (.cells #[.int .i64 0, .int .i64 0, .slice none 0 0] 29))
    refine hK.out _ _ (ph_one (by kernel_rfl) hS1') ?_
    clear hK K hS1
    have hS1 := hS1'
    clear hS1'
    try simp only [Act.put, List.setIfInBounds_toArray, List.set_cons_zero, List.set_cons_succ]
    refine AnyTwo.step (i := 3) (o := ⟨some 37, _, _, _, _, _⟩) (by kernel_rfl) rfl (fun K hK => ?_)
    go_simp
    refine (HTOp.out _ (HSp.out.below (bAfter HB.out.be (hold_be hS1)))).mono ?_
    rintro e wqp ⟨hbq, v, hv, hio⟩
    have hic := hio.intsC
    obtain ⟨qap, qcp, rfl⟩ := hic.form
    subst hv
    have HQp := tuck (hic.mono (Nat.zero_le _))
    clear hio hic
    replace HQt := tuck (HQt.out.below hbq)
    replace HZ := tuck (HZ.out.below hbq)
    have hS1' : (fun w' : World => Below w2.heap.size w2 w' ∧ (w.heap.size < w'.heap.size ∧ w'.cell? ⟨w.heap.size, 0, none⟩ = some (.int .i64 t.kind) ∧ w'.cell? ⟨w.heap.size, 1, none⟩ = some (.int .i64 t.num) ∧ w'.cell? ⟨w.heap.size, 2, none⟩ = some (.slice ta t.kids.length tc)) ∧ ((w.heap.size + 1) < w'.heap.size ∧ w'.cell? ⟨(w.heap.size + 1), 0, none⟩ = some (.int .i64 u.kind) ∧ w'.cell? ⟨(w.heap.size + 1), 1, none⟩ = some (.int .i64 u.num) ∧ w'.cell? ⟨(w.heap.size + 1), 2, none⟩ = some (.slice ua u.kids.length uc))) _ := holdT hS1 hbq
    refine hK.out _ _ (ph_one (by kernel_rfl) hS1') ?_
    clear hK K hS1
    have hS1 := hS1'
    clear hS1'
    try simp only [Act.put, List.setIfInBounds_toArray, List.set_cons_zero, List.set_cons_succ]
    clear hbq
    refine AnyTwo.step (i := 5) (o := ⟨some 39, _, _, _, _, _⟩) (by kernel_rfl) rfl (fun K hK => ?_)
    go_simp
    refine (HTOu.out _ (HSu.out.below (bAfter HB.out.be (hold_be hS1)))).mono ?_
    rintro e wqu ⟨hbq, qau, qcu, FQ, rfl, hsx, -, -⟩
    have HQu := tuck (hsx.sl (B := 0) (fun _ _ => Nat.zero_le _))
    clear hsx
    replace HQt := tuck (HQt.out.below hbq)
    replace HQp := tuck (HQp.out.below hbq)
    replace HZ := tuck (HZ.out.below hbq)
    have hS1' : (fun w' : World => Below w2.heap.size w2 w' ∧ (w.heap.size < w'.heap.size ∧ w'.cell? ⟨w.heap.size, 0, none⟩ = some (.int .i64 t.kind) ∧ w'.cell? ⟨w.heap.size, 1, none⟩ = some (.int .i64 t.num) ∧ w'.cell? ⟨w.heap.size, 2, none⟩ = some (.slice ta t.kids.length tc)) ∧ ((w.heap.size + 1) < w'.heap.size ∧ w'.cell? ⟨(w.heap.size + 1), 0, none⟩ = some (.int .i64 u.kind) ∧ w'.cell? ⟨(w.heap.size + 1), 1, none⟩ = some (.int .i64 u.num) ∧ w'.cell? ⟨(w.heap.size + 1), 2, none⟩ = some (.slice ua u.kids.length uc))) _ := holdT hS1 hbq
    refine hK.out _ _ (ph_one (by kernel_rfl) hS1') ?_
    clear hK K hS1
    have hS1 := hS1'
    clear hS1'
    try simp only [Act.put, List.setIfInBounds_toArray, List.set_cons_zero, List.set_cons_succ]
    clear hbq
    refine AnyTwo.step (i := 6) (o := ⟨some 40, _, _, _, _, _⟩) (by kernel_rfl) rfl (fun K hK => ?_)
    go_simp
    have HGL := tuck HZ.out.facts.1
    refine (HSP.out _ _ _ _ ⟨_, rfl, HQt.out⟩ HQp.out ⟨_, rfl, HQu.out⟩).mono ?_
    rintro e wr ⟨hbq, a0, c0, rfl, hw0⟩
    have HW0 := tuck hw0
    clear hw0
    have HH9 := tuck (holdT hS1 hbq)
    replace HZ := tuck (HZ.out.below hbq)
    obtain ⟨zz, y0, y1, y2, yf⟩ := HZ.out.facts
    have hS1' : (fun w' : World => Below w2.heap.size w2 w' ∧ (w.heap.size < w'.heap.size ∧ w'.cell? ⟨w.heap.size, 0, none⟩ = some (.int .i64 t.kind) ∧ w'.cell? ⟨w.heap.size, 1, none⟩ = some (.int .i64 t.num) ∧ w'.cell? ⟨w.heap.size, 2, none⟩ = some (.slice ta t.kids.length tc)) ∧ ((w.heap.size + 1) < w'.heap.size ∧ w'.cell? ⟨(w.heap.size + 1), 0, none⟩ = some (.int .i64 u.kind) ∧ w'.cell? ⟨(w.heap.size + 1), 1, none⟩ = some (.int .i64 u.num) ∧ w'.cell? ⟨(w.heap.size + 1), 2, none⟩ = some (.slice ua u.kids.length uc))) _ := HH9.out
    refine hK.out _ _ (ph_one (by kernel_rfl) hS1') ?_
    clear hK K hS1
    have hS1 := hS1'
    clear hS1'
    try simp only [Act.put, List.setIfInBounds_toArray, List.set_cons_zero, List.set_cons_succ]
    refine AnyTwo.takeAny HT12 (i := 7) (oi := ⟨some 33, _, _, _, _, _⟩) (v := ?v8caccc7) rfl (by kernel_rfl) (by kernel_rfl) (by decide +kernel) (by rfl) (fun _ _ _ h => h) (Or.inl ⟨by rfl, ?y8caccc7⟩) (ph_one (by kernel_rfl) hS1) ?r8caccc7
    case y8caccc7 => (intro w hSw; (try dsimp only at hSw); go_simp; try (with_reducible rfl))
    try simp only [Act.put, List.setIfInBounds_toArray, List.set_cons_zero, List.set_cons_succ]
    refine AnyTwo.takeAny HT12 (i := 8) (oi := ⟨some 41, _, _, _, _, _⟩) (v := ?v8caccc8) rfl (by kernel_rfl) (by kernel_rfl) (by decide +kernel) (by rfl) (fun _ _ _ h => h) (Or.inl ⟨by rfl, ?y8caccc8⟩) (ph_one (by kernel_rfl) hS1) ?r8caccc8
    case y8caccc8 => (intro w hSw; (try dsimp only at hSw); go_simp; try (with_reducible rfl))
    try simp only [Act.put, List.setIfInBounds_toArray, List.set_cons_zero, List.set_cons_succ]
    refine AnyTwo.takeAny HT12 (i := 9) (oi := ⟨some 42, _, _, _, _, _⟩) (v := ?v8caccc9) rfl (by kernel_rfl) (by kernel_rfl) (by decide +kernel) (by rfl) (fun _ _ _ h => h) (Or.inl ⟨by rfl, ?y8caccc9⟩) (ph_one (by kernel_rfl) hS1) ?r8caccc9
    case y8caccc9 => (intro w hSw; (try dsimp only at hSw); go_simp; try (with_reducible rfl))
    try simp only [Act.put, List.setIfInBounds_toArray, List.set_cons_zero, List.set_cons_succ]
    refine AnyTwo.step (i := 11) (o := ⟨none, _, _, _, _, _⟩) (by kernel_rfl) rfl (fun K hK => ?_)
    go_simp
    have hS1' : (fun w' : World => Below w2.heap.size w2 w' ∧ (w.heap.size < w'.heap.size ∧ w'.cell? ⟨w.heap.size, 0, none⟩ = some (.int .i64 t.kind) ∧ w'.cell? ⟨w.heap.size, 1, none⟩ = some (.int .i64 t.num) ∧ w'.cell? ⟨w.heap.size, 2, none⟩ = some (.slice ta t.kids.length tc)) ∧ ((w.heap.size + 1) < w'.heap.size ∧ w'.cell? ⟨(w.heap.size + 1), 0, none⟩ = some (.int .i64 u.kind) ∧ w'.cell? ⟨(w.heap.size + 1), 1, none⟩ = some (.int .i64 u.num) ∧ w'.cell? ⟨(w.heap.size + 1), 2, none⟩ = some (.slice ua u.kids.length uc))) _ := holdT_set3 HH9.out (gz := wqt.heap.size) (x := .int .i64 R0.kind) (y := .int .i64 R0.num) (z := .slice a0 R0.kids.length c0) HZ0.out HXL.out.1 HXL.out.2
    refine hK.out _ _ (ph_one (by kernel_rfl) hS1') ?_
    clear hK K hS1
    have hS1 := hS1'
    clear hS1'
    try simp only [Act.put, List.setIfInBounds_toArray, List.set_cons_zero, List.set_cons_succ]
    refine AnyTwo.step (i := 12) (o := ⟨some 9, _, _, _, _, _⟩) (by kernel_rfl) rfl (fun K hK => ?_)
    go_simp
    refine hK.out _ _ (ph_end (by kernel_rfl) hS1) ?_
    clear hK K
    try simp only [Act.put, List.setIfInBounds_toArray, List.set_cons_zero, List.set_cons_succ]
    refine AnyTwo.done (by kernel_rfl) ?_ _
    go_wp2_with fail
    go_meet
    exact ⟨wqt.heap.size, a0, c0, rfl, rfl, hold_be hS1, HZ.out.set3, HZ0.out, (tl_sl3 HW0.out HGL.out).mono (Nat.zero_le _)⟩
  ·skip
   go_simp
   have HZ := tuck (show VarAt w2.heap.size 0 0 (.slice none 0 0) (w2.alloc (.cells #[.int .i64 0, .int .i64 0, .slice none 0 0] 29)).drew from VarAt.new w2 0 0 (.slice none 0 0))
   have HZ0 : Hid (w2.heap.size ≤ w2.heap.size) := tuck (Nat.le_refl _)
   have hS1' : (fun w' : World => Below w2.heap.size w2 w' ∧ (w.heap.size < w'.heap.size ∧ w'.cell? ⟨w.heap.size, 0, none⟩ = some (.int .i64 t.kind) ∧ w'.cell? ⟨w.heap.size, 1, none⟩ = some (.int .i64 t.num) ∧ w'.cell? ⟨w.heap.size, 2, none⟩ = some (.slice ta t.kids.length tc)) ∧ ((w.heap.size + 1) < w'.heap.size ∧ w'.cell? ⟨(w.heap.size + 1), 0, none⟩ = some (.int .i64 u.kind) ∧ w'.cell? ⟨(w.heap.size + 1), 1, none⟩ = some (.int .i64 u.num) ∧ w'.cell? ⟨(w.heap.size + 1), 2, none⟩ = some (.slice ua u.kids.length uc))) _ := ⟨(below1 w2 (.cells #[.int .i64 0, .int .i64 0, .slice none 0 0] 29)).drew, HXt.out.below (below1 w2 (.cells #[.int .i64 0, .int .i64 0, .slice none 0 0] 29)).drew, HXu.out.below (below1 w2 (.cells #[.int .i64 0, .int .i64 0, .slice none 0 0] 29)).drew⟩
   refine hK.out _ _ (ph_one (by kernel_rfl) hS1') ?_
   clear hK K hS1
   have hS1 := hS1'
   clear hS1'
   try simp only [Act.put, List.setIfInBounds_toArray, List.set_cons_zero, List.set_cons_succ]
   refine AnyTwo.step (i := 1) (o := ⟨some 35, _, _, _, _, _⟩) (by kernel_rfl) rfl (fun K hK => ?_)
   go_simp
   refine (HTOt.out _ (HSt.out.below (bAfter HB.out.be (hold_be hS1)))).mono ?_
   rintro e wqt ⟨hbq, qat, qct, FQ, rfl, hsx, -, -⟩
   have HQt := tuck (hsx.sl (B := 0) (fun _ _ => Nat.zero_le _))
   clear hsx
   replace HZ := tuck (HZ.out.below hbq)
   have hS1' : (fun w' : World => Below w2.heap.size w2 w' ∧ (w.heap.size < w'.heap.size ∧ w'.cell? ⟨w.heap.size, 0, none⟩ = some (.int .i64 t.kind) ∧ w'.cell? ⟨w.heap.size, 1, none⟩ = some (.int .i64 t.num) ∧ w'.cell? ⟨w.heap.size, 2, none⟩ = some (.slice ta t.kids.length tc)) ∧ ((w.heap.size + 1) < w'.heap.size ∧ w'.cell? ⟨(w.heap.size + 1), 0, none⟩ = some (.int .i64 u.kind) ∧ w'.cell? ⟨(w.heap.size + 1), 1, none⟩ = some (.int .i64 u.num) ∧ w'.cell? ⟨(w.heap.size + 1), 2, none⟩ = some (.slice ua u.kids.length uc))) _ := holdT hS1 hbq
   refine hK.out _ _ (ph_one (by kernel_rfl) hS1') ?_
   clear hK K hS1
   have hS1 := hS1'
   clear hS1'
   try simp only [Act.put, List.setIfInBounds_toArray, List.set_cons_zero, List.set_cons_succ]
   clear hbq
   refine AnyTwo.step (i := 3) (o := ⟨some 37, _, _, _, _, _⟩) (by kernel_rfl) rfl (fun K hK => ?_)
   go_simp
   refine (HTOp.out _ (HSp.out.below (bAfter HB.out.be (hold_be hS1)))).mono ?_
   rintro e wqp ⟨hbq, v, hv, hio⟩
   have hic := hio.intsC
   obtain ⟨qap, qcp, rfl⟩ := hic.form
   subst hv
   have HQp := tuck (hic.mono (Nat.zero_le _))
   clear hio hic
   replace HQt := tuck (HQt.out.below hbq)
   replace HZ := tuck (HZ.out.below hbq)
   have hS1' : (fun w' : World => Below w2.heap.size w2 w' ∧ (w.heap.size < w'.heap.size ∧ w'.cell? ⟨w.heap.size, 0, none⟩ = some (.int .i64 t.kind) ∧ w'.cell? ⟨w.heap.size, 1, none⟩ = some (.int .i64 t.num) ∧ w'.cell? ⟨w.heap.size, 2, none⟩ = some (.slice ta t.kids.length tc)) ∧ ((w.heap.size + 1) < w'.heap.size ∧ w'.cell? ⟨(w.heap.size + 1), 0, none⟩ = some (.int .i64 u.kind) ∧ w'.cell? ⟨(w.heap.size + 1), 1, none⟩ = some (.int .i64 u.num) ∧ w'.cell? ⟨(w.heap.size + 1), 2, none⟩ = some (.slice ua u.kids.length uc))) _ := holdT hS1 hbq
   refine hK.out _ _ (ph_one (by kernel_rfl) hS1') ?_
   clear hK K hS1
   have hS1 := hS1'
   clear hS1'
   try simp only [Act.put, List.setIfInBounds_toArray, List.set_cons_zero, List.set_cons_succ]
   clear hbq
   refine AnyTwo.step (i := 5) (o := ⟨some 39, _, _, _, _, _⟩) (by kernel_rfl) rfl (fun K hK => ?_)
   go_simp
   refine (HTOu.out _ (HSu.out.below (bAfter HB.out.be (hold_be hS1)))).mono ?_
   rintro e wqu ⟨hbq, qau, qcu, FQ, rfl, hsx, -, -⟩
   have HQu := tuck (hsx.sl (B := 0) (fun _ _ => Nat.zero_le _))
   clear hsx
   replace HQt := tuck (HQt.out.below hbq)
   replace HQp := tuck (HQp.out.below hbq)
   replace HZ := tuck (HZ.out.below hbq)
   have hS1' : (fun w' : World => Below w2.heap.size w2 w' ∧ (w.heap.size < w'.heap.size ∧ w'.cell? ⟨w.heap.size, 0, none⟩ = some (.int .i64 t.kind) ∧ w'.cell? ⟨w.heap.size, 1, none⟩ = some (.int .i64 t.num) ∧ w'.cell? ⟨w.heap.size, 2, none⟩ = some (.slice ta t.kids.length tc)) ∧ ((w.heap.size + 1) < w'.heap.size ∧ w'.cell? ⟨(w.heap.size + 1), 0, none⟩ = some (.int .i64 u.kind) ∧ w'.cell? ⟨(w.heap.size + 1), 1, none⟩ = some (.int .i64 u.num) ∧ w'.cell? ⟨(w.heap.size + 1), 2, none⟩ = some (.slice ua u.kids.length uc))) _ := holdT hS1 hbq
   refine hK.out _ _ (ph_one (by kernel_rfl) hS1') ?_
   clear hK K hS1
   have hS1 := hS1'
   clear hS1'
   try simp only [Act.put, List.setIfInBounds_toArray, List.set_cons_zero, List.set_cons_succ]
   clear hbq
   refine AnyTwo.step (i := 6) (o := ⟨some 40, _, _, _, _, _⟩) (by kernel_rfl) rfl (fun K hK => ?_)
   go_simp
   have HGL := tuck HZ.out.facts.1
   refine (HSP.out _ _ _ _ ⟨_, rfl, HQt.out⟩ HQp.out ⟨_, rfl, HQu.out⟩).mono ?_
   rintro e wr ⟨hbq, a0, c0, rfl, hw0⟩
   have HW0 := tuck hw0
   clear hw0
   have HH9 := tuck (holdT hS1 hbq)
   replace HZ := tuck (HZ.out.below hbq)
   obtain ⟨zz, y0, y1, y2, yf⟩ := HZ.out.facts
   have hS1' : (fun w' : World => Below w2.heap.size w2 w' ∧ (w.heap.size < w'.heap.size ∧ w'.cell? ⟨w.heap.size, 0, none⟩ = some (.int .i64 t.kind) ∧ w'.cell? ⟨w.heap.size, 1, none⟩ = some (.int .i64 t.num) ∧ w'.cell? ⟨w.heap.size, 2, none⟩ = some (.slice ta t.kids.length tc)) ∧ ((w.heap.size + 1) < w'.heap.size ∧ w'.cell? ⟨(w.heap.size + 1), 0, none⟩ = some (.int .i64 u.kind) ∧ w'.cell? ⟨(w.heap.size + 1), 1, none⟩ = some (.int .i64 u.num) ∧ w'.cell? ⟨(w.heap.size + 1), 2, none⟩ = some (.slice ua u.kids.length uc))) _ := HH9.out
   refine hK.out _ _ (ph_one (by kernel_rfl) hS1') ?_
   clear hK K hS1
   have hS1 := hS1'
   clear hS1'
   try simp only [Act.put, List.setIfInBounds_toArray, List.set_cons_zero, List.set_cons_succ]
   refine AnyTwo.takeAny HT12 (i := 7) (oi := ⟨some 33, _, _, _, _, _⟩) (v := ?v8acccc7) rfl (by kernel_rfl) (by kernel_rfl) (by decide +kernel) (by rfl) (fun _ _ _ h => h) (Or.inl ⟨by rfl, ?y8acccc7⟩) (ph_one (by kernel_rfl) hS1) ?r8acccc7
   case y8acccc7 => (intro w hSw; (try dsimp only at hSw); go_simp; try (with_reducible rfl))
   try simp only [Act.put, List.setIfInBounds_toArray, List.set_cons_zero, List.set_cons_succ]
   refine AnyTwo.takeAny HT12 (i := 8) (oi := ⟨some 41, _, _, _, _, _⟩) (v := ?v8acccc8) rfl (by kernel_rfl) (by kernel_rfl) (by decide +kernel) (by rfl) (fun _ _ _ h => h) (Or.inl ⟨by rfl, ?y8acccc8⟩) (ph_one (by kernel_rfl) hS1) ?r8acccc8
   case y8acccc8 => (intro w hSw; (try dsimp only at hSw); go_simp; try (with_reducible rfl))
   try simp only [Act.put, List.setIfInBounds_toArray, List.set_cons_zero, List.set_cons_succ]
   refine AnyTwo.takeAny HT12 (i := 9) (oi := ⟨some 42, _, _, _, _, _⟩) (v := ?v8acccc9) rfl (by kernel_rfl) (by kernel_rfl) (by decide +kernel) (by rfl) (fun _ _ _ h => h) (Or.inl ⟨by rfl, ?y8acccc9⟩) (ph_one (by kernel_rfl) hS1) ?r8acccc9
   case y8acccc9 => (intro w hSw; (try dsimp only at hSw); go_simp; try (with_reducible rfl))
   try simp only [Act.put, List.setIfInBounds_toArray, List.set_cons_zero, List.set_cons_succ]
   refine AnyTwo.step (i := 11) (o := ⟨none, _, _, _, _, _⟩) (by kernel_rfl) rfl (fun K hK => ?_)
   go_simp
   have hS1' : (fun w' : World => Below w2.heap.size w2 w' ∧ (w.heap.size < w'.heap.size ∧ w'.cell? ⟨w.heap.size, 0, none⟩ = some (.int .i64 t.kind) ∧ w'.cell? ⟨w.heap.size, 1, none⟩ = some (.int .i64 t.num) ∧ w'.cell? ⟨w.heap.size, 2, none⟩ = some (.slice ta t.kids.length tc)) ∧ ((w.heap.size + 1) < w'.heap.size ∧ w'.cell? ⟨(w.heap.size + 1), 0, none⟩ = some (.int .i64 u.kind) ∧ w'.cell? ⟨(w.heap.size + 1), 1, none⟩ = some (.int .i64 u.num) ∧ w'.cell? ⟨(w.heap.size + 1), 2, none⟩ = some (.slice ua u.kids.length uc))) _ := holdT_set3 HH9.out (gz := w2.heap.size) (x := .int .i64 R0.kind) (y := .int .i64 R0.num) (z := .slice a0 R0.kids.length c0) HZ0.out HXL.out.1 HXL.out.2
   refine hK.out _ _ (ph_one (by kernel_rfl) hS1') ?_
   clear hK K hS1
   have hS1 := hS1'
   clear hS1'
   try simp only [Act.put, List.setIfInBounds_toArray, List.set_cons_zero, List.set_cons_succ]
   refine AnyTwo.step (i := 12) (o := ⟨some 9, _, _, _, _, _⟩) (by kernel_rfl) rfl (fun K hK => ?_)
   go_simp
   refine hK.out _ _ (ph_end (by kernel_rfl) hS1) ?_
   clear hK K
   try simp only [Act.put, List.setIfInBounds_toArray, List.set_cons_zero, List.set_cons_succ]
   refine AnyTwo.done (by kernel_rfl) ?_ _
   go_wp2_with fail
   go_meet
   exact ⟨w2.heap.size, a0, c0, rfl, rfl, hold_be hS1, HZ.out.set3, HZ0.out, (tl_sl3 HW0.out HGL.out).mono (Nat.zero_le _)⟩
 case rest =>
  obtain ⟨g8, u8a0, u8c0, rfl, rfl, hb, hv8, hz8, hs0⟩ := hcut
  rename World => W8
  have H8W0 := tuck hs0
  have V8 := tuck hv8
  replace HXt := tuck (HXt.out.below hb)
  replace HXu := tuck (HXu.out.below hb)
  replace HB := tuck (HB.out.below hb)
  clear hb hv8 hz8 hs0
  have HZ8 : Hid (g8 < W8.heap.size) := tuck V8.out.facts.1
  clear zt c0t c1t c2t zu c0u c1u c2u
  obtain ⟨zt, c0t, c1t, c2t⟩ := HXt.out
  obtain ⟨zu, c0u, c1u, c2u⟩ := HXu.out
  obtain ⟨z8, b0, b1, b2, bf⟩ := V8.out.facts
  go_wp2_with fail
  clear z8 b0 b1 b2 bf
  clear zt c0t c1t c2t zu c0u c1u c2u
  have HBW : Hid (Bel W8 W8) := tuck ⟨Below.refl _ _⟩
  have HL1t : Hid (w.heap.size < W8.heap.size) := tuck HXt.out.1
  have HL1u : Hid ((w.heap.size + 1) < W8.heap.size) := tuck HXu.out.1
  have HL0 : Hid (w.heap.size ≤ W8.heap.size) := tuck HB.out.be.size
  have HL8 : Hid (g8 < W8.heap.size) := tuck V8.out.facts.1
  refine (HTOt.out _ (HSt.out.below HB.out.be)).mono ?_
  rintro e wxt ⟨hb, uxta, uxtc, Ft, rfl, hsx, hnx, hFx⟩
  have HOt := tuck (OwnB.of hsx hnx hFx)
  have HNt := tuck hb.size
  replace HXt := tuck (HXt.out.below hb)
  replace HXu := tuck (HXu.out.below hb)
  replace HB := tuck (HB.out.below hb)
  replace V8 := tuck (V8.out.below hb)
  replace HBW := tuck (HBW.out.below hb)
  clear hb hsx hnx hFx
  obtain ⟨zt, c0t, c1t, c2t⟩ := HXt.out
  obtain ⟨zu, c0u, c1u, c2u⟩ := HXu.out
  obtain ⟨z8, b0, b1, b2, bf⟩ := V8.out.facts
  go_wp2_with fail
  clear z8 b0 b1 b2 bf
  clear zt c0t c1t c2t zu c0u c1u c2u
  have hbx := below1 wxt (.cells #[.int .i64 t.kind, .int .i64 t.num, .slice uxta t.kids.length uxtc] 29)
  have VXt := tuck (VarAt.new wxt t.kind t.num (.slice uxta t.kids.length uxtc))
  have hzz : wxt.heap.size < (wxt.alloc (.cells #[.int .i64 t.kind, .int .i64 t.num, .slice uxta t.kids.length uxtc] 29)).heap.size := by simp
  replace HXt := tuck (HXt.out.below hbx)
  replace HXu := tuck (HXu.out.below hbx)
  replace HB := tuck (HB.out.below hbx)
  replace V8 := tuck (V8.out.below hbx)
  replace HBW := tuck (HBW.out.below hbx)
  replace HOt := tuck (HOt.out.below hbx)
  clear hbx
  generalize wxt.alloc (.cells #[.int .i64 t.kind, .int .i64 t.num, .slice uxta t.kids.length uxtc] 29) = WXt at *
  generalize wxt.heap.size = gxt at *
  have HZXt := tuck hzz
  clear hzz
  refine (HTOp.out _ (HSp.out.below HB.out.be)).mono ?_
  rintro e wxp ⟨hb, v, rfl, hio⟩
  obtain rfl := hio.form
  have HOp := tuck hio
  have HLp := tuck hio.lt
  have HNp := tuck hb.size
  replace HXt := tuck (HXt.out.below hb)
  replace HXu := tuck (HXu.out.below hb)
  replace HB := tuck (HB.out.below hb)
  replace V8 := tuck (V8.out.below hb)
  replace HBW := tuck (HBW.out.below hb)
  replace HOt := tuck (HOt.out.below hb)
  replace VXt := tuck (VXt.out.below hb)
  clear hb hio
  obtain ⟨zt, c0t, c1t, c2t⟩ := HXt.out
  obtain ⟨zu, c0u, c1u, c2u⟩ := HXu.out
  obtain ⟨z8, b0, b1, b2, bf⟩ := V8.out.facts
  obtain ⟨zxt, x0t, x1t, x2t, xft⟩ := VXt.out.facts
  go_wp2_with fail
  clear z8 b0 b1 b2 bf zxt x0t x1t x2t xft
  clear zt c0t c1t c2t zu c0u c1u c2u
  refine (HTOu.out _ (HSu.out.below HB.out.be)).mono ?_
  rintro e wxu ⟨hb, uxua, uxuc, Fu, rfl, hsx, hnx, hFx⟩
  have HOu := tuck (OwnB.of hsx hnx hFx)
  have HNu := tuck hb.size
  replace HXt := tuck (HXt.out.below hb)
  replace HXu := tuck (HXu.out.below hb)
  replace HB := tuck (HB.out.below hb)
  replace V8 := tuck (V8.out.below hb)
  replace HBW := tuck (HBW.out.below hb)
  replace HOt := tuck (HOt.out.below hb)
  replace VXt := tuck (VXt.out.below hb)
  replace HOp := tuck (HOp.out.below hb)
  clear hb hsx hnx hFx
  obtain ⟨zt, c0t, c1t, c2t⟩ := HXt.out
  obtain ⟨zu, c0u, c1u, c2u⟩ := HXu.out
  obtain ⟨z8, b0, b1, b2, bf⟩ := V8.out.facts
  obtain ⟨zxt, x0t, x1t, x2t, xft⟩ := VXt.out.facts
  go_wp2_with fail
  clear z8 b0 b1 b2 bf zxt x0t x1t x2t xft
  clear zt c0t c1t c2t zu c0u c1u c2u
  have hbx := below1 wxu (.cells #[.int .i64 u.kind, .int .i64 u.num, .slice uxua u.kids.length uxuc] 29)
  have VXu := tuck (VarAt.new wxu u.kind u.num (.slice uxua u.kids.length uxuc))
  have hzz : wxu.heap.size < (wxu.alloc (.cells #[.int .i64 u.kind, .int .i64 u.num, .slice uxua u.kids.length uxuc] 29)).heap.size := by simp
  replace HXt := tuck (HXt.out.below hbx)
  replace HXu := tuck (HXu.out.below hbx)
  replace HB := tuck (HB.out.below hbx)
  replace V8 := tuck (V8.out.below hbx)
  replace HBW := tuck (HBW.out.below hbx)
  replace HOt := tuck (HOt.out.below hbx)
  replace VXt := tuck (VXt.out.below hbx)
  replace HOp := tuck (HOp.out.below hbx)
  replace HOu := tuck (HOu.out.below hbx)
  clear hbx
  generalize wxu.alloc (.cells #[.int .i64 u.kind, .int .i64 u.num, .slice uxua u.kids.length uxuc] 29) = WXu at *
  generalize wxu.heap.size = gxu at *
  have HZXu := tuck hzz
  clear hzz
  refine (HIM.out _ _ _ _ ⟨_, rfl, HOt.out.sl⟩ (HOp.out.intsC.mono (Nat.zero_le _)) ⟨_, rfl, HOu.out.sl⟩).mono ?_
  rintro e wG ⟨hb, Ga0, Gc0, FG0, rfl, hw0, hnd, hF⟩
  have HOG0 := tuck (OwnB.of hw0 hnd hF)
  have HNG := tuck hb.size
  replace HXt := tuck (HXt.out.below hb)
  replace HXu := tuck (HXu.out.below hb)
  replace HB := tuck (HB.out.below hb)
  replace V8 := tuck (V8.out.below hb)
  replace HBW := tuck (HBW.out.below hb)
  replace HOt := tuck (HOt.out.below hb)
  replace VXt := tuck (VXt.out.below hb)
  replace HOp := tuck (HOp.out.below hb)
  replace HOu := tuck (HOu.out.below hb)
  replace VXu := tuck (VXu.out.below hb)
  clear hb hnd hF hw0
  obtain ⟨zt, c0t, c1t, c2t⟩ := HXt.out
  obtain ⟨zu, c0u, c1u, c2u⟩ := HXu.out
  obtain ⟨z8, b0, b1, b2, bf⟩ := V8.out.facts
  obtain ⟨zxt, x0t, x1t, x2t, xft⟩ := VXt.out.facts
  obtain ⟨zxu, x0u, x1u, x2u, xfu⟩ := VXu.out.facts
  go_wp2_with fail
  clear z8 b0 b1 b2 bf zxt x0t x1t x2t xft zxu x0u x1u x2u xfu
  clear zt c0t c1t c2t zu c0u c1u c2u
  have hbx := below1 wG (.cells #[.int .i64 R0.kind, .int .i64 R0.num, .slice Ga0 R0.kids.length Gc0] 29)
  have VG := tuck (VarAt.new wG R0.kind R0.num (.slice Ga0 R0.kids.length Gc0))
  have hzz : wG.heap.size < (wG.alloc (.cells #[.int .i64 R0.kind, .int .i64 R0.num, .slice Ga0 R0.kids.length Gc0] 29)).heap.size := by simp
  replace HXt := tuck (HXt.out.below hbx)
  replace HXu := tuck (HXu.out.below hbx)
  replace HB := tuck (HB.out.below hbx)
  replace V8 := tuck (V8.out.below hbx)
  replace HBW := tuck (HBW.out.below hbx)
  replace HOt := tuck (HOt.out.below hbx)
  replace VXt := tuck (VXt.out.below hbx)
  replace HOp := tuck (HOp.out.below hbx)
  replace HOu := tuck (HOu.out.below hbx)
  replace VXu := tuck (VXu.out.below hbx)
  replace HOG0 := tuck (HOG0.out.below hbx)
  clear hbx
  generalize wG.alloc (.cells #[.int .i64 R0.kind, .int .i64 R0.num, .slice Ga0 R0.kids.length Gc0] 29) = WG at *
  generalize wG.heap.size = gG at *
  have HZG := tuck hzz
  clear hzz
  refine (HEQR0.out _ _ _ ⟨_, rfl, HOG0.out.sl⟩ ⟨_, rfl, H8W0.out.below HBW.out.be⟩).mono ?_
  rintro e wE0 ⟨rfl, hb⟩
  replace HXt := tuck (HXt.out.below hb)
  replace HXu := tuck (HXu.out.below hb)
  replace HB := tuck (HB.out.below hb)
  replace V8 := tuck (V8.out.below hb)
  replace HBW := tuck (HBW.out.below hb)
  replace HOt := tuck (HOt.out.below hb)
  replace VXt := tuck (VXt.out.below hb)
  replace HOp := tuck (HOp.out.below hb)
  replace HOu := tuck (HOu.out.below hb)
  replace VXu := tuck (VXu.out.below hb)
  replace HOG0 := tuck (HOG0.out.below hb)
  replace VG := tuck (VG.out.below hb)
  clear hb
  obtain ⟨zt, c0t, c1t, c2t⟩ := HXt.out
  obtain ⟨zu, c0u, c1u, c2u⟩ := HXu.out
  obtain ⟨z8, b0, b1, b2, bf⟩ := V8.out.facts
  obtain ⟨z11, d0, d1, d2, df⟩ := VG.out.facts
  obtain ⟨zxt, x0t, x1t, x2t, xft⟩ := VXt.out.facts
  obtain ⟨zxu, x0u, x1u, x2u, xfu⟩ := VXu.out.facts
  go_wp2_with fail
  clear z8 b0 b1 b2 bf z11 d0 d1 d2 df zxt x0t x1t x2t xft zxu x0u x1u x2u xfu
  clear zt c0t c1t c2t zu c0u c1u c2u
  go_region_held3 (fun w' => Below wE0.heap.size wE0 w' ∧ (w.heap.size < w'.heap.size ∧ w'.cell? ⟨w.heap.size, 0, none⟩ = some (.int .i64 t.kind) ∧ w'.cell? ⟨w.heap.size, 1, none⟩ = some (.int .i64 t.num) ∧ w'.cell? ⟨w.heap.size, 2, none⟩ = some (.slice ta t.kids.length tc)) ∧ (gxt < w'.heap.size ∧ w'.cell? ⟨gxt, 0, none⟩ = some (.int .i64 t.kind) ∧ w'.cell? ⟨gxt, 1, none⟩ = some (.int .i64 t.num) ∧ w'.cell? ⟨gxt, 2, none⟩ = some (.slice uxta t.kids.length uxtc))) (first | exact ⟨(Below.refl _ _).drew, HXt.out, VXt.out.four⟩ | exact holdT (by assumption) hb71 | exact holdT (by assumption) hb72) (first | (go_at_call 11; refine (HTOt.out _ (HSt.out.below (bAfter HB.out.be (hold_be (by assumption))))).mono ?_; rintro e w71t ⟨hb71, qa, qc, F71, rfl, hs71, -, -⟩) | (go_at_call 14; refine (HEQt.out _ _ _ ⟨_, rfl, HOt.out.sl.below (hold_be (by assumption))⟩ ⟨_, rfl, hs71.sl (fun _ _ => Nat.zero_le _)⟩).mono ?_; rintro e w72t ⟨rfl, hb72⟩))
  have hb : Below wE0.heap.size wE0 w72t := hold_be (by assumption)
  replace HXt := tuck (HXt.out.below hb)
  replace HXu := tuck (HXu.out.below hb)
  replace HB := tuck (HB.out.below hb)
  replace V8 := tuck (V8.out.below hb)
  replace HBW := tuck (HBW.out.below hb)
  replace HOt := tuck (HOt.out.below hb)
  replace VXt := tuck (VXt.out.below hb)
  replace HOp := tuck (HOp.out.below hb)
  replace HOu := tuck (HOu.out.below hb)
  replace VXu := tuck (VXu.out.below hb)
  replace HOG0 := tuck (HOG0.out.below hb)
  replace VG := tuck (VG.out.below hb)
  clear hb hb71 hb72 hs71
  obtain ⟨zt, c0t, c1t, c2t⟩ := HXt.out
  obtain ⟨zu, c0u, c1u, c2u⟩ := HXu.out
  obtain ⟨z8, b0, b1, b2, bf⟩ := V8.out.facts
  obtain ⟨z11, d0, d1, d2, df⟩ := VG.out.facts
  obtain ⟨zxt, x0t, x1t, x2t, xft⟩ := VXt.out.facts
  obtain ⟨zxu, x0u, x1u, x2u, xfu⟩ := VXu.out.facts
  go_wp2_with fail
  clear z8 b0 b1 b2 bf z11 d0 d1 d2 df zxt x0t x1t x2t xft zxu x0u x1u x2u xfu
  clear zt c0t c1t c2t zu c0u c1u c2u
  refine (HTOp.out _ (HSp.out.below HB.out.be)).mono ?_
  rintro e w73p ⟨hb, v, rfl, hio⟩
  obtain rfl := hio.form
  have Hyp := tuck (hio.intsC.mono (Nat.zero_le _))
  replace HXt := tuck (HXt.out.below hb)
  replace HXu := tuck (HXu.out.below hb)
  replace HB := tuck (HB.out.below hb)
  replace V8 := tuck (V8.out.below hb)
  replace HBW := tuck (HBW.out.below hb)
  replace HOt := tuck (HOt.out.below hb)
  replace VXt := tuck (VXt.out.below hb)
  replace HOp := tuck (HOp.out.below hb)
  replace HOu := tuck (HOu.out.below hb)
  replace VXu := tuck (VXu.out.below hb)
  replace HOG0 := tuck (HOG0.out.below hb)
  replace VG := tuck (VG.out.below hb)
  clear hb hio
  obtain ⟨zt, c0t, c1t, c2t⟩ := HXt.out
  obtain ⟨zu, c0u, c1u, c2u⟩ := HXu.out
  obtain ⟨z8, b0, b1, b2, bf⟩ := V8.out.facts
  obtain ⟨z11, d0, d1, d2, df⟩ := VG.out.facts
  obtain ⟨zxt, x0t, x1t, x2t, xft⟩ := VXt.out.facts
  obtain ⟨zxu, x0u, x1u, x2u, xfu⟩ := VXu.out.facts
  go_wp2_with fail
  clear z8 b0 b1 b2 bf z11 d0 d1 d2 df zxt x0t x1t x2t xft zxu x0u x1u x2u xfu
  clear zt c0t c1t c2t zu c0u c1u c2u
  refine (HEQp.out _ _ _ (HOp.out.ints.mono (Nat.zero_le _)) Hyp.out.ints).mono ?_
  rintro e w74p ⟨rfl, hb⟩
  replace HXt := tuck (HXt.out.below hb)
  replace HXu := tuck (HXu.out.below hb)
  replace HB := tuck (HB.out.below hb)
  replace V8 := tuck (V8.out.below hb)
  replace HBW := tuck (HBW.out.below hb)
  replace HOt := tuck (HOt.out.below hb)
  replace VXt := tuck (VXt.out.below hb)
  replace HOp := tuck (HOp.out.below hb)
  replace HOu := tuck (HOu.out.below hb)
  replace VXu := tuck (VXu.out.below hb)
  replace HOG0 := tuck (HOG0.out.below hb)
  replace VG := tuck (VG.out.below hb)
  clear hb Hyp
  obtain ⟨zt, c0t, c1t, c2t⟩ := HXt.out
  obtain ⟨zu, c0u, c1u, c2u⟩ := HXu.out
  obtain ⟨z8, b0, b1, b2, bf⟩ := V8.out.facts
  obtain ⟨z11, d0, d1, d2, df⟩ := VG.out.facts
  obtain ⟨zxt, x0t, x1t, x2t, xft⟩ := VXt.out.facts
  obtain ⟨zxu, x0u, x1u, x2u, xfu⟩ := VXu.out.facts
  go_wp2_with fail
  clear z8 b0 b1 b2 bf z11 d0 d1 d2 df zxt x0t x1t x2t xft zxu x0u x1u x2u xfu
  clear zt c0t c1t c2t zu c0u c1u c2u
  go_region_held3 (fun w' => Below w74p.heap.size w74p w' ∧ ((w.heap.size + 1) < w'.heap.size ∧ w'.cell? ⟨(w.heap.size + 1), 0, none⟩ = some (.int .i64 u.kind) ∧ w'.cell? ⟨(w.heap.size + 1), 1, none⟩ = some (.int .i64 u.num) ∧ w'.cell? ⟨(w.heap.size + 1), 2, none⟩ = some (.slice ua u.kids.length uc)) ∧ (gxu < w'.heap.size ∧ w'.cell? ⟨gxu, 0, none⟩ = some (.int .i64 u.kind) ∧ w'.cell? ⟨gxu, 1, none⟩ = some (.int .i64 u.num) ∧ w'.cell? ⟨gxu, 2, none⟩ = some (.slice uxua u.kids.length uxuc))) (first | exact ⟨(Below.refl _ _).drew, HXu.out, VXu.out.four⟩ | exact holdT (by assumption) hb71 | exact holdT (by assumption) hb72) (first | (go_at_call 11; refine (HTOu.out _ (HSu.out.below (bAfter HB.out.be (hold_be (by assumption))))).mono ?_; rintro e w71u ⟨hb71, qa, qc, F71, rfl, hs71, -, -⟩) | (go_at_call 14; refine (HEQu.out _ _ _ ⟨_, rfl, HOu.out.sl.below (hold_be (by assumption))⟩ ⟨_, rfl, hs71.sl (fun _ _ => Nat.zero_le _)⟩).mono ?_; rintro e w72u ⟨rfl, hb72⟩))
  have hb : Below w74p.heap.size w74p w72u := hold_be (by assumption)
  replace HXt := tuck (HXt.out.below hb)
  replace HXu := tuck (HXu.out.below hb)
  replace HB := tuck (HB.out.below hb)
  replace V8 := tuck (V8.out.below hb)
  replace HBW := tuck (HBW.out.below hb)
  replace HOt := tuck (HOt.out.below hb)
  replace VXt := tuck (VXt.out.below hb)
  replace HOp := tuck (HOp.out.below hb)
  replace HOu := tuck (HOu.out.below hb)
  replace VXu := tuck (VXu.out.below hb)
  replace HOG0 := tuck (HOG0.out.below hb)
  replace VG := tuck (VG.out.below hb)
  clear hb hb71 hb72 hs71
  obtain ⟨zt, c0t, c1t, c2t⟩ := HXt.out
  obtain ⟨zu, c0u, c1u, c2u⟩ := HXu.out
  obtain ⟨z8, b0, b1, b2, bf⟩ := V8.out.facts
  obtain ⟨z11, d0, d1, d2, df⟩ := VG.out.facts
  obtain ⟨zxt, x0t, x1t, x2t, xft⟩ := VXt.out.facts
  obtain ⟨zxu, x0u, x1u, x2u, xfu⟩ := VXu.out.facts
  go_wp2_with fail
  clear z8 b0 b1 b2 bf z11 d0 d1 d2 df zxt x0t x1t x2t xft zxu x0u x1u x2u xfu
  clear zt c0t c1t c2t zu c0u c1u c2u
  have geHOt := HOt.out.ge
  have ltHOt := HOt.out.lt
  have geHOu := HOu.out.ge
  have ltHOu := HOu.out.lt
  have geHOG0 := HOG0.out.ge
  have ltHOG0 := HOG0.out.lt
  refine (markT_any t Ft (1) _ _ HKt.out.1 HKt.out.2 HOt.out.nd HOt.out.lts HOt.out.own).mono ?_
  rintro e wmt ⟨rfl, hown, hbut⟩
  have e0 := HL1t.out; have e1 := HL1u.out; have e2 := HL0.out; have e3 := HL8.out; have e4 := HNt.out; have e5 := HZXt.out; have e6 := HNp.out; have e7 := HLp.out; have e8 := HNu.out; have e9 := HZXu.out; have e10 := HNG.out; have e11 := HZG.out
  skip
  replace HXt := tuck (HXt.out.but hbut (fun hf => by have h1 := geHOt _ hf; have h2 := ltHOt _ hf; omega))
  replace HXu := tuck (HXu.out.but hbut (fun hf => by have h1 := geHOt _ hf; have h2 := ltHOt _ hf; omega))
  replace HB := tuck (HB.out.but hbut (fun g hf => by have h1 := geHOt _ hf; have h2 := ltHOt _ hf; omega))
  replace V8 := tuck (V8.out.but hbut (fun hf => by have h1 := geHOt _ hf; have h2 := ltHOt _ hf; omega))
  replace HBW := tuck (HBW.out.but hbut (fun g hf => by have h1 := geHOt _ hf; have h2 := ltHOt _ hf; omega))
  replace HOp := tuck (HOp.out.but hbut (fun hf => by have h1 := geHOt _ hf; have h2 := ltHOt _ hf; omega))
  replace HOu := tuck (HOu.out.but hbut (fun g hg hf => by have h1 := geHOt _ hf; have h2 := ltHOt _ hf; have h3 := geHOu _ hg; have h4 := ltHOu _ hg; omega))
  replace VXu := tuck (VXu.out.but hbut (fun hf => by have h1 := geHOt _ hf; have h2 := ltHOt _ hf; omega))
  replace HOG0 := tuck (HOG0.out.but hbut (fun g hg hf => by have h1 := geHOt _ hf; have h2 := ltHOt _ hf; have h3 := geHOG0 _ hg; have h4 := ltHOG0 _ hg; omega))
  replace VG := tuck (VG.out.but hbut (fun hf => by have h1 := geHOt _ hf; have h2 := ltHOt _ hf; omega))
  clear hbut hown geHOt ltHOt geHOu ltHOu geHOG0 ltHOG0
  clear e0 e1 e2 e3 e4 e5 e6 e7 e8 e9 e10 e11
  clear VXt
  clear HOt
  obtain ⟨zt, c0t, c1t, c2t⟩ := HXt.out
  obtain ⟨zu, c0u, c1u, c2u⟩ := HXu.out
  obtain ⟨z8, b0, b1, b2, bf⟩ := V8.out.facts
  obtain ⟨z11, d0, d1, d2, df⟩ := VG.out.facts
  obtain ⟨zxu, x0u, x1u, x2u, xfu⟩ := VXu.out.facts
  go_wp2_with fail
  clear z8 b0 b1 b2 bf z11 d0 d1 d2 df zxu x0u x1u x2u xfu
  clear zt c0t c1t c2t zu c0u c1u c2u
  have geHOu := HOu.out.ge
  have ltHOu := HOu.out.lt
  have geHOG0 := HOG0.out.ge
  have ltHOG0 := HOG0.out.lt
  refine (markInts_any Np lenp _ ((1 : Int) + 2 * (sizes t.kids : Int)) _ _ HLENp.out HKp.out.1 HKp.out.2 HOp.out).mono ?_
  rintro e wmp ⟨rfl, hbut⟩
  have e0 := HL1t.out; have e1 := HL1u.out; have e2 := HL0.out; have e3 := HL8.out; have e4 := HNt.out; have e5 := HZXt.out; have e6 := HNp.out; have e7 := HLp.out; have e8 := HNu.out; have e9 := HZXu.out; have e10 := HNG.out; have e11 := HZG.out
  skip
  replace HXt := tuck (HXt.out.but hbut (fun hf => by have h1 := List.mem_singleton.1 hf; omega))
  replace HXu := tuck (HXu.out.but hbut (fun hf => by have h1 := List.mem_singleton.1 hf; omega))
  replace HB := tuck (HB.out.but hbut (fun g hf => by have h1 := List.mem_singleton.1 hf; omega))
  replace V8 := tuck (V8.out.but hbut (fun hf => by have h1 := List.mem_singleton.1 hf; omega))
  replace HBW := tuck (HBW.out.but hbut (fun g hf => by have h1 := List.mem_singleton.1 hf; omega))
  replace HOu := tuck (HOu.out.but hbut (fun g hg hf => by have h1 := List.mem_singleton.1 hf; have h3 := geHOu _ hg; have h4 := ltHOu _ hg; omega))
  replace VXu := tuck (VXu.out.but hbut (fun hf => by have h1 := List.mem_singleton.1 hf; omega))
  replace HOG0 := tuck (HOG0.out.but hbut (fun g hg hf => by have h1 := List.mem_singleton.1 hf; have h3 := geHOG0 _ hg; have h4 := ltHOG0 _ hg; omega))
  replace VG := tuck (VG.out.but hbut (fun hf => by have h1 := List.mem_singleton.1 hf; omega))
  clear hbut geHOu ltHOu geHOG0 ltHOG0
  clear e0 e1 e2 e3 e4 e5 e6 e7 e8 e9 e10 e11
  clear HOp
  obtain ⟨zt, c0t, c1t, c2t⟩ := HXt.out
  obtain ⟨zu, c0u, c1u, c2u⟩ := HXu.out
  obtain ⟨z8, b0, b1, b2, bf⟩ := V8.out.facts
  obtain ⟨z11, d0, d1, d2, df⟩ := VG.out.facts
  obtain ⟨zxu, x0u, x1u, x2u, xfu⟩ := VXu.out.facts
  go_wp2_with fail
  clear z8 b0 b1 b2 bf z11 d0 d1 d2 df zxu x0u x1u x2u xfu
  clear zt c0t c1t c2t zu c0u c1u c2u
  have geHOu := HOu.out.ge
  have ltHOu := HOu.out.lt
  have geHOG0 := HOG0.out.ge
  have ltHOG0 := HOG0.out.lt
  refine (markT_any u Fu ((1 : Int) + 2 * (sizes t.kids : Int) + (lenp : Int)) _ _ HKu.out.1 HKu.out.2 HOu.out.nd HOu.out.lts HOu.out.own).mono ?_
  rintro e wmu ⟨rfl, hown, hbut⟩
  have e0 := HL1t.out; have e1 := HL1u.out; have e2 := HL0.out; have e3 := HL8.out; have e4 := HNt.out; have e5 := HZXt.out; have e6 := HNp.out; have e7 := HLp.out; have e8 := HNu.out; have e9 := HZXu.out; have e10 := HNG.out; have e11 := HZG.out
  skip
  replace HXt := tuck (HXt.out.but hbut (fun hf => by have h1 := geHOu _ hf; have h2 := ltHOu _ hf; omega))
  replace HXu := tuck (HXu.out.but hbut (fun hf => by have h1 := geHOu _ hf; have h2 := ltHOu _ hf; omega))
  replace HB := tuck (HB.out.but hbut (fun g hf => by have h1 := geHOu _ hf; have h2 := ltHOu _ hf; omega))
  replace V8 := tuck (V8.out.but hbut (fun hf => by have h1 := geHOu _ hf; have h2 := ltHOu _ hf; omega))
  replace HBW := tuck (HBW.out.but hbut (fun g hf => by have h1 := geHOu _ hf; have h2 := ltHOu _ hf; omega))
  replace HOG0 := tuck (HOG0.out.but hbut (fun g hg hf => by have h1 := geHOu _ hf; have h2 := ltHOu _ hf; have h3 := geHOG0 _ hg; have h4 := ltHOG0 _ hg; omega))
  replace VG := tuck (VG.out.but hbut (fun hf => by have h1 := geHOu _ hf; have h2 := ltHOu _ hf; omega))
  clear hbut hown geHOu ltHOu geHOG0 ltHOG0
  clear e0 e1 e2 e3 e4 e5 e6 e7 e8 e9 e10 e11
  clear VXu
  clear HOu
  obtain ⟨zt, c0t, c1t, c2t⟩ := HXt.out
  obtain ⟨zu, c0u, c1u, c2u⟩ := HXu.out
  obtain ⟨z8, b0, b1, b2, bf⟩ := V8.out.facts
  obtain ⟨z11, d0, d1, d2, df⟩ := VG.out.facts
  go_wp2_with fail
  clear z8 b0 b1 b2 bf z11 d0 d1 d2 df
  clear zt c0t c1t c2t zu c0u c1u c2u
  refine (HEQR0.out _ _ _ ⟨_, rfl, HOG0.out.sl⟩ ⟨_, rfl, H8W0.out.below HBW.out.be⟩).mono ?_
  rintro e wK0 ⟨rfl, hb⟩
  replace HXt := tuck (HXt.out.below hb)
  replace HXu := tuck (HXu.out.below hb)
  replace HB := tuck (HB.out.below hb)
  replace V8 := tuck (V8.out.below hb)
  replace HBW := tuck (HBW.out.below hb)
  replace HOG0 := tuck (HOG0.out.below hb)
  replace VG := tuck (VG.out.below hb)
  clear hb
  obtain ⟨zt, c0t, c1t, c2t⟩ := HXt.out
  obtain ⟨zu, c0u, c1u, c2u⟩ := HXu.out
  obtain ⟨z8, b0, b1, b2, bf⟩ := V8.out.facts
  obtain ⟨z11, d0, d1, d2, df⟩ := VG.out.facts
  go_wp2_with fail
  clear z8 b0 b1 b2 bf z11 d0 d1 d2 df
  clear zt c0t c1t c2t zu c0u c1u c2u
  have geHOG0 := HOG0.out.ge
  have ltHOG0 := HOG0.out.lt
  refine (markT_any R0 FG0 (1) _ _ HM0.out.1 HM0.out.2 HOG0.out.nd HOG0.out.lts HOG0.out.own).mono ?_
  rintro e wn0 ⟨rfl, hown, hbut⟩
  have e0 := HL1t.out; have e1 := HL1u.out; have e2 := HL0.out; have e3 := HL8.out; have e4 := HNt.out; have e5 := HZXt.out; have e6 := HNp.out; have e7 := HLp.out; have e8 := HNu.out; have e9 := HZXu.out; have e10 := HNG.out; have e11 := HZG.out
  skip
  replace HXt := tuck (HXt.out.but hbut (fun hf => by have h1 := geHOG0 _ hf; have h2 := ltHOG0 _ hf; omega))
  replace HXu := tuck (HXu.out.but hbut (fun hf => by have h1 := geHOG0 _ hf; have h2 := ltHOG0 _ hf; omega))
  replace HB := tuck (HB.out.but hbut (fun g hf => by have h1 := geHOG0 _ hf; have h2 := ltHOG0 _ hf; omega))
  replace V8 := tuck (V8.out.but hbut (fun hf => by have h1 := geHOG0 _ hf; have h2 := ltHOG0 _ hf; omega))
  replace HBW := tuck (HBW.out.but hbut (fun g hf => by have h1 := geHOG0 _ hf; have h2 := ltHOG0 _ hf; omega))
  replace VG := tuck (VG.out.but hbut (fun hf => by have h1 := geHOG0 _ hf; have h2 := ltHOG0 _ hf; omega))
  replace HOG0 := tuck (HOG0.out.marked hown hbut.size)
  clear hbut hown geHOG0 ltHOG0
  clear e0 e1 e2 e3 e4 e5 e6 e7 e8 e9 e10 e11
  obtain ⟨zt, c0t, c1t, c2t⟩ := HXt.out
  obtain ⟨zu, c0u, c1u, c2u⟩ := HXu.out
  obtain ⟨z8, b0, b1, b2, bf⟩ := V8.out.facts
  obtain ⟨z11, d0, d1, d2, df⟩ := VG.out.facts
  go_wp2_with fail
  clear z8 b0 b1 b2 bf z11 d0 d1 d2 df
  clear zt c0t c1t c2t zu c0u c1u c2u
  refine (heldT_any R0 R0.kids 0 (1) _ _ HM0.out.1 HM0.out.2 HOG0.out.sl).mono ?_
  rintro e wh0 ⟨rfl, hb⟩
  replace HXt := tuck (HXt.out.below hb)
  replace HXu := tuck (HXu.out.below hb)
  replace HB := tuck (HB.out.below hb)
  replace V8 := tuck (V8.out.below hb)
  replace HBW := tuck (HBW.out.below hb)
  replace HOG0 := tuck (HOG0.out.below hb)
  replace VG := tuck (VG.out.below hb)
  clear hb
  obtain ⟨zt, c0t, c1t, c2t⟩ := HXt.out
  obtain ⟨zu, c0u, c1u, c2u⟩ := HXu.out
  go_upto_region 37 with fail
  go_cut [18, 19] (fun p0 p1 wx => ∃ (gz : Nat) (a0 : Option Addr) (c0 : Nat), p0 = .pointer (some ⟨gz, 0, none⟩) ∧ p1 = .bool R1 ∧ Below wh0.heap.size wh0 wx ∧ VarAt gz R0.kind R0.num (.slice a0 R0.kids.length c0) wx ∧ wh0.heap.size ≤ gz ∧ SlIn wx 0 R0.kids (.slice a0 R0.kids.length c0))
  case first =>
   have HT12 : ∀ w' : World, (fun w' : World => Below wh0.heap.size wh0 w' ∧ (w.heap.size < w'.heap.size ∧ w'.cell? ⟨w.heap.size, 0, none⟩ = some (.int .i64 t.kind) ∧ w'.cell? ⟨w.heap.size, 1, none⟩ = some (.int .i64 t.num) ∧ w'.cell? ⟨w.heap.size, 2, none⟩ = some (.slice ta t.kids.length tc)) ∧ ((w.heap.size + 1) < w'.heap.size ∧ w'.cell? ⟨(w.heap.size + 1), 0, none⟩ = some (.int .i64 u.kind) ∧ w'.cell? ⟨(w.heap.size + 1), 1, none⟩ = some (.int .i64 u.num) ∧ w'.cell? ⟨(w.heap.size + 1), 2, none⟩ = some (.slice ua u.kids.length uc))) w' → (fun w' : World => Below wh0.heap.size wh0 w' ∧ (w.heap.size < w'.heap.size ∧ w'.cell? ⟨w.heap.size, 0, none⟩ = some (.int .i64 t.kind) ∧ w'.cell? ⟨w.heap.size, 1, none⟩ = some (.int .i64 t.num) ∧ w'.cell? ⟨w.heap.size, 2, none⟩ = some (.slice ta t.kids.length tc)) ∧ ((w.heap.size + 1) < w'.heap.size ∧ w'.cell? ⟨(w.heap.size + 1), 0, none⟩ = some (.int .i64 u.kind) ∧ w'.cell? ⟨(w.heap.size + 1), 1, none⟩ = some (.int .i64 u.num) ∧ w'.cell? ⟨(w.heap.size + 1), 2, none⟩ = some (.slice ua u.kids.length uc))) w' := fun w' h => h
   refine AnyTwo.begin (fun w' : World => Below wh0.heap.size wh0 w' ∧ (w.heap.size < w'.heap.size ∧ w'.cell? ⟨w.heap.size, 0, none⟩ = some (.int .i64 t.kind) ∧ w'.cell? ⟨w.heap.size, 1, none⟩ = some (.int .i64 t.num) ∧ w'.cell? ⟨w.heap.size, 2, none⟩ = some (.slice ta t.kids.length tc)) ∧ ((w.heap.size + 1) < w'.heap.size ∧ w'.cell? ⟨(w.heap.size + 1), 0, none⟩ = some (.int .i64 u.kind) ∧ w'.cell? ⟨(w.heap.size + 1), 1, none⟩ = some (.int .i64 u.num) ∧ w'.cell? ⟨(w.heap.size + 1), 2, none⟩ = some (.slice ua u.kids.length uc))) (fun w' : World => Below wh0.heap.size wh0 w' ∧ (w.heap.size < w'.heap.size ∧ w'.cell? ⟨w.heap.size, 0, none⟩ = some (.int .i64 t.kind) ∧ w'.cell? ⟨w.heap.size, 1, none⟩ = some (.int .i64 t.num) ∧ w'.cell? ⟨w.heap.size, 2, none⟩ = some (.slice ta t.kids.length tc)) ∧ ((w.heap.size + 1) < w'.heap.size ∧ w'.cell? ⟨(w.heap.size + 1), 0, none⟩ = some (.int .i64 u.kind) ∧ w'.cell? ⟨(w.heap.size + 1), 1, none⟩ = some (.int .i64 u.num) ∧ w'.cell? ⟨(w.heap.size + 1), 2, none⟩ = some (.slice ua u.kids.length uc))) 12 (by kernel_rfl) ?_
   have hS1 : (fun w' : World => Below wh0.heap.size wh0 w' ∧ (w.heap.size < w'.heap.size ∧ w'.cell? ⟨w.heap.size, 0, none⟩ = some (.int .i64 t.kind) ∧ w'.cell? ⟨w.heap.size, 1, none⟩ = some (.int .i64 t.num) ∧ w'.cell? ⟨w.heap.size, 2, none⟩ = some (.slice ta t.kids.length tc)) ∧ ((w.heap.size + 1) < w'.heap.size ∧ w'.cell? ⟨(w.heap.size + 1), 0, none⟩ = some (.int .i64 u.kind) ∧ w'.cell? ⟨(w.heap.size + 1), 1, none⟩ = some (.int .i64 u.num) ∧ w'.cell? ⟨(w.heap.size + 1), 2, none⟩ = some (.slice ua u.kids.length uc))) wh0.drew := ⟨(Below.refl _ _).drew, HXt.out, HXu.out⟩
   have HXL : Hid (w.heap.size < wh0.heap.size ∧ (w.heap.size + 1) < wh0.heap.size) := tuck ⟨HXt.out.1, HXu.out.1⟩
   refine AnyTwo.takeAny HT12 (i := 0) (oi := ⟨some 114, _, _, _, _, _⟩) (v := ?vH0) rfl (by kernel_rfl) (by kernel_rfl) (by decide +kernel) (by rfl) (fun _ _ _ h => h) (Or.inl ⟨by rfl, ?yH0⟩) (ph_one (by kernel_rfl) hS1) ?rH0
   case yH0 => (intro w hSw; (try dsimp only at hSw); go_simp; try (with_reducible rfl))
   try simp only [Act.put, List.setIfInBounds_toArray, List.set_cons_zero, List.set_cons_succ]
   refine AnyTwo.takeAny HT12 (i := 2) (oi := ⟨some 116, _, _, _, _, _⟩) (v := ?vH2) rfl (by kernel_rfl) (by kernel_rfl) (by decide +kernel) (by rfl) (fun _ _ _ h => h) (Or.inl ⟨by rfl, ?yH2⟩) (ph_one (by kernel_rfl) hS1) ?rH2
   case yH2 => (intro w hSw; (try dsimp only at hSw); go_simp; try (with_reducible rfl))
   try simp only [Act.put, List.setIfInBounds_toArray, List.set_cons_zero, List.set_cons_succ]
   refine AnyTwo.takeAny HT12 (i := 4) (oi := ⟨some 118, _, _, _, _, _⟩) (v := ?vH4) rfl (by kernel_rfl) (by kernel_rfl) (by decide +kernel) (by rfl) (fun _ _ _ h => h) (Or.inl ⟨by rfl, ?yH4⟩) (ph_one (by kernel_rfl) hS1) ?rH4
   case yH4 => (intro w hSw; (try dsimp only at hSw); go_simp; try (with_reducible rfl))
   try simp only [Act.put, List.setIfInBounds_toArray, List.set_cons_zero, List.set_cons_succ]
   refine AnyTwo.fork (i := 1) (o := ⟨some 115, _, _, _, _, _⟩) (j := 10) (o' := ⟨some 18, _, _, _, _, _⟩) (by kernel_rfl) rfl rfl (fun K hK => ?_) (fun K hK => ?_)
   ·skip
    go_simp
    refine (HTOt.out _ (HSt.out.below (bAfter HB.out.be (hold_be hS1)))).mono ?_
    rintro e wqt ⟨hbq, qat, qct, FQ, rfl, hsx, -, -⟩
    have HQt := tuck (hsx.sl (B := 0) (fun _ _ => Nat.zero_le _))
    clear hsx
    have hS1' : (fun w' : World => Below wh0.heap.size wh0 w' ∧ (w.heap.size < w'.heap.size ∧ w'.cell? ⟨w.heap.size, 0, none⟩ = some (.int .i64 t.kind) ∧ w'.cell? ⟨w.heap.size, 1, none⟩ = some (.int .i64 t.num) ∧ w'.cell? ⟨w.heap.size, 2, none⟩ = some (.slice ta t.kids.length tc)) ∧ ((w.heap.size + 1) < w'.heap.size ∧ w'.cell? ⟨(w.heap.size + 1), 0, none⟩ = some (.int .i64 u.kind) ∧ w'.cell? ⟨(w.heap.size + 1), 1, none⟩ = some (.int .i64 u.num) ∧ w'.cell? ⟨(w.heap.size + 1), 2, none⟩ = some (.slice ua u.kids.length uc))) _ := holdT hS1 hbq
    refine hK.out _ _ (ph_one (by kernel_rfl) hS1') ?_
    clear hK K hS1
    have hS1 := hS1'
    clear hS1'
    try simp only [Act.put, List.setIfInBounds_toArray, List.set_cons_zero, List.set_cons_succ]
    clear hbq
    refine AnyTwo.fork (i := 3) (o := ⟨some 117, _, _, _, _, _⟩) (j := 10) (o' := ⟨some 18, _, _, _, _, _⟩) (by kernel_rfl) rfl rfl (fun K hK => ?_) (fun K hK => ?_)
    ·skip
     go_simp
     refine (HTOp.out _ (HSp.out.below (bAfter HB.out.be (hold_be hS1)))).mono ?_
     rintro e wqp ⟨hbq, v, hv, hio⟩
     have hic := hio.intsC
     obtain ⟨qap, qcp, rfl⟩ := hic.form
     subst hv
     have HQp := tuck (hic.mono (Nat.zero_le _))
     clear hio hic
     replace HQt := tuck (HQt.out.below hbq)
     have hS1' : (fun w' : World => Below wh0.heap.size wh0 w' ∧ (w.heap.size < w'.heap.size ∧ w'.cell? ⟨w.heap.size, 0, none⟩ = some (.int .i64 t.kind) ∧ w'.cell? ⟨w.heap.size, 1, none⟩ = some (.int .i64 t.num) ∧ w'.cell? ⟨w.heap.size, 2, none⟩ = some (.slice ta t.kids.length tc)) ∧ ((w.heap.size + 1) < w'.heap.size ∧ w'.cell? ⟨(w.heap.size + 1), 0, none⟩ = some (.int .i64 u.kind) ∧ w'.cell? ⟨(w.heap.size + 1), 1, none⟩ = some (.int .i64 u.num) ∧ w'.cell? ⟨(w.heap.size + 1), 2, none⟩ = some (.slice ua u.kids.length uc))) _ := holdT hS1 hbq
     refine hK.out _ _ (ph_one (by kernel_rfl) hS1') ?_
     clear hK K hS1
     have hS1 := hS1'
     clear hS1'
     try simp only [Act.put, List.setIfInBounds_toArray, List.set_cons_zero, List.set_cons_succ]
     clear hbq
     refine AnyTwo.fork (i := 5) (o := ⟨some 119, _, _, _, _, _⟩) (j := 10) (o' := ⟨some 18, _, _, _, _, _⟩) (by kernel_rfl) rfl rfl (fun K hK => ?_) (fun K hK => ?_)
     ·skip
      go_simp
      refine (HTOu.out _ (HSu.out.below (bAfter HB.out.be (hold_be hS1)))).mono ?_
      rintro e wqu ⟨hbq, qau, qcu, FQ, rfl, hsx, -, -⟩
      have HQu := tuck (hsx.sl (B := 0) (fun _ _ => Nat.zero_le _))
      clear hsx
      replace HQt := tuck (HQt.out.below hbq)
      replace HQp := tuck (HQp.out.below hbq)
      have hS1' : (fun w' : World => Below wh0.heap.size wh0 w' ∧ (w.heap.size < w'.heap.size ∧ w'.cell? ⟨w.heap.size, 0, none⟩ = some (.int .i64 t.kind) ∧ w'.cell? ⟨w.heap.size, 1, none⟩ = some (.int .i64 t.num) ∧ w'.cell? ⟨w.heap.size, 2, none⟩ = some (.slice ta t.kids.length tc)) ∧ ((w.heap.size + 1) < w'.heap.size ∧ w'.cell? ⟨(w.heap.size + 1), 0, none⟩ = some (.int .i64 u.kind) ∧ w'.cell? ⟨(w.heap.size + 1), 1, none⟩ = some (.int .i64 u.num) ∧ w'.cell? ⟨(w.heap.size + 1), 2, none⟩ = some (.slice ua u.kids.length uc))) _ := holdT hS1 hbq
      refine hK.out _ _ (ph_one (by kernel_rfl) hS1') ?_
      clear hK K hS1
      have hS1 := hS1'
      clear hS1'
      try simp only [Act.put, List.setIfInBounds_toArray, List.set_cons_zero, List.set_cons_succ]
      clear hbq
      refine AnyTwo.fork (i := 6) (o := ⟨some 120, _, _, _, _, _⟩) (j := 10) (o' := ⟨some 18, _, _, _, _, _⟩) (by kernel_rfl) rfl rfl (fun K hK => ?_) (fun K hK => ?_)
      ·skip
       go_simp
       refine (HIM.out _ _ _ _ ⟨_, rfl, HQt.out⟩ HQp.out ⟨_, rfl, HQu.out⟩).mono ?_
       rintro e wr ⟨hbq, a0, c0, FQ0, rfl, hw0, -, hF⟩
       have HW0 := tuck (hw0.sl (fun g hg => (hF g (by simp [hg])).1))
       clear hF hw0
       have HH9 := tuck (holdT hS1 hbq)
       have hS1' : (fun w' : World => Below wh0.heap.size wh0 w' ∧ (w.heap.size < w'.heap.size ∧ w'.cell? ⟨w.heap.size, 0, none⟩ = some (.int .i64 t.kind) ∧ w'.cell? ⟨w.heap.size, 1, none⟩ = some (.int .i64 t.num) ∧ w'.cell? ⟨w.heap.size, 2, none⟩ = some (.slice ta t.kids.length tc)) ∧ ((w.heap.size + 1) < w'.heap.size ∧ w'.cell? ⟨(w.heap.size + 1), 0, none⟩ = some (.int .i64 u.kind) ∧ w'.cell? ⟨(w.heap.size + 1), 1, none⟩ = some (.int .i64 u.num) ∧ w'.cell? ⟨(w.heap.size + 1), 2, none⟩ = some (.slice ua u.kids.length uc))) _ := HH9.out
       refine hK.out _ _ (ph_one (by kernel_rfl) hS1') ?_
       clear hK K hS1
       have hS1 := hS1'
       clear hS1'
       try simp only [Act.put, List.setIfInBounds_toArray, List.set_cons_zero, List.set_cons_succ]
       refine AnyTwo.takeAny HT12 (i := 7) (oi := ⟨some 113, _, _, _, _, _⟩) (v := ?vHcccc7) rfl (by kernel_rfl) (by kernel_rfl) (by decide +kernel) (by rfl) (fun _ _ _ h => h) (Or.inl ⟨by rfl, ?yHcccc7⟩) (ph_one (by kernel_rfl) hS1) ?rHcccc7
       case yHcccc7 => (intro w hSw; (try dsimp only at hSw); go_simp; try (with_reducible rfl))
       try simp only [Act.put, List.setIfInBounds_toArray, List.set_cons_zero, List.set_cons_succ]
       refine AnyTwo.takeAny HT12 (i := 8) (oi := ⟨some 121, _, _, _, _, _⟩) (v := ?vHcccc8) rfl (by kernel_rfl) (by kernel_rfl) (by decide +kernel) (by rfl) (fun _ _ _ h => h) (Or.inl ⟨by rfl, ?yHcccc8⟩) (ph_one (by kernel_rfl) hS1) ?rHcccc8
       case yHcccc8 => (intro w hSw; (try dsimp only at hSw); go_simp; try (with_reducible rfl))
       try simp only [Act.put, List.setIfInBounds_toArray, List.set_cons_zero, List.set_cons_succ]
       refine AnyTwo.takeAny HT12 (i := 9) (oi := ⟨some 122, _, _, _, _, _⟩) (v := ?vHcccc9) rfl (by kernel_rfl) (by kernel_rfl) (by decide +kernel) (by rfl) (fun _ _ _ h => h) (Or.inl ⟨by rfl, ?yHcccc9⟩) (ph_one (by kernel_rfl) hS1) ?rHcccc9
       case yHcccc9 => (intro w hSw; (try dsimp only at hSw); go_simp; try (with_reducible rfl))
       try simp only [Act.put, List.setIfInBounds_toArray, List.set_cons_zero, List.set_cons_succ]
       refine AnyTwo.step (i := 10) (o := ⟨some 18, _, _, _, _, _⟩) (by kernel_rfl) rfl (fun K hK => ?_)
       go_simp
       have hz0 : wh0.heap.size ≤ wr.heap.size := (hold_be hS1).size
       have HZ0 := tuck hz0
       clear hz0
       have hS1' : (fun w' : World => Below wh0.heap.size wh0 w' ∧ (w.heap.size < w'.heap.size ∧ w'.cell? ⟨w.heap.size, 0, none⟩ = some (.int .i64 t.kind) ∧ w'.cell? ⟨w.heap.size, 1, none⟩ = some (.int .i64 t.num) ∧ w'.cell? ⟨w.heap.size, 2, none⟩ = some (.slice ta t.kids.length tc)) ∧ ((w.heap.size + 1) < w'.heap.size ∧ w'.cell? ⟨(w.heap.size + 1), 0, none⟩ = some (.int .i64 u.kind) ∧ w'.cell? ⟨(w.heap.size + 1), 1, none⟩ = some (.int .i64 u.num) ∧ w'.cell? ⟨(w.heap.size + 1), 2, none⟩ = some (.slice ua u.kids.length uc))) _ := holdT HH9.out (below1 wr (.cells #[.int .i64 0, .int .i64 0, .slice none 0 0] 29))
       refine hK.out _ _ (ph_one (by kernel_rfl) hS1') ?_
       clear hK K hS1
       have hS1 := hS1'
       clear hS1'
       try simp only [Act.put, List.setIfInBounds_toArray, List.set_cons_zero, List.set_cons_succ]
       refine AnyTwo.step (i := 11) (o := ⟨none, _, _, _, _, _⟩) (by kernel_rfl) rfl (fun K hK => ?_)
       go_simp
       have hS1' : (fun w' : World => Below wh0.heap.size wh0 w' ∧ (w.heap.size < w'.heap.size ∧ w'.cell? ⟨w.heap.size, 0, none⟩ = some (.int .i64 t.kind) ∧ w'.cell? ⟨w.heap.size, 1, none⟩ = some (.int .i64 t.num) ∧ w'.cell? ⟨w.heap.size, 2, none⟩ = some (.slice ta t.kids.length tc)) ∧ ((w.heap.size + 1) < w'.heap.size ∧ w'.cell? ⟨(w.heap.size + 1), 0, none⟩ = some (.int .i64 u.kind) ∧ w'.cell? ⟨(w.heap.size + 1), 1, none⟩ = some (.int .i64 u.num) ∧ w'.cell? ⟨(w.heap.size + 1), 2, none⟩ = some (.slice ua u.kids.length uc))) _ := holdT HH9.out (below1 wr (.cells #[.int .i64 R0.kind, .int .i64 R0.num, .slice a0 R0.kids.length c0] 29))
       refine hK.out _ _ (ph_one (by kernel_rfl) hS1') ?_
       clear hK K hS1
       have hS1 := hS1'
       clear hS1'
       try simp only [Act.put, List.setIfInBounds_toArray, List.set_cons_zero, List.set_cons_succ]
       refine AnyTwo.step (i := 12) (o := ⟨some 19, _, _, _, _, _⟩) (by kernel_rfl) rfl (fun K hK => ?_)
       go_simp
       refine hK.out _ _ (ph_end (by kernel_rfl) hS1) ?_
       clear hK K
       try simp only [Act.put, List.setIfInBounds_toArray, List.set_cons_zero, List.set_cons_succ]
       refine AnyTwo.done (by kernel_rfl) ?_ _
       go_wp2_with fail
       go_meet
       exact ⟨wr.heap.size, a0, c0, rfl, rfl, hold_be hS1, VarAt.new wr R0.kind R0.num (.slice a0 R0.kids.length c0), HZ0.out, (HW0.out.mono (Nat.zero_le _)).below (below1 wr _)⟩
      ·skip
       go_simp
       have HZ := tuck (VarAt.new wqu 0 0 (.slice none 0 0))
       have hz0 : wh0.heap.size ≤ wqu.heap.size := (hold_be hS1).size
       have HZ0 := tuck hz0
       clear hz0
       replace HQt := tuck (HQt.out.below (below1 wqu (.cells #[.int .i64 0, .int .i64 0, .slice none 0 0] 29)))
       replace HQp := tuck (HQp.out.below (below1 wqu (.cells #[.int .i64 0, .int .i64 0, .slice none 0 0] 29)))
       replace HQu := tuck (HQu.out.below (below1 wqu (.cells #[.int .i64 0, .int .i64 0, .slice none 0 0] 29)))
       have hS1' : (fun w' : World => Below wh0.heap.size wh0 w' ∧ (w.heap.size < w'.heap.size ∧ w'.cell? ⟨w.heap.size, 0, none⟩ = some (.int .i64 t.kind) ∧ w'.cell? ⟨w.heap.size, 1, none⟩ = some (.int .i64 t.num) ∧ w'.cell? ⟨w.heap.size, 2, none⟩ = some (.slice ta t.kids.length tc)) ∧ ((w.heap.size + 1) < w'.heap.size ∧ w'.cell? ⟨(w.heap.size + 1), 0, none⟩ = some (.int .i64 u.kind) ∧ w'.cell? ⟨(w.heap.size + 1), 1, none⟩ = some (.int .i64 u.num) ∧ w'.cell? ⟨(w.heap.size + 1), 2, none⟩ = some (.slice ua u.kids.length uc))) _ := holdT hS1 (below1 wqu (.cells #[.int .i64 0, .int .i64 0, .slice none 0 0] 29))
       refine hK.out _ _ (ph_one (by kernel_rfl) hS1') ?_
       clear hK K hS1
       have hS1 := hS1'
       clear hS1'
       try simp only [Act.put, List.setIfInBounds_toArray, List.set_cons_zero, List.set_cons_succ]
       refine AnyTwo.step (i := 6) (o := ⟨some 120, _, _, _, _, _⟩) (by kernel_rfl) rfl (fun K hK => ?_)
       go_simp
       have HGL := tuck HZ.out.facts.1
       refine (HIM.out _ _ _ _ ⟨_, rfl, HQt.out⟩ HQp.out ⟨_, rfl, HQu.out⟩).mono ?_
       rintro e wr ⟨hbq, a0, c0, FQ0, rfl, hw0, -, hF⟩
       have HW0 := tuck (hw0.sl (fun g hg => (hF g (by simp [hg])).1))
       clear hF hw0
       have HH9 := tuck (holdT hS1 hbq)
       replace HZ := tuck (HZ.out.below hbq)
       obtain ⟨zz, y0, y1, y2, yf⟩ := HZ.out.facts
       have hS1' : (fun w' : World => Below wh0.heap.size wh0 w' ∧ (w.heap.size < w'.heap.size ∧ w'.cell? ⟨w.heap.size, 0, none⟩ = some (.int .i64 t.kind) ∧ w'.cell? ⟨w.heap.size, 1, none⟩ = some (.int .i64 t.num) ∧ w'.cell? ⟨w.heap.size, 2, none⟩ = some (.slice ta t.kids.length tc)) ∧ ((w.heap.size + 1) < w'.heap.size ∧ w'.cell? ⟨(w.heap.size + 1), 0, none⟩ = some (.int .i64 u.kind) ∧ w'.cell? ⟨(w.heap.size + 1), 1, none⟩ = some (.int .i64 u.num) ∧ w'.cell? ⟨(w.heap.size + 1), 2, none⟩ = some (.slice ua u.kids.length uc))) _ := HH9.out
       refine hK.out _ _ (ph_one (by kernel_rfl) hS1') ?_
       clear hK K hS1
       have hS1 := hS1'
       clear hS1'
       try simp only [Act.put, List.setIfInBounds_toArray, List.set_cons_zero, List.set_cons_succ]
       refine AnyTwo.takeAny HT12 (i := 7) (oi := ⟨some 113, _, _, _, _, _⟩) (v := ?vHcccac7) rfl (by kernel_rfl) (by kernel_rfl) (by decide +kernel) (by rfl) (fun _ _ _ h => h) (Or.inl ⟨by rfl, ?yHcccac7⟩) (ph_one (by kernel_rfl) hS1) ?rHcccac7
       case yHcccac7 => (intro w hSw; (try dsimp only at hSw); go_simp; try (with_reducible rfl))
       try simp only [Act.put, List.setIfInBounds_toArray, List.set_cons_zero, List.set_cons_succ]
       refine AnyTwo.takeAny HT12 (i := 8) (oi := ⟨some 121, _, _, _, _, _⟩) (v := ?vHcccac8) rfl (by kernel_rfl) (by kernel_rfl) (by decide +kernel) (by rfl) (fun _ _ _ h => h) (Or.inl ⟨by rfl, ?yHcccac8⟩) (ph_one (by kernel_rfl) hS1) ?rHcccac8
       case yHcccac8 => (intro w hSw; (try dsimp only at hSw); go_simp; try (with_reducible rfl))
       try simp only [Act.put, List.setIfInBounds_toArray, List.set_cons_zero, List.set_cons_succ]
       refine AnyTwo.takeAny HT12 (i := 9) (oi := ⟨some 122, _, _, _, _, _⟩) (v := ?vHcccac9) rfl (by kernel_rfl) (by kernel_rfl) (by decide +kernel) (by rfl) (fun _ _ _ h => h) (Or.inl ⟨by rfl, ?yHcccac9⟩) (ph_one (by kernel_rfl) hS1) ?rHcccac9
       case yHcccac9 => (intro w hSw; (try dsimp only at hSw); go_simp; try (with_reducible rfl))
       try simp only [Act.put, List.setIfInBounds_toArray, List.set_cons_zero, List.set_cons_succ]
       refine AnyTwo.step (i := 11) (o := ⟨none, _, _, _, _, _⟩) (by kernel_rfl) rfl (fun K hK => ?_)
       go_simp
       have hS1' : (fun w' : World => Below wh0.heap.size wh0 w' ∧ (w.heap.size < w'.heap.size ∧ w'.cell? ⟨w.heap.size, 0, none⟩ = some (.int .i64 t.kind) ∧ w'.cell? ⟨w.heap.size, 1, none⟩ = some (.int .i64 t.num) ∧ w'.cell? ⟨w.heap.size, 2, none⟩ = some (.slice ta t.kids.length tc)) ∧ ((w.heap.size + 1) < w'.heap.size ∧ w'.cell? ⟨(w.heap.size + 1), 0, none⟩ = some (.int .i64 u.kind) ∧ w'.cell? ⟨(w.heap.size + 1), 1, none⟩ = some (.int .i64 u.num) ∧ w'.cell? ⟨(w.heap.size + 1), 2, none⟩ = some (.slice ua u.kids.length uc))) _ := holdT_set3 HH9.out (gz := wqu.heap.size) (x := .int .i64 R0.kind) (y := .int .i64 R0.num) (z := .slice a0 R0.kids.length c0) HZ0.out HXL.out.1 HXL.out.2
       refine hK.out _ _ (ph_one (by kernel_rfl) hS1') ?_
       clear hK K hS1
       have hS1 := hS1'
       clear hS1'
       try simp only [Act.put, List.setIfInBounds_toArray, List.set_cons_zero, List.set_cons_succ]
       refine AnyTwo.step (i := 12) (o := ⟨some 19, _, _, _, _, _⟩) (by kernel_rfl) rfl (fun K hK => ?_)
       go_simp
       refine hK.out _ _ (ph_end (by kernel_rfl) hS1) ?_
       clear hK K
       try simp only [Act.put, List.setIfInBounds_toArray, List.set_cons_zero, List.set_cons_succ]
       refine AnyTwo.done (by kernel_rfl) ?_ _
       go_wp2_with fail
       go_meet
       exact ⟨wqu.heap.size, a0, c0, rfl, rfl, hold_be hS1, HZ.out.set3, HZ0.out, (tl_sl3 HW0.out HGL.out).mono (Nat.zero_le _)⟩
     ·skip
      go_simp
      have HZ := tuck (VarAt.new wqp 0 0 (.slice none 0 0))
      have hz0 : wh0.heap.size ≤ wqp.heap.size := (hold_be hS1).size
      have HZ0 := tuck hz0
      clear hz0
      replace HQt := tuck (HQt.out.below (below1 wqp (.cells #[.int .i64 0, .int .i64 0, .slice none 0 0] 29)))
      replace HQp := tuck (HQp.out.below (below1 wqp (.cells #[.int .i64 0, .int .i64 0, .slice none 0 0] 29)))
      have hS1' : (fun w' : World => Below wh0.heap.size wh0 w' ∧ (w.heap.size < w'.heap.size ∧ w'.cell? ⟨w.heap.size, 0, none⟩ = some (.int .i64 t.kind) ∧ w'.cell? ⟨w.heap.size, 1, none⟩ = some (.int .i64 t.num) ∧ w'.cell? ⟨w.heap.size, 2, none⟩ = some (.slice ta t.kids.length tc)) ∧ ((w.heap.size + 1) < w'.heap.size ∧ w'.cell? ⟨(w.heap.size + 1), 0, none⟩ = some (.int .i64 u.kind) ∧ w'.cell? ⟨(w.heap.size + 1), 1, none⟩ = some (.int .i64 u.num) ∧ w'.cell? ⟨(w.heap.size + 1), 2, none⟩ = some (.slice ua u.kids.length uc))) _ := holdT hS1 (below1 wqp (.cells #[.int .i64 0, .int .i64 0, .slice none 0 0] 29))
      refine hK.out _ _ (ph_one (by kernel_rfl) hS1') ?_
      clear hK K hS1
      have hS1 := hS1'
      clear hS1'
      try simp only [Act.put, List.setIfInBounds_toArray, List.set_cons_zero, List.set_cons_succ]
      refine AnyTwo.step (i := 5) (o := ⟨some 119, _, _, _, _, _⟩) (by kernel_rfl) rfl (fun K hK => ?_)
      go_simp
      refine (HTOu.out _ (HSu.out.below (bAfter HB.out.be (hold_be hS1)))).mono ?_
      rintro e wqu ⟨hbq, qau, qcu, FQ, rfl, hsx, -, -⟩
      have HQu := tuck (hsx.sl (B := 0) (fun _ _ => Nat.zero_le _))
      clear hsx
      replace HQt := tuck (HQt.out.below hbq)
      replace HQp := tuck (HQp.out.below hbq)
      replace HZ := tuck (HZ.out.below hbq)
      have hS1' : (fun w' : World => Below wh0.heap.size wh0 w' ∧ (w.heap.size < w'.heap.size ∧ w'.cell? ⟨w.heap.size, 0, none⟩ = some (.int .i64 t.kind) ∧ w'.cell? ⟨w.heap.size, 1, none⟩ = some (.int .i64 t.num) ∧ w'.cell? ⟨w.heap.size, 2, none⟩ = some (.slice ta t.kids.length tc)) ∧ ((w.heap.size + 1) < w'.heap.size ∧ w'.cell? ⟨(w.heap.size + 1), 0, none⟩ = some (.int .i64 u.kind) ∧ w'.cell? ⟨(w.heap.size + 1), 1, none⟩ = some (.int .i64 u.num) ∧ w'.cell? ⟨(w.heap.size + 1), 2, none⟩ = some (.slice ua u.kids.length uc))) _ := holdT hS1 hbq
      refine hK.out _ _ (ph_one (by kernel_rfl) hS1') ?_
      clear hK K hS1
      have hS1 := hS1'
      clear hS1'
      try simp only [Act.put, List.setIfInBounds_toArray, List.set_cons_zero, List.set_cons_succ]
      clear hbq
      refine AnyTwo.step (i := 6) (o := ⟨some 120, _, _, _, _, _⟩) (by kernel_rfl) rfl (fun K hK => ?_)
      go_simp
      have HGL := tuck HZ.out.facts.1
      refine (HIM.out _ _ _ _ ⟨_, rfl, HQt.out⟩ HQp.out ⟨_, rfl, HQu.out⟩).mono ?_
      rintro e wr ⟨hbq, a0, c0, FQ0, rfl, hw0, -, hF⟩
      have HW0 := tuck (hw0.sl (fun g hg => (hF g (by simp [hg])).1))
      clear hF hw0
      have HH9 := tuck (holdT hS1 hbq)
      replace HZ := tuck (HZ.out.below hbq)
      obtain ⟨zz, y0, y1, y2, yf⟩ := HZ.out.facts
      have hS1' : (fun w' : World => Below wh0.heap.size wh0 w' ∧ (w.heap.size < w'.heap.size ∧ w'.cell? ⟨w.heap.size, 0, none⟩ = some (.int .i64 t.kind) ∧ w'.cell? ⟨w.heap.size, 1, none⟩ = some (.int .i64 t.num) ∧ w'.cell? ⟨w.heap.size, 2, none⟩ = some (.slice ta t.kids.length tc)) ∧ ((w.heap.size + 1) < w'.heap.size ∧ w'.cell? ⟨(w.heap.size + 1), 0, none⟩ = some (.int .i64 u.kind) ∧ w'.cell? ⟨(w.heap.size + 1), 1, none⟩ = some (.int .i64 u.num) ∧ w'.cell? ⟨(w.heap.size + 1), 2, none⟩ = some (.slice ua u.kids.length uc))) _ := HH9.out
      refine hK.out _ _ (ph_one (by kernel_rfl) hS1') ?_
      clear hK K hS1
      have hS1 := hS1'
      clear hS1'
      try simp only [Act.put, List.setIfInBounds_toArray, List.set_cons_zero, List.set_cons_succ]
      refine AnyTwo.takeAny HT12 (i := 7) (oi := ⟨some 113, _, _, _, _, _⟩) (v := ?vHccacc7) rfl (by kernel_rfl) (by kernel_rfl) (by decide +kernel) (by rfl) (fun _ _ _ h => h) (Or.inl ⟨by rfl, ?yHccacc7⟩) (ph_one (by kernel_rfl) hS1) ?rHccacc7
      case yHccacc7 => (intro w hSw; (try dsimp only at hSw); go_simp; try (with_reducible rfl))
      try simp only [Act.put, List.setIfInBounds_toArray, List.set_cons_zero, List.set_cons_succ]
      refine AnyTwo.takeAny HT12 (i := 8) (oi := ⟨some 121, _, _, _, _, _⟩) (v := ?vHccacc8) rfl (by kernel_rfl) (by kernel_rfl) (by decide +kernel) (by rfl) (fun _ _ _ h => h) (Or.inl ⟨by rfl, ?yHccacc8⟩) (ph_one (by kernel_rfl) hS1) ?rHccacc8
      case yHccacc8 => (intro w hSw; (try dsimp only at hSw); go_simp; try (with_reducible rfl))
      try simp only [Act.put, List.setIfInBounds_toArray, List.set_cons_zero, List.set_cons_succ]
      refine AnyTwo.takeAny HT12 (i := 9) (oi := ⟨some 122, _, _, _, _, _⟩) (v := ?vHccacc9) rfl (by kernel_rfl) (by kernel_rfl) (by decide +kernel) (by rfl) (fun _ _ _ h => h) (Or.inl ⟨by rfl, ?yHccacc9⟩) (ph_one (by kernel_rfl) hS1) ?rHccacc9
      case yHccacc9 => (intro w hSw; (try dsimp only at hSw); go_simp; try (with_reducible rfl))
      try simp only [Act.put, List.setIfInBounds_toArray, List.set_cons_zero, List.set_cons_succ]
      refine AnyTwo.step (i := 11) (o := ⟨none, _, _, _, _, _⟩) (by kernel_rfl) rfl (fun K hK => ?_)
      go_simp
      have hS1' : (fun w' : World => Below wh0.heap.size wh0 w' ∧ (w.heap.size < w'.heap.size ∧ w'.cell? ⟨w.heap.size, 0, none⟩ = some (.int .i64 t.kind) ∧ w'.cell? ⟨w.heap.size, 1, none⟩ = some (.int .i64 t.num) ∧ w'.cell? ⟨w.heap.size, 2, none⟩ = some (.slice ta t.kids.length tc)) ∧ ((w.heap.size + 1) < w'.heap.size ∧ w'.cell? ⟨(w.heap.size + 1), 0, none⟩ = some (.int .i64 u.kind) ∧ w'.cell? ⟨(w.heap.size + 1), 1, none⟩ = some (.int .i64 u.num) ∧ w'.cell? ⟨(w.heap.size + 1), 2, none⟩ = some (.slice ua u.kids.length uc))) _ := holdT_set3 HH9.out (gz := wqp.heap.size) (x := .int .i64 R0.kind) (y := .int .i64 R0.num) (z := .slice a0 R0.kids.length c0) HZ0.out HXL.out.1 HXL.out.2
      refine hK.out _ _ (ph_one (by kernel_rfl) hS1') ?_
      clear hK K hS1
      have hS1 := hS1'
      clear hS1'
      try simp only [Act.put, List.setIfInBounds_toArray, List.set_cons_zero, List.set_cons_succ]
      refine AnyTwo.step (i := 12) (o := ⟨some 19, _, _, _, _, _⟩) (by kernel_rfl) rfl (fun K hK => ?_)
      go_simp
      refine hK.out _ _ (ph_end (by kernel_rfl) hS1) ?_
      clear hK K
      try simp only [Act.put, List.setIfInBounds_toArray, List.set_cons_zero, List.set_cons_succ]
      refine AnyTwo.done (by kernel_rfl) ?_ _
      go_wp2_with fail
      go_meet
      exact ⟨wqp.heap.size, a0, c0, rfl, rfl, hold_be hS1, HZ.out.set3, HZ0.out, (tl_sl3 HW0.out HGL.out).mono (Nat.zero_le _)⟩
    ·skip
     go_simp
     have HZ := tuck (VarAt.new wqt 0 0 (.slice none 0 0))
     have hz0 : wh0.heap.size ≤ wqt.heap.size := (hold_be hS1).size
     have HZ0 := tuck hz0
     clear hz0
     replace HQt := tuck (HQt.out.below (below1 wqt (.cells #[.int .i64 0, .int .i64 0, .slice none 0 0] 29)))
     have hS1' : (fun w' : World => Below wh0.heap.size wh0 w' ∧ (w.heap.size < w'.heap.size ∧ w'.cell? ⟨w.heap.size, 0, none⟩ = some (.int .i64 t.kind) ∧ w'.cell? ⟨w.heap.size, 1, none⟩ = some (.int .i64 t.num) ∧ w'.cell? ⟨w.heap.size, 2, none⟩ = some (.slice ta t.kids.length tc)) ∧ ((w.heap.size + 1) < w'.heap.size ∧ w'.cell? ⟨(w.heap.size + 1), 0, none⟩ = some (.int .i64 u.kind) ∧ w'.cell? ⟨(w.heap.size + 1), 1, none⟩ = some (.int .i64 u.num) ∧ w'.cell? ⟨(w.heap.size + 1), 2, none⟩ = some (.slice ua u.kids.length uc))) _ := holdT hS1 (below1 wqt (.cells #[.int .i64 0, .int .i64 0, .slice none 0 0] 29))
     refine hK.out _ _ (ph_one (by kernel_rfl) hS1') ?_
     clear hK K hS1
     have hS1 := hS1'
     clear hS1'
     try simp only [Act.put, List.setIfInBounds_toArray, List.set_cons_zero, List.set_cons_succ]
     refine AnyTwo.step (i := 3) (o := ⟨some 117, _, _, _, _, _⟩) (by kernel_rfl) rfl (fun K hK => ?_)
     go_simp
     refine (HTOp.out _ (HSp.out.below (bAfter HB.out.be (hold_be hS1)))).mono ?_
     rintro e wqp ⟨hbq, v, hv, hio⟩
     have hic := hio.intsC
     obtain ⟨qap, qcp, rfl⟩ := hic.form
     subst hv
     have HQp := tuck (hic.mono (Nat.zero_le _))
     clear hio hic
     replace HQt := tuck (HQt.out.below hbq)
     replace HZ := tuck (HZ.out.below hbq)
     have hS1' : (fun w' : World => Below wh0.heap.size wh0 w' ∧ (w.heap.size < w'.heap.size ∧ w'.cell? ⟨w.heap.size, 0, none⟩ = some (.int .i64 t.kind) ∧ w'.cell? ⟨w.heap.size, 1, none⟩ = some (.int .i64 t.num) ∧ w'.cell? ⟨w.heap.size, 2, none⟩ = some (.slice ta t.kids.length tc)) ∧ ((w.heap.size + 1) < w'.heap.size ∧ w'.cell? ⟨(w.heap.size + 1), 0, none⟩ = some (.int .i64 u.kind) ∧ w'.cell? ⟨(w.heap.size + 1), 1, none⟩ = some (.int .i64 u.num) ∧ w'.cell? ⟨(w.heap.size + 1), 2, none⟩ = some (.slice ua u.kids.length uc))) _ := holdT hS1 hbq
     refine hK.out _ _ (ph_one (by kernel_rfl) hS1') ?_
     clear hK K hS1
     have hS1 := hS1'
     clear hS1'
     try simp only [Act.put, List.setIfInBounds_toArray, List.set_cons_zero, List.set_cons_succ]
     clear hbq
     refine AnyTwo.step (i := 5) (o := ⟨some 119, _, _, _, _, _⟩) (by kernel_rfl) rfl (fun K hK => ?_)
     go_simp
     refine (HTOu.out _ (HSu.out.below (bAfter HB.out.be (hold_be hS1)))).mono ?_
     rintro e wqu ⟨hbq, qau, qcu, FQ, rfl, hsx, -, -⟩
     have HQu := tuck (hsx.sl (B := 0) (fun _ _ => Nat.zero_le _))
     clear hsx
     replace HQt := tuck (HQt.out.below hbq)
     replace HQp := tuck (HQp.out.below hbq)
     replace HZ := tuck (HZ.out.below hbq)
     have hS1' : (fun w' : World => Below wh0.heap.size wh0 w' ∧ (w.heap.size < w'.heap.size ∧ w'.cell? ⟨w.heap.size, 0, none⟩ = some (.int .i64 t.kind) ∧ w'.cell? ⟨w.heap.size, 1, none⟩ = some (.int .i64 t.num) ∧ w'.cell? ⟨w.heap.size, 2, none⟩ = some (.slice ta t.kids.length tc)) ∧ ((w.heap.size + 1) < w'.heap.size ∧ w'.cell? ⟨(w.heap.size + 1), 0, none⟩ = some (.int .i64 u.kind) ∧ w'.cell? ⟨(w.heap.size + 1), 1, none⟩ = some (.int .i64 u.num) ∧ w'.cell? ⟨(w.heap.size + 1), 2, none⟩ = some (.slice ua u.kids.length uc))) _ := holdT hS1 hbq
     refine hK.out _ _ (ph_one (by kernel_rfl) hS1') ?_
     clear hK K hS1
     have hS1 := hS1'
     clear hS1'
     try simp only [Act.put, List.setIfInBounds_toArray, List.set_cons_zero, List.set_cons_succ]
     clear hbq
     refine AnyTwo.step (i := 6) (o := ⟨some 120, _, _, _, _, _⟩) (by kernel_rfl) rfl (fun K hK => ?_)
     go_simp
     have HGL := tuck HZ.out.facts.1
     refine (HIM.out _ _ _ _ ⟨_, rfl, HQt.out⟩ HQp.out ⟨_, rfl, HQu.out⟩).mono ?_
     rintro e wr ⟨hbq, a0, c0, FQ0, rfl, hw0, -, hF⟩
     have HW0 := tuck (hw0.sl (fun g hg => (hF g (by simp [hg])).1))
     clear hF hw0
     have HH9 := tuck (holdT hS1 hbq)
     replace HZ := tuck (HZ.out.below hbq)
     obtain ⟨zz, y0, y1, y2, yf⟩ := HZ.out.facts
     have hS1' : (fun w' : World => Below wh0.heap.size wh0 w' ∧ (w.heap.size < w'.heap.size ∧ w'.cell? ⟨w.heap.size, 0, none⟩ = some (.int .i64 t.kind) ∧ w'.cell? ⟨w.heap.size, 1, none⟩ = some (.int .i64 t.num) ∧ w'.cell? ⟨w.heap.size, 2, none⟩ = some (.slice ta t.kids.length tc)) ∧ ((w.heap.size + 1) < w'.heap.size ∧ w'.cell? ⟨(w.heap.size + 1), 0, none⟩ = some (.int .i64 u.kind) ∧ w'.cell? ⟨(w.heap.size + 1), 1, none⟩ = some (.int .i64 u.num) ∧ w'.cell? ⟨(w.heap.size + 1), 2, none⟩ = some (.slice ua u.kids.length uc))) _ := HH9.out
     refine hK.out _ _ (ph_one (by kernel_rfl) hS1') ?_
     clear hK K hS1
     have hS1 := hS1'
     clear hS1'
     try simp only [Act.put, List.setIfInBounds_toArray, List.set_cons_zero, List.set_cons_succ]
     refine AnyTwo.takeAny HT12 (i := 7) (oi := ⟨some 113, _, _, _, _, _⟩) (v := ?vHcaccc7) rfl (by kernel_rfl) (by kernel_rfl) (by decide +kernel) (by rfl) (fun _ _ _ h => h) (Or.inl ⟨by rfl, ?yHcaccc7⟩) (ph_one (by kernel_rfl) hS1) ?rHcaccc7
     case yHcaccc7 => (intro w hSw; (try dsimp only at hSw); go_simp; try (with_reducible rfl))
     try simp only [Act.put, List.setIfInBounds_toArray, List.set_cons_zero, List.set_cons_succ]
     refine AnyTwo.takeAny HT12 (i := 8) (oi := ⟨some 121, _, _, _, _, _⟩) (v := ?vHcaccc8) rfl (by kernel_rfl) (by kernel_rfl) (by decide +kernel) (by rfl) (fun _ _ _ h => h) (Or.inl ⟨by rfl, ?yHcaccc8⟩) (ph_one (by kernel_rfl) hS1) ?rHcaccc8
     case yHcaccc8 => (intro w hSw; (try dsimp only at hSw); go_simp; try (with_reducible rfl))
     try simp only [Act.put, List.setIfInBounds_toArray, List.set_cons_zero, List.set_cons_succ]
     refine AnyTwo.takeAny HT12 (i := 9) (oi := ⟨some 122, _, _, _, _, _⟩) (v := ?vHcaccc9) rfl (by kernel_rfl) (by kernel_rfl) (by decide +kernel) (by rfl) (fun _ _ _ h => h) (Or.inl ⟨by rfl, ?yHcaccc9⟩) (ph_one (by kernel_rfl) hS1) ?rHcaccc9
     case yHcaccc9 => (intro w hSw; (try dsimp only at hSw); go_simp; try (with_reducible rfl))
     try simp only [Act.put, List.setIfInBounds_toArray, List.set_cons_zero, List.set_cons_succ]
     refine AnyTwo.step (i := 11) (o := ⟨none, _, _, _, _, _⟩) (by kernel_rfl) rfl (fun K hK => ?_)
     go_simp
     have hS1' : (fun w' : World => Below wh0.heap.size wh0 w' ∧ (w.heap.size < w'.heap.size ∧ w'.cell? ⟨w.heap.size, 0, none⟩ = some (.int .i64 t.kind) ∧ w'.cell? ⟨w.heap.size, 1, none⟩ = some (.int .i64 t.num) ∧ w'.cell? ⟨w.heap.size, 2, none⟩ = some (.slice ta t.kids.length tc)) ∧ ((w.heap.size + 1) < w'.heap.size ∧ w'.cell? ⟨(w.heap.size + 1), 0, none⟩ = some (.int .i64 u.kind) ∧ w'.cell? ⟨(w.heap.size + 1), 1, none⟩ = some (.int .i64 u.num) ∧ w'.cell? ⟨(w.heap.size + 1), 2, none⟩ = some (.slice ua u.kids.length uc))) _ := holdT_set3 HH9.out (gz := wqt.heap.size) (x := .int .i64 R0.kind) (y := .int .i64 R0.num) (z := .slice a0 R0.kids.length c0) HZ0.out HXL.out.1 HXL.out.2
     refine hK.out _ _ (ph_one (by kernel_rfl) hS1') ?_
     clear hK K hS1
     have hS1 := hS1'
     clear hS1'
     try simp only [Act.put, List.setIfInBounds_toArray, List.set_cons_zero, List.set_cons_succ]
     refine AnyTwo.step (i := 12) (o := ⟨some 19, _, _, _, _, _⟩) (by kernel_rfl) rfl (fun K hK => ?_)
     go_simp
     refine hK.out _ _ (ph_end (by kernel_rfl) hS1) ?_
     clear hK K
     try simp only [Act.put, List.setIfInBounds_toArray, List.set_cons_zero, List.set_cons_succ]
     refine AnyTwo.done (by kernel_rfl) ?_ _
     go_wp2_with fail
     go_meet
     exact ⟨wqt.heap.size, a0, c0, rfl, rfl, hold_be hS1, HZ.out.set3, HZ0.out, (tl_sl3 HW0.out HGL.out).mono (Nat.zero_le _)⟩
   ·skip
    go_simp
    have HZ := tuck (show VarAt wh0.heap.size 0 0 (.slice none 0 0) (wh0.alloc (.cells #[.int .i64 0, .int .i64 0, .slice none 0 0] 29)).drew from VarAt.new wh0 0 0 (.slice none 0 0))
    have HZ0 : Hid (wh0.heap.size ≤ wh0.heap.size) := tuck (Nat.le_refl _)
    have hS1' : (fun w' : World => Below wh0.heap.size wh0 w' ∧ (w.heap.size < w'.heap.size ∧ w'.cell? ⟨w.heap.size, 0, none⟩ = some (.int .i64 t.kind) ∧ w'.cell? ⟨w.heap.size, 1, none⟩ = some (.int .i64 t.num) ∧ w'.cell? ⟨w.heap.size, 2, none⟩ = some (.slice ta t.kids.length tc)) ∧ ((w.heap.size + 1) < w'.heap.size ∧ w'.cell? ⟨(w.heap.size + 1), 0, none⟩ = some (.int .i64 u.kind) ∧ w'.cell? ⟨(w.heap.size + 1), 1, none⟩ = some (.int .i64 u.num) ∧ w'.cell? ⟨(w.heap.size + 1), 2, none⟩ = some (.slice ua u.kids.length uc))) _ := ⟨(below1 wh0 (.cells #[.int .i64 0, .int .i64 0, .slice none 0 0] 29)).drew, HXt.out.below (below1 wh0 (.cells #[.int .i64 0, .int .i64 0, .slice none 0 0] 29)).drew, HXu.out.below (below1 wh0 (.cells #[.int .i64 0, .int .i64 0, .slice none 0 0] 29)).drew⟩
    refine hK.out _ _ (ph_one (by kernel_rfl) hS1') ?_
    clear hK K hS1
    have hS1 := hS1'
    clear hS1'
    try simp only [Act.put, List.setIfInBounds_toArray, List.set_cons_zero, List.set_cons_succ]
    refine AnyTwo.step (i := 1) (o := ⟨some 115, _, _, _, _, _⟩) (by kernel_rfl) rfl (fun K hK => ?_)
    go_simp
    refine (HTOt.out _ (HSt.out.below (bAfter HB.out.be (hold_be hS1)))).mono ?_
    rintro e wqt ⟨hbq, qat, qct, FQ, rfl, hsx, -, -⟩
    have HQt := tuck (hsx.sl (B := 0) (fun _ _ => Nat.zero_le _))
    clear hsx
    replace HZ := tuck (HZ.out.below hbq)
    have hS1' : (fun w' : World => Below wh0.heap.size wh0 w' ∧ (w.heap.size < w'.heap.size ∧ w'.cell? ⟨w.heap.size, 0, none⟩ = some (.int .i64 t.kind) ∧ w'.cell? ⟨w.heap.size, 1, none⟩ = some (.int .i64 t.num) ∧ w'.cell? ⟨w.heap.size, 2, none⟩ = some (.slice ta t.kids.length tc)) ∧ ((w.heap.size + 1) < w'.heap.size ∧ w'.cell? ⟨(w.heap.size + 1), 0, none⟩ = some (.int .i64 u.kind) ∧ w'.cell? ⟨(w.heap.size + 1), 1, none⟩ = some (.int .i64 u.num) ∧ w'.cell? ⟨(w.heap.size + 1), 2, none⟩ = some (.slice ua u.kids.length uc))) _ := holdT hS1 hbq
    refine hK.out _ _ (ph_one (by kernel_rfl) hS1') ?_
    clear hK K hS1
    have hS1 := hS1'
    clear hS1'
    try simp only [Act.put, List.setIfInBounds_toArray, List.set_cons_zero, List.set_cons_succ]
    clear hbq
    refine AnyTwo.step (i := 3) (o := ⟨some 117, _, _, _, _, _⟩) (by kernel_rfl) rfl (fun K hK => ?_)
    go_simp
    refine (HTOp.out _ (HSp.out.below (bAfter HB.out.be (hold_be hS1)))).mono ?_
    rintro e wqp ⟨hbq, v, hv, hio⟩
    have hic := hio.intsC
    obtain ⟨qap, qcp, rfl⟩ := hic.form
    subst hv
    have HQp := tuck (hic.mono (Nat.zero_le _))
    clear hio hic
    replace HQt := tuck (HQt.out.below hbq)
    replace HZ := tuck (HZ.out.below hbq)
    have hS1' : (fun w' : World => Below wh0.heap.size wh0 w' ∧ (w.heap.size < w'.heap.size ∧ w'.cell? ⟨w.heap.size, 0, none⟩ = some (.int .i64 t.kind) ∧ w'.cell? ⟨w.heap.size, 1, none⟩ = some (.int .i64 t.num) ∧ w'.cell? ⟨w.heap.size, 2, none⟩ = some (.slice ta t.kids.length tc)) ∧ ((w.heap.size + 1) < w'.heap.size ∧ w'.cell? ⟨(w.heap.size + 1), 0, none⟩ = some (.int .i64 u.kind) ∧ w'.cell? ⟨(w.heap.size + 1), 1, none⟩ = some (.int .i64 u.num) ∧ w'.cell? ⟨(w.heap.size + 1), 2, none⟩ = some (.slice ua u.kids.length uc))) _ := holdT hS1 hbq
    refine hK.out _ _ (ph_one (by kernel_rfl) hS1') ?_
    clear hK K hS1
    have hS1 := hS1'
    clear hS1'
    try simp only [Act.put, List.setIfInBounds_toArray, List.set_cons_zero, List.set_cons_succ]
    clear hbq
    refine AnyTwo.step (i := 5) (o := ⟨some 119, _, _, _, _, _⟩) (by kernel_rfl) rfl (fun K hK => ?_)
    go_simp
    refine (HTOu.out _ (HSu.out.below (bAfter HB.out.be (hold_be hS1)))).mono ?_
    rintro e wqu ⟨hbq, qau, qcu, FQ, rfl, hsx, -, -⟩
    have HQu := tuck (hsx.sl (B := 0) (fun _ _ => Nat.zero_le _))
    clear hsx
    replace HQt := tuck (HQt.out.below hbq)
    replace HQp := tuck (HQp.out.below hbq)
    replace HZ := tuck (HZ.out.below hbq)
    have hS1' : (fun w' : World => Below wh0.heap.size wh0 w' ∧ (w.heap.size < w'.heap.size ∧ w'.cell? ⟨w.heap.size, 0, none⟩ = some (.int .i64 t.kind) ∧ w'.cell? ⟨w.heap.size, 1, none⟩ = some (.int .i64 t.num) ∧ w'.cell? ⟨w.heap.size, 2, none⟩ = some (.slice ta t.kids.length tc)) ∧ ((w.heap.size + 1) < w'.heap.size ∧ w'.cell? ⟨(w.heap.size + 1), 0, none⟩ = some (.int .i64 u.kind) ∧ w'.cell? ⟨(w.heap.size + 1), 1, none⟩ = some (.int .i64 u.num) ∧ w'.cell? ⟨(w.heap.size + 1), 2, none⟩ = some (.slice ua u.kids.length uc))) _ := holdT hS1 hbq
    refine hK.out _ _ (ph_one (by kernel_rfl) hS1') ?_
    clear hK K hS1
    have hS1 := hS1'
    clear hS1'
    try simp only [Act.put, List.setIfInBounds_toArray, List.set_cons_zero, List.set_cons_succ]
    clear hbq
    refine AnyTwo.step (i := 6) (o := ⟨some 120, _, _, _, _, _⟩) (by kernel_rfl) rfl (fun K hK => ?_)
    go_simp
    have HGL := tuck HZ.out.facts.1
    refine (HIM.out _ _ _ _ ⟨_, rfl, HQt.out⟩ HQp.out ⟨_, rfl, HQu.out⟩).mono ?_
    rintro e wr ⟨hbq, a0, c0, FQ0, rfl, hw0, -, hF⟩
    have HW0 := tuck (hw0.sl (fun g hg => (hF g (by simp [hg])).1))
    clear hF hw0
    have HH9 := tuck (holdT hS1 hbq)
    replace HZ := tuck (HZ.out.below hbq)
    obtain ⟨zz, y0, y1, y2, yf⟩ := HZ.out.facts
    have hS1' : (fun w' : World => Below wh0.heap.size wh0 w' ∧ (w.heap.size < w'.heap.size ∧ w'.cell? ⟨w.heap.size, 0, none⟩ = some (.int .i64 t.kind) ∧ w'.cell? ⟨w.heap.size, 1, none⟩ = some (.int .i64 t.num) ∧ w'.cell? ⟨w.heap.size, 2, none⟩ = some (.slice ta t.kids.length tc)) ∧ ((w.heap.size + 1) < w'.heap.size ∧ w'.cell? ⟨(w.heap.size + 1), 0, none⟩ = some (.int .i64 u.kind) ∧ w'.cell? ⟨(w.heap.size + 1), 1, none⟩ = some (.int .i64 u.num) ∧ w'.cell? ⟨(w.heap.size + 1), 2, none⟩ = some (.slice ua u.kids.length uc))) _ := HH9.out
    refine hK.out _ _ (ph_one (by kernel_rfl) hS1') ?_
    clear hK K hS1
    have hS1 := hS1'
    clear hS1'
    try simp only [Act.put, List.setIfInBounds_toArray, List.set_cons_zero, List.set_cons_succ]
    refine AnyTwo.takeAny HT12 (i := 7) (oi := ⟨some 113, _, _, _, _, _⟩) (v := ?vHacccc7) rfl (by kernel_rfl) (by kernel_rfl) (by decide +kernel) (by rfl) (fun _ _ _ h => h) (Or.inl ⟨by rfl, ?yHacccc7⟩) (ph_one (by kernel_rfl) hS1) ?rHacccc7
    case yHacccc7 => (intro w hSw; (try dsimp only at hSw); go_simp; try (with_reducible rfl))
    try simp only [Act.put, List.setIfInBounds_toArray, List.set_cons_zero, List.set_cons_succ]
    refine AnyTwo.takeAny HT12 (i := 8) (oi := ⟨some 121, _, _, _, _, _⟩) (v := ?vHacccc8) rfl (by kernel_rfl) (by kernel_rfl) (by decide +kernel) (by rfl) (fun _ _ _ h => h) (Or.inl ⟨by rfl, ?yHacccc8⟩) (ph_one (by kernel_rfl) hS1) ?rHacccc8
    case yHacccc8 => (intro w hSw; (try dsimp only at hSw); go_simp; try (with_reducible rfl))
    try simp only [Act.put, List.setIfInBounds_toArray, List.set_cons_zero, List.set_cons_succ]
    refine AnyTwo.takeAny HT12 (i := 9) (oi := ⟨some 122, _, _, _, _, _⟩) (v := ?vHacccc9) rfl (by kernel_rfl) (by kernel_rfl) (by decide +kernel) (by rfl) (fun _ _ _ h => h) (Or.inl ⟨by rfl, ?yHacccc9⟩) (ph_one (by kernel_rfl) hS1) ?rHacccc9
    case yHacccc9 => (intro w hSw; (try dsimp only at hSw); go_simp; try (with_reducible rfl))
    try simp only [Act.put, List.setIfInBounds_toArray, List.set_cons_zero, List.set_cons_succ]
    refine AnyTwo.step (i := 11) (o := ⟨none, _, _, _, _, _⟩) (by kernel_rfl) rfl (fun K hK => ?_)
    go_simp
    have hS1' : (fun w' : World => Below wh0.heap.size wh0 w' ∧ (w.heap.size < w'.heap.size ∧ w'.cell? ⟨w.heap.size, 0, none⟩ = some (.int .i64 t.kind) ∧ w'.cell? ⟨w.heap.size, 1, none⟩ = some (.int .i64 t.num) ∧ w'.cell? ⟨w.heap.size, 2, none⟩ = some (.slice ta t.kids.length tc)) ∧ ((w.heap.size + 1) < w'.heap.size ∧ w'.cell? ⟨(w.heap.size + 1), 0, none⟩ = some (.int .i64 u.kind) ∧ w'.cell? ⟨(w.heap.size + 1), 1, none⟩ = some (.int .i64 u.num) ∧ w'.cell? ⟨(w.heap.size + 1), 2, none⟩ = some (.slice ua u.kids.length uc))) _ := holdT_set3 HH9.out (gz := wh0.heap.size) (x := .int .i64 R0.kind) (y := .int .i64 R0.num) (z := .slice a0 R0.kids.length c0) HZ0.out HXL.out.1 HXL.out.2
    refine hK.out _ _ (ph_one (by kernel_rfl) hS1') ?_
    clear hK K hS1
    have hS1 := hS1'
    clear hS1'
    try simp only [Act.put, List.setIfInBounds_toArray, List.set_cons_zero, List.set_cons_succ]
    refine AnyTwo.step (i := 12) (o := ⟨some 19, _, _, _, _, _⟩) (by kernel_rfl) rfl (fun K hK => ?_)
    go_simp
    refine hK.out _ _ (ph_end (by kernel_rfl) hS1) ?_
    clear hK K
    try simp only [Act.put, List.setIfInBounds_toArray, List.set_cons_zero, List.set_cons_succ]
    refine AnyTwo.done (by kernel_rfl) ?_ _
    go_wp2_with fail
    go_meet
    exact ⟨wh0.heap.size, a0, c0, rfl, rfl, hold_be hS1, HZ.out.set3, HZ0.out, (tl_sl3 HW0.out HGL.out).mono (Nat.zero_le _)⟩
  case rest =>
   obtain ⟨gH, uHa0, uHc0, rfl, rfl, hb, hv8, hz8, hs0⟩ := hcut
   rename World => WH
   have HHW0 := tuck hs0
   have VH := tuck hv8
   replace HXt := tuck (HXt.out.below hb)
   replace HXu := tuck (HXu.out.below hb)
   replace HB := tuck (HB.out.below hb)
   replace V8 := tuck (V8.out.below hb)
   replace HBW := tuck (HBW.out.below hb)
   replace HOG0 := tuck (HOG0.out.below hb)
   replace VG := tuck (VG.out.below hb)
   clear hb hv8 hz8 hs0
   have HZH : Hid (gH < WH.heap.size) := tuck VH.out.facts.1
   clear zt c0t c1t c2t zu c0u c1u c2u
   obtain ⟨zt, c0t, c1t, c2t⟩ := HXt.out
   obtain ⟨zu, c0u, c1u, c2u⟩ := HXu.out
   obtain ⟨z8, b0, b1, b2, bf⟩ := V8.out.facts
   obtain ⟨z11, d0, d1, d2, df⟩ := VG.out.facts
   obtain ⟨zh, y0, y1, y2, yf⟩ := VH.out.facts
   go_wp2_with fail
   clear z8 b0 b1 b2 bf z11 d0 d1 d2 df zh y0 y1 y2 yf
   clear zt c0t c1t c2t zu c0u c1u c2u
   refine (HEQR0.out _ _ _ ⟨_, rfl, HHW0.out⟩ ⟨_, rfl, H8W0.out.below HBW.out.be⟩).mono ?_
   rintro e wF0 ⟨rfl, hb⟩
   replace HXt := tuck (HXt.out.below hb)
   replace HXu := tuck (HXu.out.below hb)
   replace HB := tuck (HB.out.below hb)
   replace V8 := tuck (V8.out.below hb)
   replace HBW := tuck (HBW.out.below hb)
   replace HOG0 := tuck (HOG0.out.below hb)
   replace VG := tuck (VG.out.below hb)
   replace VH := tuck (VH.out.below hb)
   replace HHW0 := tuck (HHW0.out.below hb)
   clear hb
   obtain ⟨zt, c0t, c1t, c2t⟩ := HXt.out
   obtain ⟨zu, c0u, c1u, c2u⟩ := HXu.out
   obtain ⟨z8, b0, b1, b2, bf⟩ := V8.out.facts
   obtain ⟨z11, d0, d1, d2, df⟩ := VG.out.facts
   obtain ⟨zh, y0, y1, y2, yf⟩ := VH.out.facts
   go_wp2_with fail
   clear z8 b0 b1 b2 bf z11 d0 d1 d2 df zh y0 y1 y2 yf
   clear zt c0t c1t c2t zu c0u c1u c2u
   refine (heldT_any R0 R0.kids 0 (1) _ _ HM0.out.1 HM0.out.2 HOG0.out.sl).mono ?_
   rintro e wi0 ⟨rfl, hb⟩
   replace HXt := tuck (HXt.out.below hb)
   replace HXu := tuck (HXu.out.below hb)
   replace HB := tuck (HB.out.below hb)
   replace V8 := tuck (V8.out.below hb)
   replace HBW := tuck (HBW.out.below hb)
   replace HOG0 := tuck (HOG0.out.below hb)
   replace VG := tuck (VG.out.below hb)
   replace VH := tuck (VH.out.below hb)
   clear hb
   go_wp2_with fail
   go_ret
   exact ⟨rfl, HB.out.be⟩
set_option maxRecDepth 100000 in
theorem lifted (os : Os) (started : os.Started) (H : Type) (enc : TypeId × Value → H) :
  ReturnsInHanded {} Try.checked os 4 .any (Rows.fnExactPutAtSpec.pre6 enc Try.prog Try.f4 Rows.fnExactPutAtRow.domain false) (Rows.fnExactPutAtSpec.post enc Try.prog Try.f4 false true false false) := by
 refine returnsInHanded_of_change (C := Try.checked) own started (by kernel_rfl) Try.func4
  (ChangeSpec.witness6 (enc := enc) (C := Try.checked) false ⟨#[], #[.agg #[.int .i64 0, .int .i64 0, .slice none 0 0], .slice none 0 0, .agg #[.int .i64 0, .int .i64 0, .slice none 0 0]], []⟩ 8 (by kernel_rfl) (by kernel_rfl) (by kernel_rfl) (by kernel_rfl)) ?_
 intro W base args ds gs before hval0 hW hcnd _
 have hval : ∀ (j : Nat) t v, Try.f4.params[j]? = some t → args[j]? = some v → Value.okWide Try.prog W .any base t v := hval0
 have hW' := hW
 obtain ⟨p, q, hA0, hV, rfl, hfz, hnd⟩ := hW
 have hA : DataW.TrodAll enc Try.prog W 0 (fun _ => true) true Try.f4.params.toList args.toList ds p := hA0
 rw [Try.params4] at hA hval
 obtain ⟨v0, vs0, d0, ds0, p0, q0, hargs, rfl, rfl, h0, r0⟩ := trodAll_cons hA
 obtain ⟨v1, vs1, d1, ds1, p1, q1, rfl, rfl, rfl, h1, r1⟩ := trodAll_cons r0
 obtain ⟨v2, vs2, d2, ds2, p2, q2, rfl, rfl, rfl, h2, r2⟩ := trodAll_cons r1
 obtain ⟨rfl, rfl, rfl⟩ := trodAll_nil r2
 obtain rfl : args = #[v0, v1, v2] := by cases args; simp_all
 obtain ⟨t0, ht0⟩ := open_term (hval 0 24 v0 rfl rfl) h0
 obtain ⟨N1, len1, hi1⟩ := open_intsl (hval 1 25 v1 rfl rfl) h1
 obtain ⟨t2, ht2⟩ := open_term (hval 2 24 v2 rfl rfl) h2
 refine (walk t0 N1 len1 t2 W v0 v1 v2 ht0 hi1 ht2).mono fun e W' ⟨he, hb⟩ => ?_
 subst he
 exact ⟨_, rfl, law_post rfl rfl (fun gs h => by subst h; rfl) (by rw [Try.params4]; exact readable_FnExactPutAt) laid hW' hb⟩
theorem over : Rows.fnExactPutAtRow.holds Try.pinned (OpenSpec.ofChange Rows.fnExactPutAtSpec) :=
 OpenClaim.holds_of_wide 4 Try.f4 rfl rfl rfl rfl rfl rfl rfl ⟨rfl, rfl, rfl, rfl, rfl⟩ rfl rfl rfl rfl rfl (by kernel_rfl) Try.func4 (by kernel_rfl)
  (of_decide_eq_true (by kernel_rfl)) (by unfold Func.isWrapper; first | (rw [if_pos (by decide +kernel)]; kernel_rfl) | (rw [if_neg (by decide +kernel)]; exact ⟨rfl, rfl⟩))
  (fun os started H enc _ => lifted os started H enc)
theorem proved : Rows.FnExactPutAtSaid :=
 over
end Go.Proofs.Ytleijaegpfjnpaa.fnExactPutAt
