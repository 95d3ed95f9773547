/-
  The law FnExactSubstTerm: for all terms (no ring among their parts) and every int, SubstTerm answers as its model, writes into no argument, and its answer is memory of its own.
-/
import Derived.Test.YtidmcenblmlhdaaOpen
import Derived.Test.YtidmcenblmlhdaaLawT
import Derived.Test.YtidmcenblmlhdaaTwo
import Derived.Deep.DeepCutAuto
import Derived.Test.YtidmcenblmlhdaaSpecW
namespace Go.Proofs.Ytidmcenblmlhdaa.fnExactSubstTerm
open Go.ChangeShapes Go.WideShapes Go.ChangeAt Go.RowKit Go.Deep
set_option linter.unusedVariables false

theorem readable_FnExactSubstTerm : ∀ t ∈ (#[24, 3, 24] : Array TypeId).toList, Try.prog.readableRec t = true ∧ t < Try.prog.types.size := by
  intro t ht
  simp at ht
  rcases ht with rfl | rfl | rfl
  all_goals exact ⟨by kernel_rfl, of_decide_eq_true (by kernel_rfl)⟩
theorem laid : laidOutB Try.prog = true := by kernel_rfl

theorem orZero_sizes {P : Prop} {T : Tm} (h : P → T.Valid) : (1 : Int) + 2 * (sizes (orZero P T).kids : Int) ≤ 4611686018427387904 := by
  unfold orZero
  split
  · rename_i hp
    have := (valid_bounds (h hp)).1
    omega
  · simp [zeroT, Tm.kids, sizes]

set_option maxRecDepth 100000 in
set_option maxHeartbeats 3200000 in
/-- The walk. -/
theorem walk (t u : Tm) (x : Int) (w : World) (vt vu : Value) (ht : TmIn w 0 t vt) (hu : TmIn w 0 u vu) : Calls Try.prog 6 #[vt, .int .i64 x, vu] w fun e w' => e = .returned (.bool true) ∧ Below w.heap.size w w' := by
  obtain ⟨st, rfl, hst⟩ := ht
  obtain ⟨ta, tc, rfl⟩ := hst.form
  have HSt := tuck hst
  obtain ⟨su, rfl, hsu⟩ := hu
  obtain ⟨ua, uc, rfl⟩ := hsu.form
  have HSu := tuck hsu
  clear hst hsu
  have HSZt : Hid (∀ (w : World), SlIn w 0 t.kids (.slice ta t.kids.length tc) → Calls Try.prog 15 #[.agg #[.int .i64 t.kind, .int .i64 t.num, (.slice ta t.kids.length tc)], .int .i64 1048576] w (SzPost w (szV t.kids 1048576))) := fun w h => szT_any t 1048576 w _ (by omega) (by omega) ⟨_, rfl, h⟩
  by_cases hszt : sizes t.kids ≤ 1048576
  rotate_left
  · rw [szV_not (by omega)] at HSZt
    clear hszt
    go_enter Try.func6, Try.ntmps6
    go_wp2_with fail
    refine (HSZt.out _ (HSt.out.below (below2 _ _ _))).mono ?_
    rintro e w1 ⟨rfl, hb⟩
    have HXt := tuck (((BoxAt.new w t.kind t.num (.slice ta t.kids.length tc) 24).below (below1 _ (.cells #[.int .i64 u.kind, .int .i64 u.num, .slice ua u.kids.length uc] 24))).below hb)
    have HXu := tuck ((box_new1 w (.cells #[.int .i64 t.kind, .int .i64 t.num, .slice ta t.kids.length tc] 24) u.kind u.num (.slice ua u.kids.length uc) 24).below hb)
    have HB : Hid (Bel w w1) := tuck ⟨bAfter (below2 _ _ _) hb⟩
    clear hb
    obtain ⟨zt, c0t, c1t, c2t⟩ := HXt.out
    obtain ⟨zu, c0u, c1u, c2u⟩ := HXu.out
    go_wp2_with fail
    go_ret
    exact ⟨rfl, HB.out.be⟩
  rw [szV_of (by omega)] at HSZt
  obtain ⟨left, hleft⟩ : ∃ left : Int, left = 1048576 - (sizes t.kids : Int) := ⟨_, rfl⟩
  have hm1 : (0 : Int) ≤ left := by omega
  have hm2 : left ≤ 1048576 := by omega
  rw [← hleft] at HSZt
  have HSZu : Hid (∀ (w : World), SlIn w 0 u.kids (.slice ua u.kids.length uc) → Calls Try.prog 15 #[.agg #[.int .i64 u.kind, .int .i64 u.num, (.slice ua u.kids.length uc)], .int .i64 left] w (SzPost w (szV u.kids left))) := fun w h => szT_any u left w _ hm1 hm2 ⟨_, rfl, h⟩
  by_cases hszu : (sizes u.kids : Int) ≤ left
  rotate_left
  · rw [szV_not (by omega)] at HSZu
    clear hszt hszu hleft hm2
    go_enter Try.func6, Try.ntmps6
    go_wp2_with fail
    refine (HSZt.out _ (HSt.out.below (below2 _ _ _))).mono ?_
    rintro e w1 ⟨rfl, hb⟩
    have HXt := tuck (((BoxAt.new w t.kind t.num (.slice ta t.kids.length tc) 24).below (below1 _ (.cells #[.int .i64 u.kind, .int .i64 u.num, .slice ua u.kids.length uc] 24))).below hb)
    have HXu := tuck ((box_new1 w (.cells #[.int .i64 t.kind, .int .i64 t.num, .slice ta t.kids.length tc] 24) u.kind u.num (.slice ua u.kids.length uc) 24).below hb)
    have HB : Hid (Bel w w1) := tuck ⟨bAfter (below2 _ _ _) hb⟩
    clear hb
    obtain ⟨zt, c0t, c1t, c2t⟩ := HXt.out
    obtain ⟨zu, c0u, c1u, c2u⟩ := HXu.out
    go_wp2_with fail
    refine (HSZu.out _ (HSu.out.below HB.out.be)).mono ?_
    rintro e w2 ⟨rfl, hb⟩
    replace HXt := tuck (HXt.out.below hb)
    replace HXu := tuck (HXu.out.below hb)
    replace HB := tuck (HB.out.below hb)
    clear hb
    clear zt c0t c1t c2t zu c0u c1u c2u
    obtain ⟨zt, c0t, c1t, c2t⟩ := HXt.out
    obtain ⟨zu, c0u, c1u, c2u⟩ := HXu.out
    go_wp2_with fail
    go_ret
    exact ⟨rfl, HB.out.be⟩
  rw [szV_of (by omega)] at HSZu
  obtain ⟨left2, hleft2⟩ : ∃ left2 : Int, left2 = left - (sizes u.kids : Int) := ⟨_, rfl⟩
  have hm3 : (0 : Int) ≤ left2 := by omega
  rw [← hleft2] at HSZu
  have HSP : Hid (∀ (w : World) (vt vu : Value), TmIn w 0 t vt → TmIn w 0 u vu → Calls Try.prog 26 #[vt, .int .i64 x, vu] w (SNewPost w (SubstOk t x u) (t.subst u x 0))) := fun w vt vu ht hu => subS_any t u x w vt vu ht hu
  have HIM : Hid (∀ (w : World) (vt vu : Value), TmIn w 0 t vt → TmIn w 0 u vu → Calls Try.prog 27 #[vt, .int .i64 x, vu] w (ReplPost w (SubstOk t x u) (t.subst u x 0))) := fun w vt vu ht hu => substI_any t u x w vt vu ht hu
  have hszT := orZero_sizes (P := SubstOk t x u) (T := t.subst u x 0) (fun h => h.2.2.2.2)
  unfold SNewPost at HSP
  unfold ReplPost at HIM
  have HTOt : Hid (∀ (w : World), SlIn w 0 t.kids (.slice ta t.kids.length tc) → Calls Try.prog 17 #[.agg #[.int .i64 t.kind, .int .i64 t.num, (.slice ta t.kids.length tc)]] w (ToOwnT w t)) := fun w h => toO_any t w _ (by omega) ⟨_, rfl, h⟩
  have HEQt : Hid (∀ (w : World) (v1 v2 : Value), TmIn w 0 t v1 → TmIn w 0 t v2 → Calls Try.prog 19 #[v1, v2] w (EqPost w true)) := fun w v1 v2 h1 h2 => by have := eqT_any t t w v1 v2 h1 h2; rwa [same_self] at this
  have HTOu : Hid (∀ (w : World), SlIn w 0 u.kids (.slice ua u.kids.length uc) → Calls Try.prog 17 #[.agg #[.int .i64 u.kind, .int .i64 u.num, (.slice ua u.kids.length uc)]] w (ToOwnT w u)) := fun w h => toO_any u w _ (by omega) ⟨_, rfl, h⟩
  have HEQu : Hid (∀ (w : World) (v1 v2 : Value), TmIn w 0 u v1 → TmIn w 0 u v2 → Calls Try.prog 19 #[v1, v2] w (EqPost w true)) := fun w v1 v2 h1 h2 => by have := eqT_any u u w v1 v2 h1 h2; rwa [same_self] at this
  have hkt : (1 : Int) + 2 * (sizes t.kids : Int) ≤ 4611686018427387904 := by omega
  have hku : (0 : Int) ≤ 1 + 2 * (sizes t.kids : Int) ∧ (1 : Int) + 2 * (sizes t.kids : Int) + 2 * (sizes u.kids : Int) ≤ 4611686018427387904 := by omega
  have hkl : ¬ ((1 : Int) + 2 * (sizes t.kids : Int) + 2 * (sizes u.kids : Int)) < 0 := by omega
  have HKT := tuck hkt
  have HKU := tuck hku
  generalize orZero (SubstOk t x u) (t.subst u x 0) = T at *
  generalize tr (SubstOk t x u) = cc at *
  have HEQ : Hid (∀ (w : World) (v1 v2 : Value), TmIn w 0 T v1 → TmIn w 0 T v2 → Calls Try.prog 19 #[v1, v2] w (EqPost w true)) := fun w v1 v2 h1 h2 => by have := eqT_any T T w v1 v2 h1 h2; rwa [same_self] at this
  have hkm : ¬ ((1 : Int) + 2 * (sizes T.kids : Int)) < 0 := by omega
  have hrr : (cc != cc) = false := by simp
  have HSZT := tuck hszT
  clear hszt hszu hszT hleft hleft2 hm2 hkt hku
  go_enter Try.func6, Try.ntmps6
  go_wp2_with fail
  refine (HSZt.out _ (HSt.out.below (below2 _ _ _))).mono ?_
  rintro e w1 ⟨rfl, hb⟩
  have HXt := tuck (((BoxAt.new w t.kind t.num (.slice ta t.kids.length tc) 24).below (below1 _ (.cells #[.int .i64 u.kind, .int .i64 u.num, .slice ua u.kids.length uc] 24))).below hb)
  have HXu := tuck ((box_new1 w (.cells #[.int .i64 t.kind, .int .i64 t.num, .slice ta t.kids.length tc] 24) u.kind u.num (.slice ua u.kids.length uc) 24).below hb)
  have HB : Hid (Bel w w1) := tuck ⟨bAfter (below2 _ _ _) hb⟩
  clear hb
  obtain ⟨zt, c0t, c1t, c2t⟩ := HXt.out
  obtain ⟨zu, c0u, c1u, c2u⟩ := HXu.out
  go_wp2_with fail
  refine (HSZu.out _ (HSu.out.below HB.out.be)).mono ?_
  rintro e w2 ⟨rfl, hb⟩
  replace HXt := tuck (HXt.out.below hb)
  replace HXu := tuck (HXu.out.below hb)
  replace HB := tuck (HB.out.below hb)
  clear hb
  clear zt c0t c1t c2t zu c0u c1u c2u
  obtain ⟨zt, c0t, c1t, c2t⟩ := HXt.out
  obtain ⟨zu, c0u, c1u, c2u⟩ := HXu.out
  go_upto_region 8 with fail
  go_cut [8, 9] (fun p cw wx => ∃ (gz : Nat) (az : Option Addr) (nz : Nat), p = .pointer (some ⟨gz, 0, none⟩) ∧ cw = .bool cc ∧ Below w2.heap.size w2 wx ∧ VarAt gz T.kind T.num (.slice az T.kids.length nz) wx ∧ SlIn wx 0 T.kids (.slice az T.kids.length nz) ∧ w2.heap.size ≤ gz)
  case first =>
    have HT12 : ∀ w' : World, (fun w' : World => Below w2.heap.size w2 w' ∧ (w.heap.size < w'.heap.size ∧ w'.cell? ⟨w.heap.size, 0, none⟩ = some (.int .i64 t.kind) ∧ w'.cell? ⟨w.heap.size, 1, none⟩ = some (.int .i64 t.num) ∧ w'.cell? ⟨w.heap.size, 2, none⟩ = some (.slice ta t.kids.length tc)) ∧ ((w.heap.size + 1) < w'.heap.size ∧ w'.cell? ⟨(w.heap.size + 1), 0, none⟩ = some (.int .i64 u.kind) ∧ w'.cell? ⟨(w.heap.size + 1), 1, none⟩ = some (.int .i64 u.num) ∧ w'.cell? ⟨(w.heap.size + 1), 2, none⟩ = some (.slice ua u.kids.length uc))) w' → (fun w' : World => Below w2.heap.size w2 w' ∧ (w.heap.size < w'.heap.size ∧ w'.cell? ⟨w.heap.size, 0, none⟩ = some (.int .i64 t.kind) ∧ w'.cell? ⟨w.heap.size, 1, none⟩ = some (.int .i64 t.num) ∧ w'.cell? ⟨w.heap.size, 2, none⟩ = some (.slice ta t.kids.length tc)) ∧ ((w.heap.size + 1) < w'.heap.size ∧ w'.cell? ⟨(w.heap.size + 1), 0, none⟩ = some (.int .i64 u.kind) ∧ w'.cell? ⟨(w.heap.size + 1), 1, none⟩ = some (.int .i64 u.num) ∧ w'.cell? ⟨(w.heap.size + 1), 2, none⟩ = some (.slice ua u.kids.length uc))) w' := fun w' h => h
    refine AnyTwo.begin (fun w' : World => Below w2.heap.size w2 w' ∧ (w.heap.size < w'.heap.size ∧ w'.cell? ⟨w.heap.size, 0, none⟩ = some (.int .i64 t.kind) ∧ w'.cell? ⟨w.heap.size, 1, none⟩ = some (.int .i64 t.num) ∧ w'.cell? ⟨w.heap.size, 2, none⟩ = some (.slice ta t.kids.length tc)) ∧ ((w.heap.size + 1) < w'.heap.size ∧ w'.cell? ⟨(w.heap.size + 1), 0, none⟩ = some (.int .i64 u.kind) ∧ w'.cell? ⟨(w.heap.size + 1), 1, none⟩ = some (.int .i64 u.num) ∧ w'.cell? ⟨(w.heap.size + 1), 2, none⟩ = some (.slice ua u.kids.length uc))) (fun w' : World => Below w2.heap.size w2 w' ∧ (w.heap.size < w'.heap.size ∧ w'.cell? ⟨w.heap.size, 0, none⟩ = some (.int .i64 t.kind) ∧ w'.cell? ⟨w.heap.size, 1, none⟩ = some (.int .i64 t.num) ∧ w'.cell? ⟨w.heap.size, 2, none⟩ = some (.slice ta t.kids.length tc)) ∧ ((w.heap.size + 1) < w'.heap.size ∧ w'.cell? ⟨(w.heap.size + 1), 0, none⟩ = some (.int .i64 u.kind) ∧ w'.cell? ⟨(w.heap.size + 1), 1, none⟩ = some (.int .i64 u.num) ∧ w'.cell? ⟨(w.heap.size + 1), 2, none⟩ = some (.slice ua u.kids.length uc))) 10 (by kernel_rfl) ?_
    have hS1 : (fun w' : World => Below w2.heap.size w2 w' ∧ (w.heap.size < w'.heap.size ∧ w'.cell? ⟨w.heap.size, 0, none⟩ = some (.int .i64 t.kind) ∧ w'.cell? ⟨w.heap.size, 1, none⟩ = some (.int .i64 t.num) ∧ w'.cell? ⟨w.heap.size, 2, none⟩ = some (.slice ta t.kids.length tc)) ∧ ((w.heap.size + 1) < w'.heap.size ∧ w'.cell? ⟨(w.heap.size + 1), 0, none⟩ = some (.int .i64 u.kind) ∧ w'.cell? ⟨(w.heap.size + 1), 1, none⟩ = some (.int .i64 u.num) ∧ w'.cell? ⟨(w.heap.size + 1), 2, none⟩ = some (.slice ua u.kids.length uc))) w2.drew := ⟨(Below.refl _ _).drew, HXt.out, HXu.out⟩
    have HXL : Hid (w.heap.size < w2.heap.size ∧ w.heap.size + 1 < w2.heap.size) := tuck ⟨HXt.out.1, HXu.out.1⟩
    refine AnyTwo.takeAny HT12 (i := 0) (oi := { dst := some 30, op := _, type := _, pos := _, after := _, guard := _ }) (v := ?va0) rfl (by kernel_rfl) (by kernel_rfl) (by decide +kernel) (by rfl) (fun _ _ _ h => h) (Or.inl ⟨by rfl, ?ya0⟩) (ph_one (by kernel_rfl) hS1) ?ra0
    case ya0 => (intro w hSw; (try dsimp only at hSw); go_simp; try (with_reducible rfl))
    try simp only [Act.put, List.setIfInBounds_toArray, List.set_cons_zero, List.set_cons_succ]
    refine AnyTwo.takeAny HT12 (i := 2) (oi := { dst := some 32, op := _, type := _, pos := _, after := _, guard := _ }) (v := ?va2) rfl (by kernel_rfl) (by kernel_rfl) (by decide +kernel) (by rfl) (fun _ _ _ h => h) (Or.inl ⟨by rfl, ?ya2⟩) (ph_one (by kernel_rfl) hS1) ?ra2
    case ya2 => (intro w hSw; (try dsimp only at hSw); go_simp; try (with_reducible rfl))
    try simp only [Act.put, List.setIfInBounds_toArray, List.set_cons_zero, List.set_cons_succ]
    refine AnyTwo.takeAny HT12 (i := 3) (oi := { dst := some 33, op := _, type := _, pos := _, after := _, guard := _ }) (v := ?va3) rfl (by kernel_rfl) (by kernel_rfl) (by decide +kernel) (by rfl) (fun _ _ _ h => h) (Or.inl ⟨by rfl, ?ya3⟩) (ph_one (by kernel_rfl) hS1) ?ra3
    case ya3 => (intro w hSw; (try dsimp only at hSw); go_simp; try (with_reducible rfl))
    try simp only [Act.put, List.setIfInBounds_toArray, List.set_cons_zero, List.set_cons_succ]
    refine AnyTwo.fork (i := 1) (o := { dst := some 31, op := _, type := _, pos := _, after := _, guard := _ }) (j := 9) (o' := { dst := some 8, op := _, type := _, pos := _, after := _, guard := _ }) (by kernel_rfl) rfl rfl (fun K hK => ?_) (fun K hK => ?_)
    · skip
      go_simp
      refine (HTOt.out _ (HSt.out.below (bAfter HB.out.be (hold_be hS1)))).mono ?_
      rintro e w71 ⟨hb71, v, rfl, s71, F71, rfl, hs71, -, -⟩
      obtain ⟨a71, n71, rfl⟩ := hs71.form
      have H71 := tuck (hs71.sl (B := 0) (fun _ _ => Nat.zero_le _))
      clear hs71
      have hS1' : (fun w' : World => Below w2.heap.size w2 w' ∧ (w.heap.size < w'.heap.size ∧ w'.cell? ⟨w.heap.size, 0, none⟩ = some (.int .i64 t.kind) ∧ w'.cell? ⟨w.heap.size, 1, none⟩ = some (.int .i64 t.num) ∧ w'.cell? ⟨w.heap.size, 2, none⟩ = some (.slice ta t.kids.length tc)) ∧ ((w.heap.size + 1) < w'.heap.size ∧ w'.cell? ⟨(w.heap.size + 1), 0, none⟩ = some (.int .i64 u.kind) ∧ w'.cell? ⟨(w.heap.size + 1), 1, none⟩ = some (.int .i64 u.num) ∧ w'.cell? ⟨(w.heap.size + 1), 2, none⟩ = some (.slice ua u.kids.length uc))) _ := holdT hS1 hb71
      refine hK.out _ _ (ph_one (by kernel_rfl) hS1') ?_
      clear hK K hS1
      have hS1 := hS1'
      clear hS1'
      try simp only [Act.put, List.setIfInBounds_toArray, List.set_cons_zero, List.set_cons_succ]
      refine AnyTwo.fork (i := 4) (o := { dst := some 34, op := _, type := _, pos := _, after := _, guard := _ }) (j := 9) (o' := { dst := some 8, op := _, type := _, pos := _, after := _, guard := _ }) (by kernel_rfl) rfl rfl (fun K hK => ?_) (fun K hK => ?_)
      · skip
        go_simp
        refine (HTOu.out _ (HSu.out.below (bAfter HB.out.be (hold_be hS1)))).mono ?_
        rintro e w81 ⟨hb81, v, rfl, s81, F81, rfl, hs81, -, -⟩
        obtain ⟨a81, n81, rfl⟩ := hs81.form
        have H81 := tuck (hs81.sl (B := 0) (fun _ _ => Nat.zero_le _))
        replace H71 := tuck (H71.out.below hb81)
        clear hs81
        have hS1' : (fun w' : World => Below w2.heap.size w2 w' ∧ (w.heap.size < w'.heap.size ∧ w'.cell? ⟨w.heap.size, 0, none⟩ = some (.int .i64 t.kind) ∧ w'.cell? ⟨w.heap.size, 1, none⟩ = some (.int .i64 t.num) ∧ w'.cell? ⟨w.heap.size, 2, none⟩ = some (.slice ta t.kids.length tc)) ∧ ((w.heap.size + 1) < w'.heap.size ∧ w'.cell? ⟨(w.heap.size + 1), 0, none⟩ = some (.int .i64 u.kind) ∧ w'.cell? ⟨(w.heap.size + 1), 1, none⟩ = some (.int .i64 u.num) ∧ w'.cell? ⟨(w.heap.size + 1), 2, none⟩ = some (.slice ua u.kids.length uc))) _ := holdT hS1 hb81
        refine hK.out _ _ (ph_one (by kernel_rfl) hS1') ?_
        clear hK K hS1
        have hS1 := hS1'
        clear hS1'
        try simp only [Act.put, List.setIfInBounds_toArray, List.set_cons_zero, List.set_cons_succ]
        refine AnyTwo.fork (i := 5) (o := { dst := some 35, op := _, type := _, pos := _, after := _, guard := _ }) (j := 9) (o' := { dst := some 8, op := _, type := _, pos := _, after := _, guard := _ }) (by kernel_rfl) rfl rfl (fun K hK => ?_) (fun K hK => ?_)
        · skip
          go_simp
          refine (HSP.out _ _ _ ⟨_, rfl, H71.out⟩ ⟨_, rfl, H81.out⟩).mono ?_
          rintro e w91 ⟨hb91, v, rfl, s3, rfl, hin3⟩
          obtain ⟨a3, n3, rfl⟩ := hin3.form
          have HW0 := tuck hin3
          have HH9 := tuck (holdT hS1 hb91)
          clear hin3
          have hS1' : (fun w' : World => Below w2.heap.size w2 w' ∧ (w.heap.size < w'.heap.size ∧ w'.cell? ⟨w.heap.size, 0, none⟩ = some (.int .i64 t.kind) ∧ w'.cell? ⟨w.heap.size, 1, none⟩ = some (.int .i64 t.num) ∧ w'.cell? ⟨w.heap.size, 2, none⟩ = some (.slice ta t.kids.length tc)) ∧ ((w.heap.size + 1) < w'.heap.size ∧ w'.cell? ⟨(w.heap.size + 1), 0, none⟩ = some (.int .i64 u.kind) ∧ w'.cell? ⟨(w.heap.size + 1), 1, none⟩ = some (.int .i64 u.num) ∧ w'.cell? ⟨(w.heap.size + 1), 2, none⟩ = some (.slice ua u.kids.length uc))) _ := HH9.out
          refine hK.out _ _ (ph_one (by kernel_rfl) hS1') ?_
          clear hK K hS1
          have hS1 := hS1'
          clear hS1'
          try simp only [Act.put, List.setIfInBounds_toArray, List.set_cons_zero, List.set_cons_succ]
          refine AnyTwo.takeAny HT12 (i := 6) (oi := { dst := some 29, op := _, type := _, pos := _, after := _, guard := _ }) (v := ?vaccc6) rfl (by kernel_rfl) (by kernel_rfl) (by decide +kernel) (by rfl) (fun _ _ _ h => h) (Or.inl ⟨by rfl, ?yaccc6⟩) (ph_one (by kernel_rfl) hS1) ?raccc6
          case yaccc6 => (intro w hSw; (try dsimp only at hSw); go_simp; try (with_reducible rfl))
          try simp only [Act.put, List.setIfInBounds_toArray, List.set_cons_zero, List.set_cons_succ]
          refine AnyTwo.takeAny HT12 (i := 7) (oi := { dst := some 36, op := _, type := _, pos := _, after := _, guard := _ }) (v := ?vaccc7) rfl (by kernel_rfl) (by kernel_rfl) (by decide +kernel) (by rfl) (fun _ _ _ h => h) (Or.inl ⟨by rfl, ?yaccc7⟩) (ph_one (by kernel_rfl) hS1) ?raccc7
          case yaccc7 => (intro w hSw; (try dsimp only at hSw); go_simp; try (with_reducible rfl))
          try simp only [Act.put, List.setIfInBounds_toArray, List.set_cons_zero, List.set_cons_succ]
          refine AnyTwo.takeAny HT12 (i := 8) (oi := { dst := some 37, op := _, type := _, pos := _, after := _, guard := _ }) (v := ?vaccc8) rfl (by kernel_rfl) (by kernel_rfl) (by decide +kernel) (by rfl) (fun _ _ _ h => h) (Or.inl ⟨by rfl, ?yaccc8⟩) (ph_one (by kernel_rfl) hS1) ?raccc8
          case yaccc8 => (intro w hSw; (try dsimp only at hSw); go_simp; try (with_reducible rfl))
          try simp only [Act.put, List.setIfInBounds_toArray, List.set_cons_zero, List.set_cons_succ]
          refine AnyTwo.step (i := 9) (o := { dst := some 8, op := _, type := _, pos := _, after := _, guard := _ }) (by kernel_rfl) rfl (fun K hK => ?_)
          go_simp
          have hz0 : w2.heap.size ≤ w91.heap.size := (hold_be hS1).size
          have HZ0 := tuck hz0
          clear hz0
          have hS1' : (fun w' : World => Below w2.heap.size w2 w' ∧ (w.heap.size < w'.heap.size ∧ w'.cell? ⟨w.heap.size, 0, none⟩ = some (.int .i64 t.kind) ∧ w'.cell? ⟨w.heap.size, 1, none⟩ = some (.int .i64 t.num) ∧ w'.cell? ⟨w.heap.size, 2, none⟩ = some (.slice ta t.kids.length tc)) ∧ ((w.heap.size + 1) < w'.heap.size ∧ w'.cell? ⟨(w.heap.size + 1), 0, none⟩ = some (.int .i64 u.kind) ∧ w'.cell? ⟨(w.heap.size + 1), 1, none⟩ = some (.int .i64 u.num) ∧ w'.cell? ⟨(w.heap.size + 1), 2, none⟩ = some (.slice ua u.kids.length uc))) _ := holdT HH9.out (below1 w91 (.cells #[.int .i64 0, .int .i64 0, .slice none 0 0] 29))
          refine hK.out _ _ (ph_one (by kernel_rfl) hS1') ?_
          clear hK K hS1
          have hS1 := hS1'
          clear hS1'
          try simp only [Act.put, List.setIfInBounds_toArray, List.set_cons_zero, List.set_cons_succ]
          refine AnyTwo.step (i := 10) (o := { dst := none, op := _, type := _, pos := _, after := _, guard := _ }) (by kernel_rfl) rfl (fun K hK => ?_)
          go_simp
          have hS1' : (fun w' : World => Below w2.heap.size w2 w' ∧ (w.heap.size < w'.heap.size ∧ w'.cell? ⟨w.heap.size, 0, none⟩ = some (.int .i64 t.kind) ∧ w'.cell? ⟨w.heap.size, 1, none⟩ = some (.int .i64 t.num) ∧ w'.cell? ⟨w.heap.size, 2, none⟩ = some (.slice ta t.kids.length tc)) ∧ ((w.heap.size + 1) < w'.heap.size ∧ w'.cell? ⟨(w.heap.size + 1), 0, none⟩ = some (.int .i64 u.kind) ∧ w'.cell? ⟨(w.heap.size + 1), 1, none⟩ = some (.int .i64 u.num) ∧ w'.cell? ⟨(w.heap.size + 1), 2, none⟩ = some (.slice ua u.kids.length uc))) _ := holdT HH9.out (below1 w91 (.cells #[.int .i64 T.kind, .int .i64 T.num, .slice a3 T.kids.length n3] 29))
          refine hK.out _ _ (ph_end (by kernel_rfl) hS1') ?_
          clear hK K hS1
          have hS1 := hS1'
          clear hS1'
          try simp only [Act.put, List.setIfInBounds_toArray, List.set_cons_zero, List.set_cons_succ]
          refine AnyTwo.step (i := 11) (o := { dst := some 9, op := _, type := _, pos := _, after := _, guard := _ }) (by kernel_rfl) rfl (fun K hK => ?_)
          go_simp
          have hS1' : (fun w' : World => Below w2.heap.size w2 w' ∧ (w.heap.size < w'.heap.size ∧ w'.cell? ⟨w.heap.size, 0, none⟩ = some (.int .i64 t.kind) ∧ w'.cell? ⟨w.heap.size, 1, none⟩ = some (.int .i64 t.num) ∧ w'.cell? ⟨w.heap.size, 2, none⟩ = some (.slice ta t.kids.length tc)) ∧ ((w.heap.size + 1) < w'.heap.size ∧ w'.cell? ⟨(w.heap.size + 1), 0, none⟩ = some (.int .i64 u.kind) ∧ w'.cell? ⟨(w.heap.size + 1), 1, none⟩ = some (.int .i64 u.num) ∧ w'.cell? ⟨(w.heap.size + 1), 2, none⟩ = some (.slice ua u.kids.length uc))) _ := holdT HH9.out (below1 w91 (.cells #[.int .i64 T.kind, .int .i64 T.num, .slice a3 T.kids.length n3] 29))
          refine hK.out _ _ (ph_end (by kernel_rfl) hS1') ?_
          clear hK K hS1
          have hS1 := hS1'
          clear hS1'
          try simp only [Act.put, List.setIfInBounds_toArray, List.set_cons_zero, List.set_cons_succ]
          refine AnyTwo.done (by kernel_rfl) ?_ _
          go_wp2_with fail
          go_meet
          exact ⟨w91.heap.size, a3, n3, rfl, rfl, hold_be hS1, VarAt.new w91 T.kind T.num (.slice a3 T.kids.length n3), (HW0.out.mono (Nat.zero_le _)).below (below1 w91 _), HZ0.out⟩
        · skip
          go_simp
          have HZ := tuck (VarAt.new w81 0 0 (.slice none 0 0))
          have hz0 : w2.heap.size ≤ w81.heap.size := (hold_be hS1).size
          have HZ0 := tuck hz0
          clear hz0
          replace H71 := tuck (H71.out.below (below1 w81 (.cells #[.int .i64 0, .int .i64 0, .slice none 0 0] 29)))
          replace H81 := tuck (H81.out.below (below1 w81 (.cells #[.int .i64 0, .int .i64 0, .slice none 0 0] 29)))
          have hS1' : (fun w' : World => Below w2.heap.size w2 w' ∧ (w.heap.size < w'.heap.size ∧ w'.cell? ⟨w.heap.size, 0, none⟩ = some (.int .i64 t.kind) ∧ w'.cell? ⟨w.heap.size, 1, none⟩ = some (.int .i64 t.num) ∧ w'.cell? ⟨w.heap.size, 2, none⟩ = some (.slice ta t.kids.length tc)) ∧ ((w.heap.size + 1) < w'.heap.size ∧ w'.cell? ⟨(w.heap.size + 1), 0, none⟩ = some (.int .i64 u.kind) ∧ w'.cell? ⟨(w.heap.size + 1), 1, none⟩ = some (.int .i64 u.num) ∧ w'.cell? ⟨(w.heap.size + 1), 2, none⟩ = some (.slice ua u.kids.length uc))) _ := holdT hS1 (below1 w81 (.cells #[.int .i64 0, .int .i64 0, .slice none 0 0] 29))
          refine hK.out _ _ (ph_one (by kernel_rfl) hS1') ?_
          clear hK K hS1
          have hS1 := hS1'
          clear hS1'
          try simp only [Act.put, List.setIfInBounds_toArray, List.set_cons_zero, List.set_cons_succ]
          refine AnyTwo.step (i := 5) (o := { dst := some 35, op := _, type := _, pos := _, after := _, guard := _ }) (by kernel_rfl) rfl (fun K hK => ?_)
          go_simp
          have HGL := tuck HZ.out.facts.1
          refine (HSP.out _ _ _ ⟨_, rfl, H71.out⟩ ⟨_, rfl, H81.out⟩).mono ?_
          rintro e w91 ⟨hb91, v, rfl, s3, rfl, hin3⟩
          obtain ⟨a3, n3, rfl⟩ := hin3.form
          have HW0 := tuck hin3
          have HH9 := tuck (holdT hS1 hb91)
          clear hin3
          replace HZ := tuck (HZ.out.below hb91)
          obtain ⟨zz, y0, y1, y2, yf⟩ := HZ.out.facts
          have hS1' : (fun w' : World => Below w2.heap.size w2 w' ∧ (w.heap.size < w'.heap.size ∧ w'.cell? ⟨w.heap.size, 0, none⟩ = some (.int .i64 t.kind) ∧ w'.cell? ⟨w.heap.size, 1, none⟩ = some (.int .i64 t.num) ∧ w'.cell? ⟨w.heap.size, 2, none⟩ = some (.slice ta t.kids.length tc)) ∧ ((w.heap.size + 1) < w'.heap.size ∧ w'.cell? ⟨(w.heap.size + 1), 0, none⟩ = some (.int .i64 u.kind) ∧ w'.cell? ⟨(w.heap.size + 1), 1, none⟩ = some (.int .i64 u.num) ∧ w'.cell? ⟨(w.heap.size + 1), 2, none⟩ = some (.slice ua u.kids.length uc))) _ := HH9.out
          refine hK.out _ _ (ph_one (by kernel_rfl) hS1') ?_
          clear hK K hS1
          have hS1 := hS1'
          clear hS1'
          try simp only [Act.put, List.setIfInBounds_toArray, List.set_cons_zero, List.set_cons_succ]
          refine AnyTwo.takeAny HT12 (i := 6) (oi := { dst := some 29, op := _, type := _, pos := _, after := _, guard := _ }) (v := ?vaccac6) rfl (by kernel_rfl) (by kernel_rfl) (by decide +kernel) (by rfl) (fun _ _ _ h => h) (Or.inl ⟨by rfl, ?yaccac6⟩) (ph_one (by kernel_rfl) hS1) ?raccac6
          case yaccac6 => (intro w hSw; (try dsimp only at hSw); go_simp; try (with_reducible rfl))
          try simp only [Act.put, List.setIfInBounds_toArray, List.set_cons_zero, List.set_cons_succ]
          refine AnyTwo.takeAny HT12 (i := 7) (oi := { dst := some 36, op := _, type := _, pos := _, after := _, guard := _ }) (v := ?vaccac7) rfl (by kernel_rfl) (by kernel_rfl) (by decide +kernel) (by rfl) (fun _ _ _ h => h) (Or.inl ⟨by rfl, ?yaccac7⟩) (ph_one (by kernel_rfl) hS1) ?raccac7
          case yaccac7 => (intro w hSw; (try dsimp only at hSw); go_simp; try (with_reducible rfl))
          try simp only [Act.put, List.setIfInBounds_toArray, List.set_cons_zero, List.set_cons_succ]
          refine AnyTwo.takeAny HT12 (i := 8) (oi := { dst := some 37, op := _, type := _, pos := _, after := _, guard := _ }) (v := ?vaccac8) rfl (by kernel_rfl) (by kernel_rfl) (by decide +kernel) (by rfl) (fun _ _ _ h => h) (Or.inl ⟨by rfl, ?yaccac8⟩) (ph_one (by kernel_rfl) hS1) ?raccac8
          case yaccac8 => (intro w hSw; (try dsimp only at hSw); go_simp; try (with_reducible rfl))
          try simp only [Act.put, List.setIfInBounds_toArray, List.set_cons_zero, List.set_cons_succ]
          refine AnyTwo.step (i := 10) (o := { dst := none, op := _, type := _, pos := _, after := _, guard := _ }) (by kernel_rfl) rfl (fun K hK => ?_)
          go_simp
          have hS1' : (fun w' : World => Below w2.heap.size w2 w' ∧ (w.heap.size < w'.heap.size ∧ w'.cell? ⟨w.heap.size, 0, none⟩ = some (.int .i64 t.kind) ∧ w'.cell? ⟨w.heap.size, 1, none⟩ = some (.int .i64 t.num) ∧ w'.cell? ⟨w.heap.size, 2, none⟩ = some (.slice ta t.kids.length tc)) ∧ ((w.heap.size + 1) < w'.heap.size ∧ w'.cell? ⟨(w.heap.size + 1), 0, none⟩ = some (.int .i64 u.kind) ∧ w'.cell? ⟨(w.heap.size + 1), 1, none⟩ = some (.int .i64 u.num) ∧ w'.cell? ⟨(w.heap.size + 1), 2, none⟩ = some (.slice ua u.kids.length uc))) _ := holdT_set3 HH9.out (gz := w81.heap.size) (x := .int .i64 T.kind) (y := .int .i64 T.num) (z := .slice a3 T.kids.length n3) HZ0.out HXL.out.1 HXL.out.2
          refine hK.out _ _ (ph_end (by kernel_rfl) hS1') ?_
          clear hK K hS1
          have hS1 := hS1'
          clear hS1'
          try simp only [Act.put, List.setIfInBounds_toArray, List.set_cons_zero, List.set_cons_succ]
          refine AnyTwo.step (i := 11) (o := { dst := some 9, op := _, type := _, pos := _, after := _, guard := _ }) (by kernel_rfl) rfl (fun K hK => ?_)
          go_simp
          have hS1' : (fun w' : World => Below w2.heap.size w2 w' ∧ (w.heap.size < w'.heap.size ∧ w'.cell? ⟨w.heap.size, 0, none⟩ = some (.int .i64 t.kind) ∧ w'.cell? ⟨w.heap.size, 1, none⟩ = some (.int .i64 t.num) ∧ w'.cell? ⟨w.heap.size, 2, none⟩ = some (.slice ta t.kids.length tc)) ∧ ((w.heap.size + 1) < w'.heap.size ∧ w'.cell? ⟨(w.heap.size + 1), 0, none⟩ = some (.int .i64 u.kind) ∧ w'.cell? ⟨(w.heap.size + 1), 1, none⟩ = some (.int .i64 u.num) ∧ w'.cell? ⟨(w.heap.size + 1), 2, none⟩ = some (.slice ua u.kids.length uc))) _ := hS1
          refine hK.out _ _ (ph_end (by kernel_rfl) hS1') ?_
          clear hK K hS1
          have hS1 := hS1'
          clear hS1'
          try simp only [Act.put, List.setIfInBounds_toArray, List.set_cons_zero, List.set_cons_succ]
          refine AnyTwo.done (by kernel_rfl) ?_ _
          go_wp2_with fail
          go_meet
          exact ⟨w81.heap.size, a3, n3, rfl, rfl, hold_be hS1, HZ.out.set3, (HW0.out.set3 HGL.out).mono (Nat.zero_le _), HZ0.out⟩
      · skip
        go_simp
        have HZ := tuck (VarAt.new w71 0 0 (.slice none 0 0))
        have hz0 : w2.heap.size ≤ w71.heap.size := (hold_be hS1).size
        have HZ0 := tuck hz0
        clear hz0
        replace H71 := tuck (H71.out.below (below1 w71 (.cells #[.int .i64 0, .int .i64 0, .slice none 0 0] 29)))
        have hS1' : (fun w' : World => Below w2.heap.size w2 w' ∧ (w.heap.size < w'.heap.size ∧ w'.cell? ⟨w.heap.size, 0, none⟩ = some (.int .i64 t.kind) ∧ w'.cell? ⟨w.heap.size, 1, none⟩ = some (.int .i64 t.num) ∧ w'.cell? ⟨w.heap.size, 2, none⟩ = some (.slice ta t.kids.length tc)) ∧ ((w.heap.size + 1) < w'.heap.size ∧ w'.cell? ⟨(w.heap.size + 1), 0, none⟩ = some (.int .i64 u.kind) ∧ w'.cell? ⟨(w.heap.size + 1), 1, none⟩ = some (.int .i64 u.num) ∧ w'.cell? ⟨(w.heap.size + 1), 2, none⟩ = some (.slice ua u.kids.length uc))) _ := holdT hS1 (below1 w71 (.cells #[.int .i64 0, .int .i64 0, .slice none 0 0] 29))
        refine hK.out _ _ (ph_one (by kernel_rfl) hS1') ?_
        clear hK K hS1
        have hS1 := hS1'
        clear hS1'
        try simp only [Act.put, List.setIfInBounds_toArray, List.set_cons_zero, List.set_cons_succ]
        refine AnyTwo.step (i := 4) (o := { dst := some 34, op := _, type := _, pos := _, after := _, guard := _ }) (by kernel_rfl) rfl (fun K hK => ?_)
        go_simp
        refine (HTOu.out _ (HSu.out.below (bAfter HB.out.be (hold_be hS1)))).mono ?_
        rintro e w81 ⟨hb81, v, rfl, s81, F81, rfl, hs81, -, -⟩
        obtain ⟨a81, n81, rfl⟩ := hs81.form
        have H81 := tuck (hs81.sl (B := 0) (fun _ _ => Nat.zero_le _))
        replace H71 := tuck (H71.out.below hb81)
        clear hs81
        replace HZ := tuck (HZ.out.below hb81)
        have hS1' : (fun w' : World => Below w2.heap.size w2 w' ∧ (w.heap.size < w'.heap.size ∧ w'.cell? ⟨w.heap.size, 0, none⟩ = some (.int .i64 t.kind) ∧ w'.cell? ⟨w.heap.size, 1, none⟩ = some (.int .i64 t.num) ∧ w'.cell? ⟨w.heap.size, 2, none⟩ = some (.slice ta t.kids.length tc)) ∧ ((w.heap.size + 1) < w'.heap.size ∧ w'.cell? ⟨(w.heap.size + 1), 0, none⟩ = some (.int .i64 u.kind) ∧ w'.cell? ⟨(w.heap.size + 1), 1, none⟩ = some (.int .i64 u.num) ∧ w'.cell? ⟨(w.heap.size + 1), 2, none⟩ = some (.slice ua u.kids.length uc))) _ := holdT hS1 hb81
        refine hK.out _ _ (ph_one (by kernel_rfl) hS1') ?_
        clear hK K hS1
        have hS1 := hS1'
        clear hS1'
        try simp only [Act.put, List.setIfInBounds_toArray, List.set_cons_zero, List.set_cons_succ]
        refine AnyTwo.step (i := 5) (o := { dst := some 35, op := _, type := _, pos := _, after := _, guard := _ }) (by kernel_rfl) rfl (fun K hK => ?_)
        go_simp
        have HGL := tuck HZ.out.facts.1
        refine (HSP.out _ _ _ ⟨_, rfl, H71.out⟩ ⟨_, rfl, H81.out⟩).mono ?_
        rintro e w91 ⟨hb91, v, rfl, s3, rfl, hin3⟩
        obtain ⟨a3, n3, rfl⟩ := hin3.form
        have HW0 := tuck hin3
        have HH9 := tuck (holdT hS1 hb91)
        clear hin3
        replace HZ := tuck (HZ.out.below hb91)
        obtain ⟨zz, y0, y1, y2, yf⟩ := HZ.out.facts
        have hS1' : (fun w' : World => Below w2.heap.size w2 w' ∧ (w.heap.size < w'.heap.size ∧ w'.cell? ⟨w.heap.size, 0, none⟩ = some (.int .i64 t.kind) ∧ w'.cell? ⟨w.heap.size, 1, none⟩ = some (.int .i64 t.num) ∧ w'.cell? ⟨w.heap.size, 2, none⟩ = some (.slice ta t.kids.length tc)) ∧ ((w.heap.size + 1) < w'.heap.size ∧ w'.cell? ⟨(w.heap.size + 1), 0, none⟩ = some (.int .i64 u.kind) ∧ w'.cell? ⟨(w.heap.size + 1), 1, none⟩ = some (.int .i64 u.num) ∧ w'.cell? ⟨(w.heap.size + 1), 2, none⟩ = some (.slice ua u.kids.length uc))) _ := HH9.out
        refine hK.out _ _ (ph_one (by kernel_rfl) hS1') ?_
        clear hK K hS1
        have hS1 := hS1'
        clear hS1'
        try simp only [Act.put, List.setIfInBounds_toArray, List.set_cons_zero, List.set_cons_succ]
        refine AnyTwo.takeAny HT12 (i := 6) (oi := { dst := some 29, op := _, type := _, pos := _, after := _, guard := _ }) (v := ?vacacc6) rfl (by kernel_rfl) (by kernel_rfl) (by decide +kernel) (by rfl) (fun _ _ _ h => h) (Or.inl ⟨by rfl, ?yacacc6⟩) (ph_one (by kernel_rfl) hS1) ?racacc6
        case yacacc6 => (intro w hSw; (try dsimp only at hSw); go_simp; try (with_reducible rfl))
        try simp only [Act.put, List.setIfInBounds_toArray, List.set_cons_zero, List.set_cons_succ]
        refine AnyTwo.takeAny HT12 (i := 7) (oi := { dst := some 36, op := _, type := _, pos := _, after := _, guard := _ }) (v := ?vacacc7) rfl (by kernel_rfl) (by kernel_rfl) (by decide +kernel) (by rfl) (fun _ _ _ h => h) (Or.inl ⟨by rfl, ?yacacc7⟩) (ph_one (by kernel_rfl) hS1) ?racacc7
        case yacacc7 => (intro w hSw; (try dsimp only at hSw); go_simp; try (with_reducible rfl))
        try simp only [Act.put, List.setIfInBounds_toArray, List.set_cons_zero, List.set_cons_succ]
        refine AnyTwo.takeAny HT12 (i := 8) (oi := { dst := some 37, op := _, type := _, pos := _, after := _, guard := _ }) (v := ?vacacc8) rfl (by kernel_rfl) (by kernel_rfl) (by decide +kernel) (by rfl) (fun _ _ _ h => h) (Or.inl ⟨by rfl, ?yacacc8⟩) (ph_one (by kernel_rfl) hS1) ?racacc8
        case yacacc8 => (intro w hSw; (try dsimp only at hSw); go_simp; try (with_reducible rfl))
        try simp only [Act.put, List.setIfInBounds_toArray, List.set_cons_zero, List.set_cons_succ]
        refine AnyTwo.step (i := 10) (o := { dst := none, op := _, type := _, pos := _, after := _, guard := _ }) (by kernel_rfl) rfl (fun K hK => ?_)
        go_simp
        have hS1' : (fun w' : World => Below w2.heap.size w2 w' ∧ (w.heap.size < w'.heap.size ∧ w'.cell? ⟨w.heap.size, 0, none⟩ = some (.int .i64 t.kind) ∧ w'.cell? ⟨w.heap.size, 1, none⟩ = some (.int .i64 t.num) ∧ w'.cell? ⟨w.heap.size, 2, none⟩ = some (.slice ta t.kids.length tc)) ∧ ((w.heap.size + 1) < w'.heap.size ∧ w'.cell? ⟨(w.heap.size + 1), 0, none⟩ = some (.int .i64 u.kind) ∧ w'.cell? ⟨(w.heap.size + 1), 1, none⟩ = some (.int .i64 u.num) ∧ w'.cell? ⟨(w.heap.size + 1), 2, none⟩ = some (.slice ua u.kids.length uc))) _ := holdT_set3 HH9.out (gz := w71.heap.size) (x := .int .i64 T.kind) (y := .int .i64 T.num) (z := .slice a3 T.kids.length n3) HZ0.out HXL.out.1 HXL.out.2
        refine hK.out _ _ (ph_end (by kernel_rfl) hS1') ?_
        clear hK K hS1
        have hS1 := hS1'
        clear hS1'
        try simp only [Act.put, List.setIfInBounds_toArray, List.set_cons_zero, List.set_cons_succ]
        refine AnyTwo.step (i := 11) (o := { dst := some 9, op := _, type := _, pos := _, after := _, guard := _ }) (by kernel_rfl) rfl (fun K hK => ?_)
        go_simp
        have hS1' : (fun w' : World => Below w2.heap.size w2 w' ∧ (w.heap.size < w'.heap.size ∧ w'.cell? ⟨w.heap.size, 0, none⟩ = some (.int .i64 t.kind) ∧ w'.cell? ⟨w.heap.size, 1, none⟩ = some (.int .i64 t.num) ∧ w'.cell? ⟨w.heap.size, 2, none⟩ = some (.slice ta t.kids.length tc)) ∧ ((w.heap.size + 1) < w'.heap.size ∧ w'.cell? ⟨(w.heap.size + 1), 0, none⟩ = some (.int .i64 u.kind) ∧ w'.cell? ⟨(w.heap.size + 1), 1, none⟩ = some (.int .i64 u.num) ∧ w'.cell? ⟨(w.heap.size + 1), 2, none⟩ = some (.slice ua u.kids.length uc))) _ := hS1
        refine hK.out _ _ (ph_end (by kernel_rfl) hS1') ?_
        clear hK K hS1
        have hS1 := hS1'
        clear hS1'
        try simp only [Act.put, List.setIfInBounds_toArray, List.set_cons_zero, List.set_cons_succ]
        refine AnyTwo.done (by kernel_rfl) ?_ _
        go_wp2_with fail
        go_meet
        exact ⟨w71.heap.size, a3, n3, rfl, rfl, hold_be hS1, HZ.out.set3, (HW0.out.set3 HGL.out).mono (Nat.zero_le _), HZ0.out⟩
    · skip
      go_simp
      have HZ := tuck (show VarAt w2.heap.size 0 0 (.slice none 0 0) (w2.alloc (.cells #[.int .i64 0, .int .i64 0, .slice none 0 0] 29)).drew from VarAt.new w2 0 0 (.slice none 0 0))
      have HZ0 : Hid (w2.heap.size ≤ w2.heap.size) := tuck (Nat.le_refl _)
      have hS1' : (fun w' : World => Below w2.heap.size w2 w' ∧ (w.heap.size < w'.heap.size ∧ w'.cell? ⟨w.heap.size, 0, none⟩ = some (.int .i64 t.kind) ∧ w'.cell? ⟨w.heap.size, 1, none⟩ = some (.int .i64 t.num) ∧ w'.cell? ⟨w.heap.size, 2, none⟩ = some (.slice ta t.kids.length tc)) ∧ ((w.heap.size + 1) < w'.heap.size ∧ w'.cell? ⟨(w.heap.size + 1), 0, none⟩ = some (.int .i64 u.kind) ∧ w'.cell? ⟨(w.heap.size + 1), 1, none⟩ = some (.int .i64 u.num) ∧ w'.cell? ⟨(w.heap.size + 1), 2, none⟩ = some (.slice ua u.kids.length uc))) _ := ⟨(below1 w2 (.cells #[.int .i64 0, .int .i64 0, .slice none 0 0] 29)).drew, HXt.out.below (below1 w2 (.cells #[.int .i64 0, .int .i64 0, .slice none 0 0] 29)).drew, HXu.out.below (below1 w2 (.cells #[.int .i64 0, .int .i64 0, .slice none 0 0] 29)).drew⟩
      refine hK.out _ _ (ph_one (by kernel_rfl) hS1') ?_
      clear hK K hS1
      have hS1 := hS1'
      clear hS1'
      try simp only [Act.put, List.setIfInBounds_toArray, List.set_cons_zero, List.set_cons_succ]
      refine AnyTwo.step (i := 1) (o := { dst := some 31, op := _, type := _, pos := _, after := _, guard := _ }) (by kernel_rfl) rfl (fun K hK => ?_)
      go_simp
      refine (HTOt.out _ (HSt.out.below (bAfter HB.out.be (hold_be hS1)))).mono ?_
      rintro e w71 ⟨hb71, v, rfl, s71, F71, rfl, hs71, -, -⟩
      obtain ⟨a71, n71, rfl⟩ := hs71.form
      have H71 := tuck (hs71.sl (B := 0) (fun _ _ => Nat.zero_le _))
      clear hs71
      replace HZ := tuck (HZ.out.below hb71)
      have hS1' : (fun w' : World => Below w2.heap.size w2 w' ∧ (w.heap.size < w'.heap.size ∧ w'.cell? ⟨w.heap.size, 0, none⟩ = some (.int .i64 t.kind) ∧ w'.cell? ⟨w.heap.size, 1, none⟩ = some (.int .i64 t.num) ∧ w'.cell? ⟨w.heap.size, 2, none⟩ = some (.slice ta t.kids.length tc)) ∧ ((w.heap.size + 1) < w'.heap.size ∧ w'.cell? ⟨(w.heap.size + 1), 0, none⟩ = some (.int .i64 u.kind) ∧ w'.cell? ⟨(w.heap.size + 1), 1, none⟩ = some (.int .i64 u.num) ∧ w'.cell? ⟨(w.heap.size + 1), 2, none⟩ = some (.slice ua u.kids.length uc))) _ := holdT hS1 hb71
      refine hK.out _ _ (ph_one (by kernel_rfl) hS1') ?_
      clear hK K hS1
      have hS1 := hS1'
      clear hS1'
      try simp only [Act.put, List.setIfInBounds_toArray, List.set_cons_zero, List.set_cons_succ]
      refine AnyTwo.step (i := 4) (o := { dst := some 34, op := _, type := _, pos := _, after := _, guard := _ }) (by kernel_rfl) rfl (fun K hK => ?_)
      go_simp
      refine (HTOu.out _ (HSu.out.below (bAfter HB.out.be (hold_be hS1)))).mono ?_
      rintro e w81 ⟨hb81, v, rfl, s81, F81, rfl, hs81, -, -⟩
      obtain ⟨a81, n81, rfl⟩ := hs81.form
      have H81 := tuck (hs81.sl (B := 0) (fun _ _ => Nat.zero_le _))
      replace H71 := tuck (H71.out.below hb81)
      clear hs81
      replace HZ := tuck (HZ.out.below hb81)
      have hS1' : (fun w' : World => Below w2.heap.size w2 w' ∧ (w.heap.size < w'.heap.size ∧ w'.cell? ⟨w.heap.size, 0, none⟩ = some (.int .i64 t.kind) ∧ w'.cell? ⟨w.heap.size, 1, none⟩ = some (.int .i64 t.num) ∧ w'.cell? ⟨w.heap.size, 2, none⟩ = some (.slice ta t.kids.length tc)) ∧ ((w.heap.size + 1) < w'.heap.size ∧ w'.cell? ⟨(w.heap.size + 1), 0, none⟩ = some (.int .i64 u.kind) ∧ w'.cell? ⟨(w.heap.size + 1), 1, none⟩ = some (.int .i64 u.num) ∧ w'.cell? ⟨(w.heap.size + 1), 2, none⟩ = some (.slice ua u.kids.length uc))) _ := holdT hS1 hb81
      refine hK.out _ _ (ph_one (by kernel_rfl) hS1') ?_
      clear hK K hS1
      have hS1 := hS1'
      clear hS1'
      try simp only [Act.put, List.setIfInBounds_toArray, List.set_cons_zero, List.set_cons_succ]
      refine AnyTwo.step (i := 5) (o := { dst := some 35, op := _, type := _, pos := _, after := _, guard := _ }) (by kernel_rfl) rfl (fun K hK => ?_)
      go_simp
      have HGL := tuck HZ.out.facts.1
      refine (HSP.out _ _ _ ⟨_, rfl, H71.out⟩ ⟨_, rfl, H81.out⟩).mono ?_
      rintro e w91 ⟨hb91, v, rfl, s3, rfl, hin3⟩
      obtain ⟨a3, n3, rfl⟩ := hin3.form
      have HW0 := tuck hin3
      have HH9 := tuck (holdT hS1 hb91)
      clear hin3
      replace HZ := tuck (HZ.out.below hb91)
      obtain ⟨zz, y0, y1, y2, yf⟩ := HZ.out.facts
      have hS1' : (fun w' : World => Below w2.heap.size w2 w' ∧ (w.heap.size < w'.heap.size ∧ w'.cell? ⟨w.heap.size, 0, none⟩ = some (.int .i64 t.kind) ∧ w'.cell? ⟨w.heap.size, 1, none⟩ = some (.int .i64 t.num) ∧ w'.cell? ⟨w.heap.size, 2, none⟩ = some (.slice ta t.kids.length tc)) ∧ ((w.heap.size + 1) < w'.heap.size ∧ w'.cell? ⟨(w.heap.size + 1), 0, none⟩ = some (.int .i64 u.kind) ∧ w'.cell? ⟨(w.heap.size + 1), 1, none⟩ = some (.int .i64 u.num) ∧ w'.cell? ⟨(w.heap.size + 1), 2, none⟩ = some (.slice ua u.kids.length uc))) _ := HH9.out
      refine hK.out _ _ (ph_one (by kernel_rfl) hS1') ?_
      clear hK K hS1
      have hS1 := hS1'
      clear hS1'
      try simp only [Act.put, List.setIfInBounds_toArray, List.set_cons_zero, List.set_cons_succ]
      refine AnyTwo.takeAny HT12 (i := 6) (oi := { dst := some 29, op := _, type := _, pos := _, after := _, guard := _ }) (v := ?vaaccc6) rfl (by kernel_rfl) (by kernel_rfl) (by decide +kernel) (by rfl) (fun _ _ _ h => h) (Or.inl ⟨by rfl, ?yaaccc6⟩) (ph_one (by kernel_rfl) hS1) ?raaccc6
      case yaaccc6 => (intro w hSw; (try dsimp only at hSw); go_simp; try (with_reducible rfl))
      try simp only [Act.put, List.setIfInBounds_toArray, List.set_cons_zero, List.set_cons_succ]
      refine AnyTwo.takeAny HT12 (i := 7) (oi := { dst := some 36, op := _, type := _, pos := _, after := _, guard := _ }) (v := ?vaaccc7) rfl (by kernel_rfl) (by kernel_rfl) (by decide +kernel) (by rfl) (fun _ _ _ h => h) (Or.inl ⟨by rfl, ?yaaccc7⟩) (ph_one (by kernel_rfl) hS1) ?raaccc7
      case yaaccc7 => (intro w hSw; (try dsimp only at hSw); go_simp; try (with_reducible rfl))
      try simp only [Act.put, List.setIfInBounds_toArray, List.set_cons_zero, List.set_cons_succ]
      refine AnyTwo.takeAny HT12 (i := 8) (oi := { dst := some 37, op := _, type := _, pos := _, after := _, guard := _ }) (v := ?vaaccc8) rfl (by kernel_rfl) (by kernel_rfl) (by decide +kernel) (by rfl) (fun _ _ _ h => h) (Or.inl ⟨by rfl, ?yaaccc8⟩) (ph_one (by kernel_rfl) hS1) ?raaccc8
      case yaaccc8 => (intro w hSw; (try dsimp only at hSw); go_simp; try (with_reducible rfl))
      try simp only [Act.put, List.setIfInBounds_toArray, List.set_cons_zero, List.set_cons_succ]
      refine AnyTwo.step (i := 10) (o := { dst := none, op := _, type := _, pos := _, after := _, guard := _ }) (by kernel_rfl) rfl (fun K hK => ?_)
      go_simp
      have hS1' : (fun w' : World => Below w2.heap.size w2 w' ∧ (w.heap.size < w'.heap.size ∧ w'.cell? ⟨w.heap.size, 0, none⟩ = some (.int .i64 t.kind) ∧ w'.cell? ⟨w.heap.size, 1, none⟩ = some (.int .i64 t.num) ∧ w'.cell? ⟨w.heap.size, 2, none⟩ = some (.slice ta t.kids.length tc)) ∧ ((w.heap.size + 1) < w'.heap.size ∧ w'.cell? ⟨(w.heap.size + 1), 0, none⟩ = some (.int .i64 u.kind) ∧ w'.cell? ⟨(w.heap.size + 1), 1, none⟩ = some (.int .i64 u.num) ∧ w'.cell? ⟨(w.heap.size + 1), 2, none⟩ = some (.slice ua u.kids.length uc))) _ := holdT_set3 HH9.out (gz := w2.heap.size) (x := .int .i64 T.kind) (y := .int .i64 T.num) (z := .slice a3 T.kids.length n3) HZ0.out HXL.out.1 HXL.out.2
      refine hK.out _ _ (ph_end (by kernel_rfl) hS1') ?_
      clear hK K hS1
      have hS1 := hS1'
      clear hS1'
      try simp only [Act.put, List.setIfInBounds_toArray, List.set_cons_zero, List.set_cons_succ]
      refine AnyTwo.step (i := 11) (o := { dst := some 9, op := _, type := _, pos := _, after := _, guard := _ }) (by kernel_rfl) rfl (fun K hK => ?_)
      go_simp
      have hS1' : (fun w' : World => Below w2.heap.size w2 w' ∧ (w.heap.size < w'.heap.size ∧ w'.cell? ⟨w.heap.size, 0, none⟩ = some (.int .i64 t.kind) ∧ w'.cell? ⟨w.heap.size, 1, none⟩ = some (.int .i64 t.num) ∧ w'.cell? ⟨w.heap.size, 2, none⟩ = some (.slice ta t.kids.length tc)) ∧ ((w.heap.size + 1) < w'.heap.size ∧ w'.cell? ⟨(w.heap.size + 1), 0, none⟩ = some (.int .i64 u.kind) ∧ w'.cell? ⟨(w.heap.size + 1), 1, none⟩ = some (.int .i64 u.num) ∧ w'.cell? ⟨(w.heap.size + 1), 2, none⟩ = some (.slice ua u.kids.length uc))) _ := hS1
      refine hK.out _ _ (ph_end (by kernel_rfl) hS1') ?_
      clear hK K hS1
      have hS1 := hS1'
      clear hS1'
      try simp only [Act.put, List.setIfInBounds_toArray, List.set_cons_zero, List.set_cons_succ]
      refine AnyTwo.done (by kernel_rfl) ?_ _
      go_wp2_with fail
      go_meet
      exact ⟨w2.heap.size, a3, n3, rfl, rfl, hold_be hS1, HZ.out.set3, (HW0.out.set3 HGL.out).mono (Nat.zero_le _), HZ0.out⟩
  case rest =>
    obtain ⟨g8, a3, n3, rfl, rfl, hb, hv8, hs8, hz8⟩ := hcut
    rename World => W8
    have V8 := tuck hv8
    have HW0 := tuck hs8
    replace HXt := tuck (HXt.out.below hb)
    replace HXu := tuck (HXu.out.below hb)
    replace HB := tuck (HB.out.below hb)
    clear hb hv8 hs8 hz8
    clear zt c0t c1t c2t zu c0u c1u c2u
    obtain ⟨zt, c0t, c1t, c2t⟩ := HXt.out
    obtain ⟨zu, c0u, c1u, c2u⟩ := HXu.out
    go_wp2_with fail
    clear zt c0t c1t c2t zu c0u c1u c2u
    have HZg8 : Hid (g8 < W8.heap.size) := tuck V8.out.facts.1
    have HBW : Hid (Bel W8 W8) := tuck ⟨Below.refl _ _⟩
    have HL1 : Hid (w.heap.size + 1 < W8.heap.size) := tuck HXu.out.1
    refine (HTOt.out _ (HSt.out.below HB.out.be)).mono ?_
    rintro e wx ⟨hb, v, rfl, sx, Ft, rfl, hsx, hnx, hFx⟩
    obtain ⟨ax, nx, rfl⟩ := hsx.form
    have HOt := tuck (OwnB.of hsx hnx hFx)
    have HNt := tuck hb.size
    replace HXt := tuck (HXt.out.below hb)
    replace HXu := tuck (HXu.out.below hb)
    replace HB := tuck (HB.out.below hb)
    replace V8 := tuck (V8.out.below hb)
    replace HBW := tuck (HBW.out.below hb)
    clear hb hsx hnx hFx
    obtain ⟨zt, c0t, c1t, c2t⟩ := HXt.out
    obtain ⟨zu, c0u, c1u, c2u⟩ := HXu.out
    go_wp2_with fail
    clear zt c0t c1t c2t zu c0u c1u c2u
    have hbx := below1 wx (.cells #[.int .i64 t.kind, .int .i64 t.num, .slice ax t.kids.length nx] 29)
    have VXt := tuck (VarAt.new wx t.kind t.num (.slice ax t.kids.length nx))
    have hzz : wx.heap.size < (wx.alloc (.cells #[.int .i64 t.kind, .int .i64 t.num, .slice ax t.kids.length nx] 29)).heap.size := by simp
    replace HXt := tuck (HXt.out.below hbx)
    replace HXu := tuck (HXu.out.below hbx)
    replace HB := tuck (HB.out.below hbx)
    replace V8 := tuck (V8.out.below hbx)
    replace HBW := tuck (HBW.out.below hbx)
    replace HOt := tuck (HOt.out.below hbx)
    clear hbx
    generalize wx.alloc (.cells #[.int .i64 t.kind, .int .i64 t.num, .slice ax t.kids.length nx] 29) = Wt at *
    generalize wx.heap.size = gt at *
    have HZgt := tuck hzz
    clear hzz
    refine (HTOu.out _ (HSu.out.below HB.out.be)).mono ?_
    rintro e wy ⟨hb, v, rfl, sy, Fu, rfl, hsx, hnx, hFx⟩
    obtain ⟨ay, ny, rfl⟩ := hsx.form
    have HOu := tuck (OwnB.of hsx hnx hFx)
    have HNu := tuck hb.size
    replace HXt := tuck (HXt.out.below hb)
    replace HXu := tuck (HXu.out.below hb)
    replace HB := tuck (HB.out.below hb)
    replace V8 := tuck (V8.out.below hb)
    replace HBW := tuck (HBW.out.below hb)
    replace HOt := tuck (HOt.out.below hb)
    replace VXt := tuck (VXt.out.below hb)
    clear hb hsx hnx hFx
    obtain ⟨z10, x1', x2', x3', x4'⟩ := VXt.out.facts
    go_wp2_with fail
    clear z10 x1' x2' x3' x4'
    have hbx := below1 wy (.cells #[.int .i64 u.kind, .int .i64 u.num, .slice ay u.kids.length ny] 29)
    have VXu := tuck (VarAt.new wy u.kind u.num (.slice ay u.kids.length ny))
    have hzz : wy.heap.size < (wy.alloc (.cells #[.int .i64 u.kind, .int .i64 u.num, .slice ay u.kids.length ny] 29)).heap.size := by simp
    replace HXt := tuck (HXt.out.below hbx)
    replace HXu := tuck (HXu.out.below hbx)
    replace HB := tuck (HB.out.below hbx)
    replace V8 := tuck (V8.out.below hbx)
    replace HBW := tuck (HBW.out.below hbx)
    replace HOt := tuck (HOt.out.below hbx)
    replace VXt := tuck (VXt.out.below hbx)
    replace HOu := tuck (HOu.out.below hbx)
    clear hbx
    generalize wy.alloc (.cells #[.int .i64 u.kind, .int .i64 u.num, .slice ay u.kids.length ny] 29) = Wu at *
    generalize wy.heap.size = gu at *
    have HZgu := tuck hzz
    clear hzz
    refine (HIM.out _ _ _ ⟨_, rfl, HOt.out.sl⟩ ⟨_, rfl, HOu.out.sl⟩).mono ?_
    rintro e w5 ⟨hb, v, rfl, s5, FG, rfl, hs5, hn5, hF5⟩
    obtain ⟨a5, n5, rfl⟩ := hs5.form
    have HOG := tuck (OwnB.of hs5 hn5 hF5)
    have HNG := tuck hb.size
    replace HXt := tuck (HXt.out.below hb)
    replace HXu := tuck (HXu.out.below hb)
    replace HB := tuck (HB.out.below hb)
    replace V8 := tuck (V8.out.below hb)
    replace HBW := tuck (HBW.out.below hb)
    replace HOt := tuck (HOt.out.below hb)
    replace VXt := tuck (VXt.out.below hb)
    replace HOu := tuck (HOu.out.below hb)
    replace VXu := tuck (VXu.out.below hb)
    clear hb hs5 hn5 hF5
    obtain ⟨z8, b0, b1, b2, bf⟩ := V8.out.facts
    go_wp2_with fail
    clear z8 b0 b1 b2 bf
    have hbx := below1 w5 (.cells #[.int .i64 T.kind, .int .i64 T.num, .slice a5 T.kids.length n5] 29)
    have VG := tuck (VarAt.new w5 T.kind T.num (.slice a5 T.kids.length n5))
    have hzz : w5.heap.size < (w5.alloc (.cells #[.int .i64 T.kind, .int .i64 T.num, .slice a5 T.kids.length n5] 29)).heap.size := by simp
    replace HXt := tuck (HXt.out.below hbx)
    replace HXu := tuck (HXu.out.below hbx)
    replace HB := tuck (HB.out.below hbx)
    replace V8 := tuck (V8.out.below hbx)
    replace HBW := tuck (HBW.out.below hbx)
    replace HOt := tuck (HOt.out.below hbx)
    replace VXt := tuck (VXt.out.below hbx)
    replace HOu := tuck (HOu.out.below hbx)
    replace VXu := tuck (VXu.out.below hbx)
    replace HOG := tuck (HOG.out.below hbx)
    clear hbx
    generalize w5.alloc (.cells #[.int .i64 T.kind, .int .i64 T.num, .slice a5 T.kids.length n5] 29) = WG at *
    generalize w5.heap.size = gG at *
    have HZgG := tuck hzz
    clear hzz
    refine (HEQ.out _ _ _ ⟨_, rfl, HOG.out.sl⟩ ⟨_, rfl, HW0.out.below HBW.out.be⟩).mono ?_
    rintro e w6 ⟨rfl, hb⟩
    replace HXt := tuck (HXt.out.below hb)
    replace HXu := tuck (HXu.out.below hb)
    replace HB := tuck (HB.out.below hb)
    replace V8 := tuck (V8.out.below hb)
    replace HBW := tuck (HBW.out.below hb)
    replace HOt := tuck (HOt.out.below hb)
    replace VXt := tuck (VXt.out.below hb)
    replace HOu := tuck (HOu.out.below hb)
    replace VXu := tuck (VXu.out.below hb)
    replace HOG := tuck (HOG.out.below hb)
    replace VG := tuck (VG.out.below hb)
    clear hb
    obtain ⟨zt, c0t, c1t, c2t⟩ := HXt.out
    obtain ⟨zu, c0u, c1u, c2u⟩ := HXu.out
    obtain ⟨x0', x1', x2', x3'⟩ := VXt.out.four
    go_wp2_with fail
    go_region_held3 (fun w' => Below w6.heap.size w6 w' ∧ (w.heap.size < w'.heap.size ∧ w'.cell? ⟨w.heap.size, 0, none⟩ = some (.int .i64 t.kind) ∧ w'.cell? ⟨w.heap.size, 1, none⟩ = some (.int .i64 t.num) ∧ w'.cell? ⟨w.heap.size, 2, none⟩ = some (.slice ta t.kids.length tc)) ∧ (gt < w'.heap.size ∧ w'.cell? ⟨gt, 0, none⟩ = some (.int .i64 t.kind) ∧ w'.cell? ⟨gt, 1, none⟩ = some (.int .i64 t.num) ∧ w'.cell? ⟨gt, 2, none⟩ = some (.slice ax t.kids.length nx))) (first | exact ⟨(Below.refl _ _).drew, HXt.out, VXt.out.four⟩ | exact holdT (by assumption) hb71 | exact holdT (by assumption) hb72) (first | (go_at_call 17; refine (HTOt.out _ (HSt.out.below (bAfter HB.out.be (hold_be (by assumption))))).mono ?_; rintro e w71t ⟨hb71, v, rfl, s71, F71, rfl, hs71, -, -⟩) | (go_at_call 19; refine (HEQt.out _ _ _ ⟨_, rfl, HOt.out.sl.below (hold_be (by assumption))⟩ ⟨_, rfl, hs71.sl (fun _ _ => Nat.zero_le _)⟩).mono ?_; rintro e w72t ⟨rfl, hb72⟩))
    have hb : Below w6.heap.size w6 w72t := hold_be (by assumption)
    replace HXt := tuck (HXt.out.below hb)
    replace HXu := tuck (HXu.out.below hb)
    replace HB := tuck (HB.out.below hb)
    replace V8 := tuck (V8.out.below hb)
    replace HBW := tuck (HBW.out.below hb)
    replace HOt := tuck (HOt.out.below hb)
    replace VXt := tuck (VXt.out.below hb)
    replace HOu := tuck (HOu.out.below hb)
    replace VXu := tuck (VXu.out.below hb)
    replace HOG := tuck (HOG.out.below hb)
    replace VG := tuck (VG.out.below hb)
    clear x0' x1' x2' x3' hb hb71 hb72 hs71
    clear zt c0t c1t c2t zu c0u c1u c2u
    obtain ⟨zt, c0t, c1t, c2t⟩ := HXt.out
    obtain ⟨zu, c0u, c1u, c2u⟩ := HXu.out
    obtain ⟨x0', x1', x2', x3'⟩ := VXu.out.four
    go_wp2_with fail
    go_region_held3 (fun w' => Below w72t.heap.size w72t w' ∧ ((w.heap.size + 1) < w'.heap.size ∧ w'.cell? ⟨(w.heap.size + 1), 0, none⟩ = some (.int .i64 u.kind) ∧ w'.cell? ⟨(w.heap.size + 1), 1, none⟩ = some (.int .i64 u.num) ∧ w'.cell? ⟨(w.heap.size + 1), 2, none⟩ = some (.slice ua u.kids.length uc)) ∧ (gu < w'.heap.size ∧ w'.cell? ⟨gu, 0, none⟩ = some (.int .i64 u.kind) ∧ w'.cell? ⟨gu, 1, none⟩ = some (.int .i64 u.num) ∧ w'.cell? ⟨gu, 2, none⟩ = some (.slice ay u.kids.length ny))) (first | exact ⟨(Below.refl _ _).drew, HXu.out, VXu.out.four⟩ | exact holdT (by assumption) hb71 | exact holdT (by assumption) hb72) (first | (go_at_call 17; refine (HTOu.out _ (HSu.out.below (bAfter HB.out.be (hold_be (by assumption))))).mono ?_; rintro e w71u ⟨hb71, v, rfl, s71, F71, rfl, hs71, -, -⟩) | (go_at_call 19; refine (HEQu.out _ _ _ ⟨_, rfl, HOu.out.sl.below (hold_be (by assumption))⟩ ⟨_, rfl, hs71.sl (fun _ _ => Nat.zero_le _)⟩).mono ?_; rintro e w72u ⟨rfl, hb72⟩))
    have hb : Below w72t.heap.size w72t w72u := hold_be (by assumption)
    replace HXt := tuck (HXt.out.below hb)
    replace HXu := tuck (HXu.out.below hb)
    replace HB := tuck (HB.out.below hb)
    replace V8 := tuck (V8.out.below hb)
    replace HBW := tuck (HBW.out.below hb)
    replace HOt := tuck (HOt.out.below hb)
    replace VXt := tuck (VXt.out.below hb)
    replace HOu := tuck (HOu.out.below hb)
    replace VXu := tuck (VXu.out.below hb)
    replace HOG := tuck (HOG.out.below hb)
    replace VG := tuck (VG.out.below hb)
    clear x0' x1' x2' x3' hb hb71 hb72 hs71
    clear zt c0t c1t c2t zu c0u c1u c2u
    obtain ⟨z10, x1', x2', x3', x4'⟩ := VXt.out.facts
    go_wp2_with fail
    clear z10 x1' x2' x3' x4'
    have hget := HOt.out.ge
    have hltt := HOt.out.lt
    have hgeu := HOu.out.ge
    have hltu := HOu.out.lt
    have hgeG := HOG.out.ge
    have hltG := HOG.out.lt
    refine (markT_any t Ft 1 w72u _ (by omega) HKT.out HOt.out.nd HOt.out.lts HOt.out.own).mono ?_
    rintro e w8t ⟨rfl, hown, hbut⟩
    have e1 := HL1.out
    have e2 := HZg8.out
    have e3 := HNt.out
    have e4 := HZgt.out
    have e5 := HNu.out
    have e6 := HZgu.out
    have e7 := HNG.out
    have e8 := HZgG.out
    replace HXt := tuck (HXt.out.but hbut (fun hf => by have h1 := hget _ hf; have h2 := hltt _ hf; omega))
    replace HXu := tuck (HXu.out.but hbut (fun hf => by have h1 := hget _ hf; have h2 := hltt _ hf; omega))
    replace HB := tuck (HB.out.but hbut (fun g hf => by have h1 := hget _ hf; omega))
    replace V8 := tuck (V8.out.but hbut (fun hf => by have h1 := hget _ hf; have h2 := hltt _ hf; omega))
    replace HBW := tuck (HBW.out.but hbut (fun g hf => by have h1 := hget _ hf; omega))
    replace HOu := tuck (HOu.out.but hbut (fun g hg hf => by have h1 := hget _ hf; have h2 := hltt _ hf; have h3 := hgeu _ hg; have h4 := hltu _ hg; omega))
    replace VXu := tuck (VXu.out.but hbut (fun hf => by have h1 := hget _ hf; have h2 := hltt _ hf; omega))
    replace HOG := tuck (HOG.out.but hbut (fun g hg hf => by have h1 := hget _ hf; have h2 := hltt _ hf; have h3 := hgeG _ hg; have h4 := hltG _ hg; omega))
    replace VG := tuck (VG.out.but hbut (fun hf => by have h1 := hget _ hf; have h2 := hltt _ hf; omega))
    clear hget hltt
    clear hgeu hltu
    clear hgeG hltG
    clear hbut hown e1 e2 e3 e4 e5 e6 e7 e8
    clear VXt
    clear HOt
    obtain ⟨z10, x1', x2', x3', x4'⟩ := VXu.out.facts
    go_wp2_with fail
    clear z10 x1' x2' x3' x4'
    have hgeu := HOu.out.ge
    have hltu := HOu.out.lt
    have hgeG := HOG.out.ge
    have hltG := HOG.out.lt
    refine (markT_any u Fu (1 + 2 * sizes t.kids) w8t _ (HKU.out.1) HKU.out.2 HOu.out.nd HOu.out.lts HOu.out.own).mono ?_
    rintro e w8u ⟨rfl, hown, hbut⟩
    have e1 := HL1.out
    have e2 := HZg8.out
    have e3 := HNt.out
    have e4 := HZgt.out
    have e5 := HNu.out
    have e6 := HZgu.out
    have e7 := HNG.out
    have e8 := HZgG.out
    replace HXt := tuck (HXt.out.but hbut (fun hf => by have h1 := hgeu _ hf; have h2 := hltu _ hf; omega))
    replace HXu := tuck (HXu.out.but hbut (fun hf => by have h1 := hgeu _ hf; have h2 := hltu _ hf; omega))
    replace HB := tuck (HB.out.but hbut (fun g hf => by have h1 := hgeu _ hf; omega))
    replace V8 := tuck (V8.out.but hbut (fun hf => by have h1 := hgeu _ hf; have h2 := hltu _ hf; omega))
    replace HBW := tuck (HBW.out.but hbut (fun g hf => by have h1 := hgeu _ hf; omega))
    replace HOG := tuck (HOG.out.but hbut (fun g hg hf => by have h1 := hgeu _ hf; have h2 := hltu _ hf; have h3 := hgeG _ hg; have h4 := hltG _ hg; omega))
    replace VG := tuck (VG.out.but hbut (fun hf => by have h1 := hgeu _ hf; have h2 := hltu _ hf; omega))
    clear hgeu hltu
    clear hgeG hltG
    clear hbut hown e1 e2 e3 e4 e5 e6 e7 e8
    clear VXu
    clear HOu
    obtain ⟨z8, b0, b1, b2, bf⟩ := V8.out.facts
    obtain ⟨z11, d0, d1, d2, df⟩ := VG.out.facts
    go_wp2_with fail
    refine (HEQ.out _ _ _ ⟨_, rfl, HOG.out.sl⟩ ⟨_, rfl, HW0.out.below HBW.out.be⟩).mono ?_
    rintro e w9 ⟨rfl, hb⟩
    replace HXt := tuck (HXt.out.below hb)
    replace HXu := tuck (HXu.out.below hb)
    replace HB := tuck (HB.out.below hb)
    replace V8 := tuck (V8.out.below hb)
    replace HBW := tuck (HBW.out.below hb)
    replace HOG := tuck (HOG.out.below hb)
    replace VG := tuck (VG.out.below hb)
    clear hb z8 b0 b1 b2 bf z11 d0 d1 d2 df
    obtain ⟨z11, d0, d1, d2, df⟩ := VG.out.facts
    go_wp2_with fail
    clear z11 d0 d1 d2 df
    have hgeG := HOG.out.ge
    have hltG := HOG.out.lt
    refine (markT_any T FG 1 w9 _ (by omega) HSZT.out HOG.out.nd HOG.out.lts HOG.out.own).mono ?_
    rintro e wA ⟨rfl, hown, hbut⟩
    have e1 := HL1.out
    have e2 := HZg8.out
    have e3 := HNt.out
    have e4 := HZgt.out
    have e5 := HNu.out
    have e6 := HZgu.out
    have e7 := HNG.out
    have e8 := HZgG.out
    replace HXt := tuck (HXt.out.but hbut (fun hf => by have h1 := hgeG _ hf; have h2 := hltG _ hf; omega))
    replace HXu := tuck (HXu.out.but hbut (fun hf => by have h1 := hgeG _ hf; have h2 := hltG _ hf; omega))
    replace HB := tuck (HB.out.but hbut (fun g hf => by have h1 := hgeG _ hf; omega))
    replace V8 := tuck (V8.out.but hbut (fun hf => by have h1 := hgeG _ hf; have h2 := hltG _ hf; omega))
    replace HBW := tuck (HBW.out.but hbut (fun g hf => by have h1 := hgeG _ hf; omega))
    replace VG := tuck (VG.out.but hbut (fun hf => by have h1 := hgeG _ hf; have h2 := hltG _ hf; omega))
    replace HOG := tuck (HOG.out.marked hown hbut.size)
    clear hgeG hltG
    clear hbut hown e1 e2 e3 e4 e5 e6 e7 e8
    obtain ⟨z11, d0, d1, d2, df⟩ := VG.out.facts
    go_wp2_with fail
    refine (heldT_any T T.kids 0 1 wA _ (by omega) HSZT.out HOG.out.sl).mono ?_
    rintro e wB ⟨rfl, hb⟩
    replace HXt := tuck (HXt.out.below hb)
    replace HXu := tuck (HXu.out.below hb)
    replace HB := tuck (HB.out.below hb)
    replace V8 := tuck (V8.out.below hb)
    replace HBW := tuck (HBW.out.below hb)
    replace HOG := tuck (HOG.out.below hb)
    replace VG := tuck (VG.out.below hb)
    clear hb z11 d0 d1 d2 df
    obtain ⟨zt, c0t, c1t, c2t⟩ := HXt.out
    obtain ⟨zu, c0u, c1u, c2u⟩ := HXu.out
    go_upto_region 31 with fail
    go_cut [17, 18] (fun p cw wx => ∃ (gz : Nat) (az : Option Addr) (nz : Nat), p = .pointer (some ⟨gz, 0, none⟩) ∧ cw = .bool cc ∧ Below wB.heap.size wB wx ∧ VarAt gz T.kind T.num (.slice az T.kids.length nz) wx ∧ SlIn wx 0 T.kids (.slice az T.kids.length nz) ∧ wB.heap.size ≤ gz)
    case first =>
      have HT12 : ∀ w' : World, (fun w' : World => Below wB.heap.size wB w' ∧ (w.heap.size < w'.heap.size ∧ w'.cell? ⟨w.heap.size, 0, none⟩ = some (.int .i64 t.kind) ∧ w'.cell? ⟨w.heap.size, 1, none⟩ = some (.int .i64 t.num) ∧ w'.cell? ⟨w.heap.size, 2, none⟩ = some (.slice ta t.kids.length tc)) ∧ ((w.heap.size + 1) < w'.heap.size ∧ w'.cell? ⟨(w.heap.size + 1), 0, none⟩ = some (.int .i64 u.kind) ∧ w'.cell? ⟨(w.heap.size + 1), 1, none⟩ = some (.int .i64 u.num) ∧ w'.cell? ⟨(w.heap.size + 1), 2, none⟩ = some (.slice ua u.kids.length uc))) w' → (fun w' : World => Below wB.heap.size wB w' ∧ (w.heap.size < w'.heap.size ∧ w'.cell? ⟨w.heap.size, 0, none⟩ = some (.int .i64 t.kind) ∧ w'.cell? ⟨w.heap.size, 1, none⟩ = some (.int .i64 t.num) ∧ w'.cell? ⟨w.heap.size, 2, none⟩ = some (.slice ta t.kids.length tc)) ∧ ((w.heap.size + 1) < w'.heap.size ∧ w'.cell? ⟨(w.heap.size + 1), 0, none⟩ = some (.int .i64 u.kind) ∧ w'.cell? ⟨(w.heap.size + 1), 1, none⟩ = some (.int .i64 u.num) ∧ w'.cell? ⟨(w.heap.size + 1), 2, none⟩ = some (.slice ua u.kids.length uc))) w' := fun w' h => h
      refine AnyTwo.begin (fun w' : World => Below wB.heap.size wB w' ∧ (w.heap.size < w'.heap.size ∧ w'.cell? ⟨w.heap.size, 0, none⟩ = some (.int .i64 t.kind) ∧ w'.cell? ⟨w.heap.size, 1, none⟩ = some (.int .i64 t.num) ∧ w'.cell? ⟨w.heap.size, 2, none⟩ = some (.slice ta t.kids.length tc)) ∧ ((w.heap.size + 1) < w'.heap.size ∧ w'.cell? ⟨(w.heap.size + 1), 0, none⟩ = some (.int .i64 u.kind) ∧ w'.cell? ⟨(w.heap.size + 1), 1, none⟩ = some (.int .i64 u.num) ∧ w'.cell? ⟨(w.heap.size + 1), 2, none⟩ = some (.slice ua u.kids.length uc))) (fun w' : World => Below wB.heap.size wB w' ∧ (w.heap.size < w'.heap.size ∧ w'.cell? ⟨w.heap.size, 0, none⟩ = some (.int .i64 t.kind) ∧ w'.cell? ⟨w.heap.size, 1, none⟩ = some (.int .i64 t.num) ∧ w'.cell? ⟨w.heap.size, 2, none⟩ = some (.slice ta t.kids.length tc)) ∧ ((w.heap.size + 1) < w'.heap.size ∧ w'.cell? ⟨(w.heap.size + 1), 0, none⟩ = some (.int .i64 u.kind) ∧ w'.cell? ⟨(w.heap.size + 1), 1, none⟩ = some (.int .i64 u.num) ∧ w'.cell? ⟨(w.heap.size + 1), 2, none⟩ = some (.slice ua u.kids.length uc))) 10 (by kernel_rfl) ?_
      have hS1 : (fun w' : World => Below wB.heap.size wB w' ∧ (w.heap.size < w'.heap.size ∧ w'.cell? ⟨w.heap.size, 0, none⟩ = some (.int .i64 t.kind) ∧ w'.cell? ⟨w.heap.size, 1, none⟩ = some (.int .i64 t.num) ∧ w'.cell? ⟨w.heap.size, 2, none⟩ = some (.slice ta t.kids.length tc)) ∧ ((w.heap.size + 1) < w'.heap.size ∧ w'.cell? ⟨(w.heap.size + 1), 0, none⟩ = some (.int .i64 u.kind) ∧ w'.cell? ⟨(w.heap.size + 1), 1, none⟩ = some (.int .i64 u.num) ∧ w'.cell? ⟨(w.heap.size + 1), 2, none⟩ = some (.slice ua u.kids.length uc))) wB.drew := ⟨(Below.refl _ _).drew, HXt.out, HXu.out⟩
      have HXL : Hid (w.heap.size < wB.heap.size ∧ w.heap.size + 1 < wB.heap.size) := tuck ⟨HXt.out.1, HXu.out.1⟩
      refine AnyTwo.takeAny HT12 (i := 0) (oi := { dst := some 99, op := _, type := _, pos := _, after := _, guard := _ }) (v := ?vb0) rfl (by kernel_rfl) (by kernel_rfl) (by decide +kernel) (by rfl) (fun _ _ _ h => h) (Or.inl ⟨by rfl, ?yb0⟩) (ph_one (by kernel_rfl) hS1) ?rb0
      case yb0 => (intro w hSw; (try dsimp only at hSw); go_simp; try (with_reducible rfl))
      try simp only [Act.put, List.setIfInBounds_toArray, List.set_cons_zero, List.set_cons_succ]
      refine AnyTwo.takeAny HT12 (i := 2) (oi := { dst := some 101, op := _, type := _, pos := _, after := _, guard := _ }) (v := ?vb2) rfl (by kernel_rfl) (by kernel_rfl) (by decide +kernel) (by rfl) (fun _ _ _ h => h) (Or.inl ⟨by rfl, ?yb2⟩) (ph_one (by kernel_rfl) hS1) ?rb2
      case yb2 => (intro w hSw; (try dsimp only at hSw); go_simp; try (with_reducible rfl))
      try simp only [Act.put, List.setIfInBounds_toArray, List.set_cons_zero, List.set_cons_succ]
      refine AnyTwo.takeAny HT12 (i := 3) (oi := { dst := some 102, op := _, type := _, pos := _, after := _, guard := _ }) (v := ?vb3) rfl (by kernel_rfl) (by kernel_rfl) (by decide +kernel) (by rfl) (fun _ _ _ h => h) (Or.inl ⟨by rfl, ?yb3⟩) (ph_one (by kernel_rfl) hS1) ?rb3
      case yb3 => (intro w hSw; (try dsimp only at hSw); go_simp; try (with_reducible rfl))
      try simp only [Act.put, List.setIfInBounds_toArray, List.set_cons_zero, List.set_cons_succ]
      refine AnyTwo.fork (i := 1) (o := { dst := some 100, op := _, type := _, pos := _, after := _, guard := _ }) (j := 9) (o' := { dst := some 17, op := _, type := _, pos := _, after := _, guard := _ }) (by kernel_rfl) rfl rfl (fun K hK => ?_) (fun K hK => ?_)
      · skip
        go_simp
        refine (HTOt.out _ (HSt.out.below (bAfter HB.out.be (hold_be hS1)))).mono ?_
        rintro e w71 ⟨hb71, v, rfl, s71, F71, rfl, hs71, -, -⟩
        obtain ⟨a71, n71, rfl⟩ := hs71.form
        have H71 := tuck (hs71.sl (B := 0) (fun _ _ => Nat.zero_le _))
        clear hs71
        have hS1' : (fun w' : World => Below wB.heap.size wB w' ∧ (w.heap.size < w'.heap.size ∧ w'.cell? ⟨w.heap.size, 0, none⟩ = some (.int .i64 t.kind) ∧ w'.cell? ⟨w.heap.size, 1, none⟩ = some (.int .i64 t.num) ∧ w'.cell? ⟨w.heap.size, 2, none⟩ = some (.slice ta t.kids.length tc)) ∧ ((w.heap.size + 1) < w'.heap.size ∧ w'.cell? ⟨(w.heap.size + 1), 0, none⟩ = some (.int .i64 u.kind) ∧ w'.cell? ⟨(w.heap.size + 1), 1, none⟩ = some (.int .i64 u.num) ∧ w'.cell? ⟨(w.heap.size + 1), 2, none⟩ = some (.slice ua u.kids.length uc))) _ := holdT hS1 hb71
        refine hK.out _ _ (ph_one (by kernel_rfl) hS1') ?_
        clear hK K hS1
        have hS1 := hS1'
        clear hS1'
        try simp only [Act.put, List.setIfInBounds_toArray, List.set_cons_zero, List.set_cons_succ]
        refine AnyTwo.fork (i := 4) (o := { dst := some 103, op := _, type := _, pos := _, after := _, guard := _ }) (j := 9) (o' := { dst := some 17, op := _, type := _, pos := _, after := _, guard := _ }) (by kernel_rfl) rfl rfl (fun K hK => ?_) (fun K hK => ?_)
        · skip
          go_simp
          refine (HTOu.out _ (HSu.out.below (bAfter HB.out.be (hold_be hS1)))).mono ?_
          rintro e w81 ⟨hb81, v, rfl, s81, F81, rfl, hs81, -, -⟩
          obtain ⟨a81, n81, rfl⟩ := hs81.form
          have H81 := tuck (hs81.sl (B := 0) (fun _ _ => Nat.zero_le _))
          replace H71 := tuck (H71.out.below hb81)
          clear hs81
          have hS1' : (fun w' : World => Below wB.heap.size wB w' ∧ (w.heap.size < w'.heap.size ∧ w'.cell? ⟨w.heap.size, 0, none⟩ = some (.int .i64 t.kind) ∧ w'.cell? ⟨w.heap.size, 1, none⟩ = some (.int .i64 t.num) ∧ w'.cell? ⟨w.heap.size, 2, none⟩ = some (.slice ta t.kids.length tc)) ∧ ((w.heap.size + 1) < w'.heap.size ∧ w'.cell? ⟨(w.heap.size + 1), 0, none⟩ = some (.int .i64 u.kind) ∧ w'.cell? ⟨(w.heap.size + 1), 1, none⟩ = some (.int .i64 u.num) ∧ w'.cell? ⟨(w.heap.size + 1), 2, none⟩ = some (.slice ua u.kids.length uc))) _ := holdT hS1 hb81
          refine hK.out _ _ (ph_one (by kernel_rfl) hS1') ?_
          clear hK K hS1
          have hS1 := hS1'
          clear hS1'
          try simp only [Act.put, List.setIfInBounds_toArray, List.set_cons_zero, List.set_cons_succ]
          refine AnyTwo.fork (i := 5) (o := { dst := some 104, op := _, type := _, pos := _, after := _, guard := _ }) (j := 9) (o' := { dst := some 17, op := _, type := _, pos := _, after := _, guard := _ }) (by kernel_rfl) rfl rfl (fun K hK => ?_) (fun K hK => ?_)
          · skip
            go_simp
            refine (HIM.out _ _ _ ⟨_, rfl, H71.out⟩ ⟨_, rfl, H81.out⟩).mono ?_
            rintro e w91 ⟨hb91, v, rfl, s3, F3, rfl, hs3, -, hF3⟩
            obtain ⟨a3, n3, rfl⟩ := hs3.form
            have HW0 := tuck (hs3.sl (fun g hg => (hF3 g hg).1))
            have HH9 := tuck (holdT hS1 hb91)
            clear hs3 hF3
            have hS1' : (fun w' : World => Below wB.heap.size wB w' ∧ (w.heap.size < w'.heap.size ∧ w'.cell? ⟨w.heap.size, 0, none⟩ = some (.int .i64 t.kind) ∧ w'.cell? ⟨w.heap.size, 1, none⟩ = some (.int .i64 t.num) ∧ w'.cell? ⟨w.heap.size, 2, none⟩ = some (.slice ta t.kids.length tc)) ∧ ((w.heap.size + 1) < w'.heap.size ∧ w'.cell? ⟨(w.heap.size + 1), 0, none⟩ = some (.int .i64 u.kind) ∧ w'.cell? ⟨(w.heap.size + 1), 1, none⟩ = some (.int .i64 u.num) ∧ w'.cell? ⟨(w.heap.size + 1), 2, none⟩ = some (.slice ua u.kids.length uc))) _ := HH9.out
            refine hK.out _ _ (ph_one (by kernel_rfl) hS1') ?_
            clear hK K hS1
            have hS1 := hS1'
            clear hS1'
            try simp only [Act.put, List.setIfInBounds_toArray, List.set_cons_zero, List.set_cons_succ]
            refine AnyTwo.takeAny HT12 (i := 6) (oi := { dst := some 98, op := _, type := _, pos := _, after := _, guard := _ }) (v := ?vbccc6) rfl (by kernel_rfl) (by kernel_rfl) (by decide +kernel) (by rfl) (fun _ _ _ h => h) (Or.inl ⟨by rfl, ?ybccc6⟩) (ph_one (by kernel_rfl) hS1) ?rbccc6
            case ybccc6 => (intro w hSw; (try dsimp only at hSw); go_simp; try (with_reducible rfl))
            try simp only [Act.put, List.setIfInBounds_toArray, List.set_cons_zero, List.set_cons_succ]
            refine AnyTwo.takeAny HT12 (i := 7) (oi := { dst := some 105, op := _, type := _, pos := _, after := _, guard := _ }) (v := ?vbccc7) rfl (by kernel_rfl) (by kernel_rfl) (by decide +kernel) (by rfl) (fun _ _ _ h => h) (Or.inl ⟨by rfl, ?ybccc7⟩) (ph_one (by kernel_rfl) hS1) ?rbccc7
            case ybccc7 => (intro w hSw; (try dsimp only at hSw); go_simp; try (with_reducible rfl))
            try simp only [Act.put, List.setIfInBounds_toArray, List.set_cons_zero, List.set_cons_succ]
            refine AnyTwo.takeAny HT12 (i := 8) (oi := { dst := some 106, op := _, type := _, pos := _, after := _, guard := _ }) (v := ?vbccc8) rfl (by kernel_rfl) (by kernel_rfl) (by decide +kernel) (by rfl) (fun _ _ _ h => h) (Or.inl ⟨by rfl, ?ybccc8⟩) (ph_one (by kernel_rfl) hS1) ?rbccc8
            case ybccc8 => (intro w hSw; (try dsimp only at hSw); go_simp; try (with_reducible rfl))
            try simp only [Act.put, List.setIfInBounds_toArray, List.set_cons_zero, List.set_cons_succ]
            refine AnyTwo.step (i := 9) (o := { dst := some 17, op := _, type := _, pos := _, after := _, guard := _ }) (by kernel_rfl) rfl (fun K hK => ?_)
            go_simp
            have hz0 : wB.heap.size ≤ w91.heap.size := (hold_be hS1).size
            have HZ0 := tuck hz0
            clear hz0
            have hS1' : (fun w' : World => Below wB.heap.size wB w' ∧ (w.heap.size < w'.heap.size ∧ w'.cell? ⟨w.heap.size, 0, none⟩ = some (.int .i64 t.kind) ∧ w'.cell? ⟨w.heap.size, 1, none⟩ = some (.int .i64 t.num) ∧ w'.cell? ⟨w.heap.size, 2, none⟩ = some (.slice ta t.kids.length tc)) ∧ ((w.heap.size + 1) < w'.heap.size ∧ w'.cell? ⟨(w.heap.size + 1), 0, none⟩ = some (.int .i64 u.kind) ∧ w'.cell? ⟨(w.heap.size + 1), 1, none⟩ = some (.int .i64 u.num) ∧ w'.cell? ⟨(w.heap.size + 1), 2, none⟩ = some (.slice ua u.kids.length uc))) _ := holdT HH9.out (below1 w91 (.cells #[.int .i64 0, .int .i64 0, .slice none 0 0] 29))
            refine hK.out _ _ (ph_one (by kernel_rfl) hS1') ?_
            clear hK K hS1
            have hS1 := hS1'
            clear hS1'
            try simp only [Act.put, List.setIfInBounds_toArray, List.set_cons_zero, List.set_cons_succ]
            refine AnyTwo.step (i := 10) (o := { dst := none, op := _, type := _, pos := _, after := _, guard := _ }) (by kernel_rfl) rfl (fun K hK => ?_)
            go_simp
            have hS1' : (fun w' : World => Below wB.heap.size wB w' ∧ (w.heap.size < w'.heap.size ∧ w'.cell? ⟨w.heap.size, 0, none⟩ = some (.int .i64 t.kind) ∧ w'.cell? ⟨w.heap.size, 1, none⟩ = some (.int .i64 t.num) ∧ w'.cell? ⟨w.heap.size, 2, none⟩ = some (.slice ta t.kids.length tc)) ∧ ((w.heap.size + 1) < w'.heap.size ∧ w'.cell? ⟨(w.heap.size + 1), 0, none⟩ = some (.int .i64 u.kind) ∧ w'.cell? ⟨(w.heap.size + 1), 1, none⟩ = some (.int .i64 u.num) ∧ w'.cell? ⟨(w.heap.size + 1), 2, none⟩ = some (.slice ua u.kids.length uc))) _ := holdT HH9.out (below1 w91 (.cells #[.int .i64 T.kind, .int .i64 T.num, .slice a3 T.kids.length n3] 29))
            refine hK.out _ _ (ph_end (by kernel_rfl) hS1') ?_
            clear hK K hS1
            have hS1 := hS1'
            clear hS1'
            try simp only [Act.put, List.setIfInBounds_toArray, List.set_cons_zero, List.set_cons_succ]
            refine AnyTwo.step (i := 11) (o := { dst := some 18, op := _, type := _, pos := _, after := _, guard := _ }) (by kernel_rfl) rfl (fun K hK => ?_)
            go_simp
            have hS1' : (fun w' : World => Below wB.heap.size wB w' ∧ (w.heap.size < w'.heap.size ∧ w'.cell? ⟨w.heap.size, 0, none⟩ = some (.int .i64 t.kind) ∧ w'.cell? ⟨w.heap.size, 1, none⟩ = some (.int .i64 t.num) ∧ w'.cell? ⟨w.heap.size, 2, none⟩ = some (.slice ta t.kids.length tc)) ∧ ((w.heap.size + 1) < w'.heap.size ∧ w'.cell? ⟨(w.heap.size + 1), 0, none⟩ = some (.int .i64 u.kind) ∧ w'.cell? ⟨(w.heap.size + 1), 1, none⟩ = some (.int .i64 u.num) ∧ w'.cell? ⟨(w.heap.size + 1), 2, none⟩ = some (.slice ua u.kids.length uc))) _ := holdT HH9.out (below1 w91 (.cells #[.int .i64 T.kind, .int .i64 T.num, .slice a3 T.kids.length n3] 29))
            refine hK.out _ _ (ph_end (by kernel_rfl) hS1') ?_
            clear hK K hS1
            have hS1 := hS1'
            clear hS1'
            try simp only [Act.put, List.setIfInBounds_toArray, List.set_cons_zero, List.set_cons_succ]
            refine AnyTwo.done (by kernel_rfl) ?_ _
            go_wp2_with fail
            go_meet
            exact ⟨w91.heap.size, a3, n3, rfl, rfl, hold_be hS1, VarAt.new w91 T.kind T.num (.slice a3 T.kids.length n3), (HW0.out.mono (Nat.zero_le _)).below (below1 w91 _), HZ0.out⟩
          · skip
            go_simp
            have HZ := tuck (VarAt.new w81 0 0 (.slice none 0 0))
            have hz0 : wB.heap.size ≤ w81.heap.size := (hold_be hS1).size
            have HZ0 := tuck hz0
            clear hz0
            replace H71 := tuck (H71.out.below (below1 w81 (.cells #[.int .i64 0, .int .i64 0, .slice none 0 0] 29)))
            replace H81 := tuck (H81.out.below (below1 w81 (.cells #[.int .i64 0, .int .i64 0, .slice none 0 0] 29)))
            have hS1' : (fun w' : World => Below wB.heap.size wB w' ∧ (w.heap.size < w'.heap.size ∧ w'.cell? ⟨w.heap.size, 0, none⟩ = some (.int .i64 t.kind) ∧ w'.cell? ⟨w.heap.size, 1, none⟩ = some (.int .i64 t.num) ∧ w'.cell? ⟨w.heap.size, 2, none⟩ = some (.slice ta t.kids.length tc)) ∧ ((w.heap.size + 1) < w'.heap.size ∧ w'.cell? ⟨(w.heap.size + 1), 0, none⟩ = some (.int .i64 u.kind) ∧ w'.cell? ⟨(w.heap.size + 1), 1, none⟩ = some (.int .i64 u.num) ∧ w'.cell? ⟨(w.heap.size + 1), 2, none⟩ = some (.slice ua u.kids.length uc))) _ := holdT hS1 (below1 w81 (.cells #[.int .i64 0, .int .i64 0, .slice none 0 0] 29))
            refine hK.out _ _ (ph_one (by kernel_rfl) hS1') ?_
            clear hK K hS1
            have hS1 := hS1'
            clear hS1'
            try simp only [Act.put, List.setIfInBounds_toArray, List.set_cons_zero, List.set_cons_succ]
            refine AnyTwo.step (i := 5) (o := { dst := some 104, op := _, type := _, pos := _, after := _, guard := _ }) (by kernel_rfl) rfl (fun K hK => ?_)
            go_simp
            have HGL := tuck HZ.out.facts.1
            refine (HIM.out _ _ _ ⟨_, rfl, H71.out⟩ ⟨_, rfl, H81.out⟩).mono ?_
            rintro e w91 ⟨hb91, v, rfl, s3, F3, rfl, hs3, -, hF3⟩
            obtain ⟨a3, n3, rfl⟩ := hs3.form
            have HW0 := tuck (hs3.sl (fun g hg => (hF3 g hg).1))
            have HH9 := tuck (holdT hS1 hb91)
            clear hs3 hF3
            replace HZ := tuck (HZ.out.below hb91)
            obtain ⟨zz, y0, y1, y2, yf⟩ := HZ.out.facts
            have hS1' : (fun w' : World => Below wB.heap.size wB w' ∧ (w.heap.size < w'.heap.size ∧ w'.cell? ⟨w.heap.size, 0, none⟩ = some (.int .i64 t.kind) ∧ w'.cell? ⟨w.heap.size, 1, none⟩ = some (.int .i64 t.num) ∧ w'.cell? ⟨w.heap.size, 2, none⟩ = some (.slice ta t.kids.length tc)) ∧ ((w.heap.size + 1) < w'.heap.size ∧ w'.cell? ⟨(w.heap.size + 1), 0, none⟩ = some (.int .i64 u.kind) ∧ w'.cell? ⟨(w.heap.size + 1), 1, none⟩ = some (.int .i64 u.num) ∧ w'.cell? ⟨(w.heap.size + 1), 2, none⟩ = some (.slice ua u.kids.length uc))) _ := HH9.out
            refine hK.out _ _ (ph_one (by kernel_rfl) hS1') ?_
            clear hK K hS1
            have hS1 := hS1'
            clear hS1'
            try simp only [Act.put, List.setIfInBounds_toArray, List.set_cons_zero, List.set_cons_succ]
            refine AnyTwo.takeAny HT12 (i := 6) (oi := { dst := some 98, op := _, type := _, pos := _, after := _, guard := _ }) (v := ?vbccac6) rfl (by kernel_rfl) (by kernel_rfl) (by decide +kernel) (by rfl) (fun _ _ _ h => h) (Or.inl ⟨by rfl, ?ybccac6⟩) (ph_one (by kernel_rfl) hS1) ?rbccac6
            case ybccac6 => (intro w hSw; (try dsimp only at hSw); go_simp; try (with_reducible rfl))
            try simp only [Act.put, List.setIfInBounds_toArray, List.set_cons_zero, List.set_cons_succ]
            refine AnyTwo.takeAny HT12 (i := 7) (oi := { dst := some 105, op := _, type := _, pos := _, after := _, guard := _ }) (v := ?vbccac7) rfl (by kernel_rfl) (by kernel_rfl) (by decide +kernel) (by rfl) (fun _ _ _ h => h) (Or.inl ⟨by rfl, ?ybccac7⟩) (ph_one (by kernel_rfl) hS1) ?rbccac7
            case ybccac7 => (intro w hSw; (try dsimp only at hSw); go_simp; try (with_reducible rfl))
            try simp only [Act.put, List.setIfInBounds_toArray, List.set_cons_zero, List.set_cons_succ]
            refine AnyTwo.takeAny HT12 (i := 8) (oi := { dst := some 106, op := _, type := _, pos := _, after := _, guard := _ }) (v := ?vbccac8) rfl (by kernel_rfl) (by kernel_rfl) (by decide +kernel) (by rfl) (fun _ _ _ h => h) (Or.inl ⟨by rfl, ?ybccac8⟩) (ph_one (by kernel_rfl) hS1) ?rbccac8
            case ybccac8 => (intro w hSw; (try dsimp only at hSw); go_simp; try (with_reducible rfl))
            try simp only [Act.put, List.setIfInBounds_toArray, List.set_cons_zero, List.set_cons_succ]
            refine AnyTwo.step (i := 10) (o := { dst := none, op := _, type := _, pos := _, after := _, guard := _ }) (by kernel_rfl) rfl (fun K hK => ?_)
            go_simp
            have hS1' : (fun w' : World => Below wB.heap.size wB w' ∧ (w.heap.size < w'.heap.size ∧ w'.cell? ⟨w.heap.size, 0, none⟩ = some (.int .i64 t.kind) ∧ w'.cell? ⟨w.heap.size, 1, none⟩ = some (.int .i64 t.num) ∧ w'.cell? ⟨w.heap.size, 2, none⟩ = some (.slice ta t.kids.length tc)) ∧ ((w.heap.size + 1) < w'.heap.size ∧ w'.cell? ⟨(w.heap.size + 1), 0, none⟩ = some (.int .i64 u.kind) ∧ w'.cell? ⟨(w.heap.size + 1), 1, none⟩ = some (.int .i64 u.num) ∧ w'.cell? ⟨(w.heap.size + 1), 2, none⟩ = some (.slice ua u.kids.length uc))) _ := holdT_set3 HH9.out (gz := w81.heap.size) (x := .int .i64 T.kind) (y := .int .i64 T.num) (z := .slice a3 T.kids.length n3) HZ0.out HXL.out.1 HXL.out.2
            refine hK.out _ _ (ph_end (by kernel_rfl) hS1') ?_
            clear hK K hS1
            have hS1 := hS1'
            clear hS1'
            try simp only [Act.put, List.setIfInBounds_toArray, List.set_cons_zero, List.set_cons_succ]
            refine AnyTwo.step (i := 11) (o := { dst := some 18, op := _, type := _, pos := _, after := _, guard := _ }) (by kernel_rfl) rfl (fun K hK => ?_)
            go_simp
            have hS1' : (fun w' : World => Below wB.heap.size wB w' ∧ (w.heap.size < w'.heap.size ∧ w'.cell? ⟨w.heap.size, 0, none⟩ = some (.int .i64 t.kind) ∧ w'.cell? ⟨w.heap.size, 1, none⟩ = some (.int .i64 t.num) ∧ w'.cell? ⟨w.heap.size, 2, none⟩ = some (.slice ta t.kids.length tc)) ∧ ((w.heap.size + 1) < w'.heap.size ∧ w'.cell? ⟨(w.heap.size + 1), 0, none⟩ = some (.int .i64 u.kind) ∧ w'.cell? ⟨(w.heap.size + 1), 1, none⟩ = some (.int .i64 u.num) ∧ w'.cell? ⟨(w.heap.size + 1), 2, none⟩ = some (.slice ua u.kids.length uc))) _ := hS1
            refine hK.out _ _ (ph_end (by kernel_rfl) hS1') ?_
            clear hK K hS1
            have hS1 := hS1'
            clear hS1'
            try simp only [Act.put, List.setIfInBounds_toArray, List.set_cons_zero, List.set_cons_succ]
            refine AnyTwo.done (by kernel_rfl) ?_ _
            go_wp2_with fail
            go_meet
            exact ⟨w81.heap.size, a3, n3, rfl, rfl, hold_be hS1, HZ.out.set3, (HW0.out.set3 HGL.out).mono (Nat.zero_le _), HZ0.out⟩
        · skip
          go_simp
          have HZ := tuck (VarAt.new w71 0 0 (.slice none 0 0))
          have hz0 : wB.heap.size ≤ w71.heap.size := (hold_be hS1).size
          have HZ0 := tuck hz0
          clear hz0
          replace H71 := tuck (H71.out.below (below1 w71 (.cells #[.int .i64 0, .int .i64 0, .slice none 0 0] 29)))
          have hS1' : (fun w' : World => Below wB.heap.size wB w' ∧ (w.heap.size < w'.heap.size ∧ w'.cell? ⟨w.heap.size, 0, none⟩ = some (.int .i64 t.kind) ∧ w'.cell? ⟨w.heap.size, 1, none⟩ = some (.int .i64 t.num) ∧ w'.cell? ⟨w.heap.size, 2, none⟩ = some (.slice ta t.kids.length tc)) ∧ ((w.heap.size + 1) < w'.heap.size ∧ w'.cell? ⟨(w.heap.size + 1), 0, none⟩ = some (.int .i64 u.kind) ∧ w'.cell? ⟨(w.heap.size + 1), 1, none⟩ = some (.int .i64 u.num) ∧ w'.cell? ⟨(w.heap.size + 1), 2, none⟩ = some (.slice ua u.kids.length uc))) _ := holdT hS1 (below1 w71 (.cells #[.int .i64 0, .int .i64 0, .slice none 0 0] 29))
          refine hK.out _ _ (ph_one (by kernel_rfl) hS1') ?_
          clear hK K hS1
          have hS1 := hS1'
          clear hS1'
          try simp only [Act.put, List.setIfInBounds_toArray, List.set_cons_zero, List.set_cons_succ]
          refine AnyTwo.step (i := 4) (o := { dst := some 103, op := _, type := _, pos := _, after := _, guard := _ }) (by kernel_rfl) rfl (fun K hK => ?_)
          go_simp
          refine (HTOu.out _ (HSu.out.below (bAfter HB.out.be (hold_be hS1)))).mono ?_
          rintro e w81 ⟨hb81, v, rfl, s81, F81, rfl, hs81, -, -⟩
          obtain ⟨a81, n81, rfl⟩ := hs81.form
          have H81 := tuck (hs81.sl (B := 0) (fun _ _ => Nat.zero_le _))
          replace H71 := tuck (H71.out.below hb81)
          clear hs81
          replace HZ := tuck (HZ.out.below hb81)
          have hS1' : (fun w' : World => Below wB.heap.size wB w' ∧ (w.heap.size < w'.heap.size ∧ w'.cell? ⟨w.heap.size, 0, none⟩ = some (.int .i64 t.kind) ∧ w'.cell? ⟨w.heap.size, 1, none⟩ = some (.int .i64 t.num) ∧ w'.cell? ⟨w.heap.size, 2, none⟩ = some (.slice ta t.kids.length tc)) ∧ ((w.heap.size + 1) < w'.heap.size ∧ w'.cell? ⟨(w.heap.size + 1), 0, none⟩ = some (.int .i64 u.kind) ∧ w'.cell? ⟨(w.heap.size + 1), 1, none⟩ = some (.int .i64 u.num) ∧ w'.cell? ⟨(w.heap.size + 1), 2, none⟩ = some (.slice ua u.kids.length uc))) _ := holdT hS1 hb81
          refine hK.out _ _ (ph_one (by kernel_rfl) hS1') ?_
          clear hK K hS1
          have hS1 := hS1'
          clear hS1'
          try simp only [Act.put, List.setIfInBounds_toArray, List.set_cons_zero, List.set_cons_succ]
          refine AnyTwo.step (i := 5) (o := { dst := some 104, op := _, type := _, pos := _, after := _, guard := _ }) (by kernel_rfl) rfl (fun K hK => ?_)
          go_simp
          have HGL := tuck HZ.out.facts.1
          refine (HIM.out _ _ _ ⟨_, rfl, H71.out⟩ ⟨_, rfl, H81.out⟩).mono ?_
          rintro e w91 ⟨hb91, v, rfl, s3, F3, rfl, hs3, -, hF3⟩
          obtain ⟨a3, n3, rfl⟩ := hs3.form
          have HW0 := tuck (hs3.sl (fun g hg => (hF3 g hg).1))
          have HH9 := tuck (holdT hS1 hb91)
          clear hs3 hF3
          replace HZ := tuck (HZ.out.below hb91)
          obtain ⟨zz, y0, y1, y2, yf⟩ := HZ.out.facts
          have hS1' : (fun w' : World => Below wB.heap.size wB w' ∧ (w.heap.size < w'.heap.size ∧ w'.cell? ⟨w.heap.size, 0, none⟩ = some (.int .i64 t.kind) ∧ w'.cell? ⟨w.heap.size, 1, none⟩ = some (.int .i64 t.num) ∧ w'.cell? ⟨w.heap.size, 2, none⟩ = some (.slice ta t.kids.length tc)) ∧ ((w.heap.size + 1) < w'.heap.size ∧ w'.cell? ⟨(w.heap.size + 1), 0, none⟩ = some (.int .i64 u.kind) ∧ w'.cell? ⟨(w.heap.size + 1), 1, none⟩ = some (.int .i64 u.num) ∧ w'.cell? ⟨(w.heap.size + 1), 2, none⟩ = some (.slice ua u.kids.length uc))) _ := HH9.out
          refine hK.out _ _ (ph_one (by kernel_rfl) hS1') ?_
          clear hK K hS1
          have hS1 := hS1'
          clear hS1'
          try simp only [Act.put, List.setIfInBounds_toArray, List.set_cons_zero, List.set_cons_succ]
          refine AnyTwo.takeAny HT12 (i := 6) (oi := { dst := some 98, op := _, type := _, pos := _, after := _, guard := _ }) (v := ?vbcacc6) rfl (by kernel_rfl) (by kernel_rfl) (by decide +kernel) (by rfl) (fun _ _ _ h => h) (Or.inl ⟨by rfl, ?ybcacc6⟩) (ph_one (by kernel_rfl) hS1) ?rbcacc6
          case ybcacc6 => (intro w hSw; (try dsimp only at hSw); go_simp; try (with_reducible rfl))
          try simp only [Act.put, List.setIfInBounds_toArray, List.set_cons_zero, List.set_cons_succ]
          refine AnyTwo.takeAny HT12 (i := 7) (oi := { dst := some 105, op := _, type := _, pos := _, after := _, guard := _ }) (v := ?vbcacc7) rfl (by kernel_rfl) (by kernel_rfl) (by decide +kernel) (by rfl) (fun _ _ _ h => h) (Or.inl ⟨by rfl, ?ybcacc7⟩) (ph_one (by kernel_rfl) hS1) ?rbcacc7
          case ybcacc7 => (intro w hSw; (try dsimp only at hSw); go_simp; try (with_reducible rfl))
          try simp only [Act.put, List.setIfInBounds_toArray, List.set_cons_zero, List.set_cons_succ]
          refine AnyTwo.takeAny HT12 (i := 8) (oi := { dst := some 106, op := _, type := _, pos := _, after := _, guard := _ }) (v := ?vbcacc8) rfl (by kernel_rfl) (by kernel_rfl) (by decide +kernel) (by rfl) (fun _ _ _ h => h) (Or.inl ⟨by rfl, ?ybcacc8⟩) (ph_one (by kernel_rfl) hS1) ?rbcacc8
          case ybcacc8 => (intro w hSw; (try dsimp only at hSw); go_simp; try (with_reducible rfl))
          try simp only [Act.put, List.setIfInBounds_toArray, List.set_cons_zero, List.set_cons_succ]
          refine AnyTwo.step (i := 10) (o := { dst := none, op := _, type := _, pos := _, after := _, guard := _ }) (by kernel_rfl) rfl (fun K hK => ?_)
          go_simp
          have hS1' : (fun w' : World => Below wB.heap.size wB w' ∧ (w.heap.size < w'.heap.size ∧ w'.cell? ⟨w.heap.size, 0, none⟩ = some (.int .i64 t.kind) ∧ w'.cell? ⟨w.heap.size, 1, none⟩ = some (.int .i64 t.num) ∧ w'.cell? ⟨w.heap.size, 2, none⟩ = some (.slice ta t.kids.length tc)) ∧ ((w.heap.size + 1) < w'.heap.size ∧ w'.cell? ⟨(w.heap.size + 1), 0, none⟩ = some (.int .i64 u.kind) ∧ w'.cell? ⟨(w.heap.size + 1), 1, none⟩ = some (.int .i64 u.num) ∧ w'.cell? ⟨(w.heap.size + 1), 2, none⟩ = some (.slice ua u.kids.length uc))) _ := holdT_set3 HH9.out (gz := w71.heap.size) (x := .int .i64 T.kind) (y := .int .i64 T.num) (z := .slice a3 T.kids.length n3) HZ0.out HXL.out.1 HXL.out.2
          refine hK.out _ _ (ph_end (by kernel_rfl) hS1') ?_
          clear hK K hS1
          have hS1 := hS1'
          clear hS1'
          try simp only [Act.put, List.setIfInBounds_toArray, List.set_cons_zero, List.set_cons_succ]
          refine AnyTwo.step (i := 11) (o := { dst := some 18, op := _, type := _, pos := _, after := _, guard := _ }) (by kernel_rfl) rfl (fun K hK => ?_)
          go_simp
          have hS1' : (fun w' : World => Below wB.heap.size wB w' ∧ (w.heap.size < w'.heap.size ∧ w'.cell? ⟨w.heap.size, 0, none⟩ = some (.int .i64 t.kind) ∧ w'.cell? ⟨w.heap.size, 1, none⟩ = some (.int .i64 t.num) ∧ w'.cell? ⟨w.heap.size, 2, none⟩ = some (.slice ta t.kids.length tc)) ∧ ((w.heap.size + 1) < w'.heap.size ∧ w'.cell? ⟨(w.heap.size + 1), 0, none⟩ = some (.int .i64 u.kind) ∧ w'.cell? ⟨(w.heap.size + 1), 1, none⟩ = some (.int .i64 u.num) ∧ w'.cell? ⟨(w.heap.size + 1), 2, none⟩ = some (.slice ua u.kids.length uc))) _ := hS1
          refine hK.out _ _ (ph_end (by kernel_rfl) hS1') ?_
          clear hK K hS1
          have hS1 := hS1'
          clear hS1'
          try simp only [Act.put, List.setIfInBounds_toArray, List.set_cons_zero, List.set_cons_succ]
          refine AnyTwo.done (by kernel_rfl) ?_ _
          go_wp2_with fail
          go_meet
          exact ⟨w71.heap.size, a3, n3, rfl, rfl, hold_be hS1, HZ.out.set3, (HW0.out.set3 HGL.out).mono (Nat.zero_le _), HZ0.out⟩
      · skip
        go_simp
        have HZ := tuck (show VarAt wB.heap.size 0 0 (.slice none 0 0) (wB.alloc (.cells #[.int .i64 0, .int .i64 0, .slice none 0 0] 29)).drew from VarAt.new wB 0 0 (.slice none 0 0))
        have HZ0 : Hid (wB.heap.size ≤ wB.heap.size) := tuck (Nat.le_refl _)
        have hS1' : (fun w' : World => Below wB.heap.size wB w' ∧ (w.heap.size < w'.heap.size ∧ w'.cell? ⟨w.heap.size, 0, none⟩ = some (.int .i64 t.kind) ∧ w'.cell? ⟨w.heap.size, 1, none⟩ = some (.int .i64 t.num) ∧ w'.cell? ⟨w.heap.size, 2, none⟩ = some (.slice ta t.kids.length tc)) ∧ ((w.heap.size + 1) < w'.heap.size ∧ w'.cell? ⟨(w.heap.size + 1), 0, none⟩ = some (.int .i64 u.kind) ∧ w'.cell? ⟨(w.heap.size + 1), 1, none⟩ = some (.int .i64 u.num) ∧ w'.cell? ⟨(w.heap.size + 1), 2, none⟩ = some (.slice ua u.kids.length uc))) _ := ⟨(below1 wB (.cells #[.int .i64 0, .int .i64 0, .slice none 0 0] 29)).drew, HXt.out.below (below1 wB (.cells #[.int .i64 0, .int .i64 0, .slice none 0 0] 29)).drew, HXu.out.below (below1 wB (.cells #[.int .i64 0, .int .i64 0, .slice none 0 0] 29)).drew⟩
        refine hK.out _ _ (ph_one (by kernel_rfl) hS1') ?_
        clear hK K hS1
        have hS1 := hS1'
        clear hS1'
        try simp only [Act.put, List.setIfInBounds_toArray, List.set_cons_zero, List.set_cons_succ]
        refine AnyTwo.step (i := 1) (o := { dst := some 100, op := _, type := _, pos := _, after := _, guard := _ }) (by kernel_rfl) rfl (fun K hK => ?_)
        go_simp
        refine (HTOt.out _ (HSt.out.below (bAfter HB.out.be (hold_be hS1)))).mono ?_
        rintro e w71 ⟨hb71, v, rfl, s71, F71, rfl, hs71, -, -⟩
        obtain ⟨a71, n71, rfl⟩ := hs71.form
        have H71 := tuck (hs71.sl (B := 0) (fun _ _ => Nat.zero_le _))
        clear hs71
        replace HZ := tuck (HZ.out.below hb71)
        have hS1' : (fun w' : World => Below wB.heap.size wB w' ∧ (w.heap.size < w'.heap.size ∧ w'.cell? ⟨w.heap.size, 0, none⟩ = some (.int .i64 t.kind) ∧ w'.cell? ⟨w.heap.size, 1, none⟩ = some (.int .i64 t.num) ∧ w'.cell? ⟨w.heap.size, 2, none⟩ = some (.slice ta t.kids.length tc)) ∧ ((w.heap.size + 1) < w'.heap.size ∧ w'.cell? ⟨(w.heap.size + 1), 0, none⟩ = some (.int .i64 u.kind) ∧ w'.cell? ⟨(w.heap.size + 1), 1, none⟩ = some (.int .i64 u.num) ∧ w'.cell? ⟨(w.heap.size + 1), 2, none⟩ = some (.slice ua u.kids.length uc))) _ := holdT hS1 hb71
        refine hK.out _ _ (ph_one (by kernel_rfl) hS1') ?_
        clear hK K hS1
        have hS1 := hS1'
        clear hS1'
        try simp only [Act.put, List.setIfInBounds_toArray, List.set_cons_zero, List.set_cons_succ]
        refine AnyTwo.step (i := 4) (o := { dst := some 103, op := _, type := _, pos := _, after := _, guard := _ }) (by kernel_rfl) rfl (fun K hK => ?_)
        go_simp
        refine (HTOu.out _ (HSu.out.below (bAfter HB.out.be (hold_be hS1)))).mono ?_
        rintro e w81 ⟨hb81, v, rfl, s81, F81, rfl, hs81, -, -⟩
        obtain ⟨a81, n81, rfl⟩ := hs81.form
        have H81 := tuck (hs81.sl (B := 0) (fun _ _ => Nat.zero_le _))
        replace H71 := tuck (H71.out.below hb81)
        clear hs81
        replace HZ := tuck (HZ.out.below hb81)
        have hS1' : (fun w' : World => Below wB.heap.size wB w' ∧ (w.heap.size < w'.heap.size ∧ w'.cell? ⟨w.heap.size, 0, none⟩ = some (.int .i64 t.kind) ∧ w'.cell? ⟨w.heap.size, 1, none⟩ = some (.int .i64 t.num) ∧ w'.cell? ⟨w.heap.size, 2, none⟩ = some (.slice ta t.kids.length tc)) ∧ ((w.heap.size + 1) < w'.heap.size ∧ w'.cell? ⟨(w.heap.size + 1), 0, none⟩ = some (.int .i64 u.kind) ∧ w'.cell? ⟨(w.heap.size + 1), 1, none⟩ = some (.int .i64 u.num) ∧ w'.cell? ⟨(w.heap.size + 1), 2, none⟩ = some (.slice ua u.kids.length uc))) _ := holdT hS1 hb81
        refine hK.out _ _ (ph_one (by kernel_rfl) hS1') ?_
        clear hK K hS1
        have hS1 := hS1'
        clear hS1'
        try simp only [Act.put, List.setIfInBounds_toArray, List.set_cons_zero, List.set_cons_succ]
        refine AnyTwo.step (i := 5) (o := { dst := some 104, op := _, type := _, pos := _, after := _, guard := _ }) (by kernel_rfl) rfl (fun K hK => ?_)
        go_simp
        have HGL := tuck HZ.out.facts.1
        refine (HIM.out _ _ _ ⟨_, rfl, H71.out⟩ ⟨_, rfl, H81.out⟩).mono ?_
        rintro e w91 ⟨hb91, v, rfl, s3, F3, rfl, hs3, -, hF3⟩
        obtain ⟨a3, n3, rfl⟩ := hs3.form
        have HW0 := tuck (hs3.sl (fun g hg => (hF3 g hg).1))
        have HH9 := tuck (holdT hS1 hb91)
        clear hs3 hF3
        replace HZ := tuck (HZ.out.below hb91)
        obtain ⟨zz, y0, y1, y2, yf⟩ := HZ.out.facts
        have hS1' : (fun w' : World => Below wB.heap.size wB w' ∧ (w.heap.size < w'.heap.size ∧ w'.cell? ⟨w.heap.size, 0, none⟩ = some (.int .i64 t.kind) ∧ w'.cell? ⟨w.heap.size, 1, none⟩ = some (.int .i64 t.num) ∧ w'.cell? ⟨w.heap.size, 2, none⟩ = some (.slice ta t.kids.length tc)) ∧ ((w.heap.size + 1) < w'.heap.size ∧ w'.cell? ⟨(w.heap.size + 1), 0, none⟩ = some (.int .i64 u.kind) ∧ w'.cell? ⟨(w.heap.size + 1), 1, none⟩ = some (.int .i64 u.num) ∧ w'.cell? ⟨(w.heap.size + 1), 2, none⟩ = some (.slice ua u.kids.length uc))) _ := HH9.out
        refine hK.out _ _ (ph_one (by kernel_rfl) hS1') ?_
        clear hK K hS1
        have hS1 := hS1'
        clear hS1'
        try simp only [Act.put, List.setIfInBounds_toArray, List.set_cons_zero, List.set_cons_succ]
        refine AnyTwo.takeAny HT12 (i := 6) (oi := { dst := some 98, op := _, type := _, pos := _, after := _, guard := _ }) (v := ?vbaccc6) rfl (by kernel_rfl) (by kernel_rfl) (by decide +kernel) (by rfl) (fun _ _ _ h => h) (Or.inl ⟨by rfl, ?ybaccc6⟩) (ph_one (by kernel_rfl) hS1) ?rbaccc6
        case ybaccc6 => (intro w hSw; (try dsimp only at hSw); go_simp; try (with_reducible rfl))
        try simp only [Act.put, List.setIfInBounds_toArray, List.set_cons_zero, List.set_cons_succ]
        refine AnyTwo.takeAny HT12 (i := 7) (oi := { dst := some 105, op := _, type := _, pos := _, after := _, guard := _ }) (v := ?vbaccc7) rfl (by kernel_rfl) (by kernel_rfl) (by decide +kernel) (by rfl) (fun _ _ _ h => h) (Or.inl ⟨by rfl, ?ybaccc7⟩) (ph_one (by kernel_rfl) hS1) ?rbaccc7
        case ybaccc7 => (intro w hSw; (try dsimp only at hSw); go_simp; try (with_reducible rfl))
        try simp only [Act.put, List.setIfInBounds_toArray, List.set_cons_zero, List.set_cons_succ]
        refine AnyTwo.takeAny HT12 (i := 8) (oi := { dst := some 106, op := _, type := _, pos := _, after := _, guard := _ }) (v := ?vbaccc8) rfl (by kernel_rfl) (by kernel_rfl) (by decide +kernel) (by rfl) (fun _ _ _ h => h) (Or.inl ⟨by rfl, ?ybaccc8⟩) (ph_one (by kernel_rfl) hS1) ?rbaccc8
        case ybaccc8 => (intro w hSw; (try dsimp only at hSw); go_simp; try (with_reducible rfl))
        try simp only [Act.put, List.setIfInBounds_toArray, List.set_cons_zero, List.set_cons_succ]
        refine AnyTwo.step (i := 10) (o := { dst := none, op := _, type := _, pos := _, after := _, guard := _ }) (by kernel_rfl) rfl (fun K hK => ?_)
        go_simp
        have hS1' : (fun w' : World => Below wB.heap.size wB w' ∧ (w.heap.size < w'.heap.size ∧ w'.cell? ⟨w.heap.size, 0, none⟩ = some (.int .i64 t.kind) ∧ w'.cell? ⟨w.heap.size, 1, none⟩ = some (.int .i64 t.num) ∧ w'.cell? ⟨w.heap.size, 2, none⟩ = some (.slice ta t.kids.length tc)) ∧ ((w.heap.size + 1) < w'.heap.size ∧ w'.cell? ⟨(w.heap.size + 1), 0, none⟩ = some (.int .i64 u.kind) ∧ w'.cell? ⟨(w.heap.size + 1), 1, none⟩ = some (.int .i64 u.num) ∧ w'.cell? ⟨(w.heap.size + 1), 2, none⟩ = some (.slice ua u.kids.length uc))) _ := holdT_set3 HH9.out (gz := wB.heap.size) (x := .int .i64 T.kind) (y := .int .i64 T.num) (z := .slice a3 T.kids.length n3) HZ0.out HXL.out.1 HXL.out.2
        refine hK.out _ _ (ph_end (by kernel_rfl) hS1') ?_
        clear hK K hS1
        have hS1 := hS1'
        clear hS1'
        try simp only [Act.put, List.setIfInBounds_toArray, List.set_cons_zero, List.set_cons_succ]
        refine AnyTwo.step (i := 11) (o := { dst := some 18, op := _, type := _, pos := _, after := _, guard := _ }) (by kernel_rfl) rfl (fun K hK => ?_)
        go_simp
        have hS1' : (fun w' : World => Below wB.heap.size wB w' ∧ (w.heap.size < w'.heap.size ∧ w'.cell? ⟨w.heap.size, 0, none⟩ = some (.int .i64 t.kind) ∧ w'.cell? ⟨w.heap.size, 1, none⟩ = some (.int .i64 t.num) ∧ w'.cell? ⟨w.heap.size, 2, none⟩ = some (.slice ta t.kids.length tc)) ∧ ((w.heap.size + 1) < w'.heap.size ∧ w'.cell? ⟨(w.heap.size + 1), 0, none⟩ = some (.int .i64 u.kind) ∧ w'.cell? ⟨(w.heap.size + 1), 1, none⟩ = some (.int .i64 u.num) ∧ w'.cell? ⟨(w.heap.size + 1), 2, none⟩ = some (.slice ua u.kids.length uc))) _ := hS1
        refine hK.out _ _ (ph_end (by kernel_rfl) hS1') ?_
        clear hK K hS1
        have hS1 := hS1'
        clear hS1'
        try simp only [Act.put, List.setIfInBounds_toArray, List.set_cons_zero, List.set_cons_succ]
        refine AnyTwo.done (by kernel_rfl) ?_ _
        go_wp2_with fail
        go_meet
        exact ⟨wB.heap.size, a3, n3, rfl, rfl, hold_be hS1, HZ.out.set3, (HW0.out.set3 HGL.out).mono (Nat.zero_le _), HZ0.out⟩
    case rest =>
      obtain ⟨gh, a9, n9, rfl, rfl, hb, hv9, hs9, hz9⟩ := hcut
      rename World => WE
      have VH := tuck hv9
      have H9 := tuck hs9
      replace HXt := tuck (HXt.out.below hb)
      replace HXu := tuck (HXu.out.below hb)
      replace HB := tuck (HB.out.below hb)
      replace V8 := tuck (V8.out.below hb)
      replace HBW := tuck (HBW.out.below hb)
      replace HOG := tuck (HOG.out.below hb)
      replace VG := tuck (VG.out.below hb)
      clear zt c0t c1t c2t zu c0u c1u c2u
      clear hb hv9 hs9 hz9
      obtain ⟨z8, b0, b1, b2, bf⟩ := V8.out.facts
      obtain ⟨zh, h0, h1, h2, hf⟩ := VH.out.facts
      go_wp2_with fail
      clear z8 b0 b1 b2 bf zh h0 h1 h2 hf
      refine (HEQ.out _ _ _ ⟨_, rfl, H9.out⟩ ⟨_, rfl, HW0.out.below HBW.out.be⟩).mono ?_
      rintro e wF ⟨rfl, hb⟩
      replace HXt := tuck (HXt.out.below hb)
      replace HXu := tuck (HXu.out.below hb)
      replace HB := tuck (HB.out.below hb)
      replace V8 := tuck (V8.out.below hb)
      replace HBW := tuck (HBW.out.below hb)
      replace HOG := tuck (HOG.out.below hb)
      replace VG := tuck (VG.out.below hb)
      clear hb
      obtain ⟨z11, d0, d1, d2, df⟩ := VG.out.facts
      go_wp2_with fail
      refine (heldT_any T T.kids 0 1 wF _ (by omega) HSZT.out HOG.out.sl).mono ?_
      rintro e wG ⟨rfl, hb⟩
      replace HB := tuck (HB.out.below hb)
      clear hb
      go_wp2_with fail
      go_ret
      exact ⟨rfl, HB.out.be⟩

set_option maxRecDepth 100000 in
theorem lifted (os : Os) (started : os.Started) (H : Type) (enc : TypeId × Value → H) :
    ReturnsInHanded {} Try.checked os 6 .any (Rows.fnExactSubstTermSpec.pre6 enc Try.prog Try.f6 Rows.fnExactSubstTermRow.domain false) (Rows.fnExactSubstTermSpec.post enc Try.prog Try.f6 false true false false) := by
  refine returnsInHanded_of_change (C := Try.checked) own started (by kernel_rfl) Try.func6
    (ChangeSpec.witness6 (enc := enc) (C := Try.checked) false ⟨#[], #[.agg #[.int .i64 0, .int .i64 0, .slice none 0 0], .int .i64 0, .agg #[.int .i64 0, .int .i64 0, .slice none 0 0]], []⟩ 8 (by kernel_rfl) (by kernel_rfl) (by kernel_rfl) (by kernel_rfl)) ?_
  intro W base args ds gs before hval0 hW hcnd _
  have hval : ∀ (j : Nat) t v, Try.f6.params[j]? = some t → args[j]? = some v → Value.okWide Try.prog W .any base t v := hval0
  have hW' := hW
  obtain ⟨p, q, hA0, hV, rfl, hfz, hnd⟩ := hW
  have hA : DataW.TrodAll enc Try.prog W 0 (fun _ => true) true Try.f6.params.toList args.toList ds p := hA0
  rw [Try.params6] at hA hval
  obtain ⟨v0, vs0, d0, ds0, p0, q0, hargs, rfl, rfl, h0, r0⟩ := trodAll_cons hA
  obtain ⟨v1, vs1, d1, ds1, p1, q1, rfl, rfl, rfl, h1, r1⟩ := trodAll_cons r0
  obtain ⟨v2, vs2, d2, ds2, p2, q2, rfl, rfl, rfl, h2, r2⟩ := trodAll_cons r1
  obtain ⟨rfl, rfl, rfl⟩ := trodAll_nil r2
  obtain rfl : args = #[v0, v1, v2] := by cases args; simp_all
  obtain ⟨t0, ht0⟩ := open_term (hval 0 24 v0 rfl rfl) h0
  obtain ⟨a1, rfl, rfl, rfl, wf1⟩ := open_int Try.underlying3 (hval 1 3 v1 rfl rfl) h1
  obtain ⟨t2, ht2⟩ := open_term (hval 2 24 v2 rfl rfl) h2
  refine (walk t0 t2 a1 W v0 v2 ht0 ht2).mono fun e W' ⟨he, hb⟩ => ?_
  subst he
  exact ⟨_, rfl, law_post rfl rfl (fun gs h => by subst h; rfl) (by rw [Try.params6]; exact readable_FnExactSubstTerm) laid hW' hb⟩

theorem over : Rows.fnExactSubstTermRow.holds Try.pinned (OpenSpec.ofChange Rows.fnExactSubstTermSpec) :=
  OpenClaim.holds_of_wide 6 Try.f6 rfl rfl rfl rfl rfl rfl rfl ⟨rfl, rfl, rfl, rfl, rfl⟩ rfl rfl rfl rfl rfl (by kernel_rfl) Try.func6 (by kernel_rfl)
    (of_decide_eq_true (by kernel_rfl)) (by unfold Func.isWrapper; first | (rw [if_pos (by decide +kernel)]; kernel_rfl) | (rw [if_neg (by decide +kernel)]; exact ⟨rfl, rfl⟩))
    (fun os started H enc _ => lifted os started H enc)

theorem proved : Rows.FnExactSubstTermSaid :=
  over
end Go.Proofs.Ytidmcenblmlhdaa.fnExactSubstTerm
