/-
  The law FnShiftFree: whatever the bytes, a shifted variable occurs as often as before.
-/
import Derived.Test.YtmihfbopahoejaaDrawsB
import Derived.Test.YtmihfbopahoejaaVars
import Derived.Test.YtmihfbopahoejaaFree
import Derived.Test.YtmihfbopahoejaaLawT
import Derived.Test.YtmihfbopahoejaaTwo
namespace Go.Proofs.Ytmihfbopahoejaa.fnShiftFree
open Go.ChangeShapes Go.WideShapes Go.ChangeAt Go.RowKit Go.Deep
set_option linter.unusedVariables false

theorem readable_FnShiftFree : ∀ t ∈ (#[22] : Array TypeId).toList, Try.prog.readableRec t = true ∧ t < Try.prog.types.size := by
  intro t ht
  simp at ht
  subst ht
  exact ⟨by kernel_rfl, of_decide_eq_true (by kernel_rfl)⟩
theorem laid : laidOutB Try.prog = true := by kernel_rfl

set_option maxRecDepth 100000 in
set_option maxHeartbeats 1600000 in
theorem walk (U : Nat → Int) (a : Option Addr) (b o len cap : Nat) (w : World) (hlc : len ≤ cap) (hcm : cap ≤ maxLen) (hby : Bytes U a b o len w) : Calls Try.prog 4 #[.slice a len cap] w fun e w' => e = .returned (.bool true) ∧ Below w.heap.size w w' := by
  unfold maxLen at hcm
  by_cases hl : 1048576 < len
  · have hl' : (1048576 : Int) < (len : Int) := by omega
    clear hby
    go_enter Try.func4, Try.ntmps4
    go_wp2
    go_ret
    exact ⟨rfl, Below.refl _ _⟩
  have hl' : ¬ (1048576 : Int) < (len : Int) := by omega
  have HD := tuck (dShiftTerm_any w (by omega) hlc hby)
  clear hby
  go_enter Try.func4, Try.ntmps4
  go_wp2_with fail
  refine HD.out.mono ?_
  rintro e w1 ⟨T, v, x, y0, rfl, ⟨s, rfl, hin⟩, hsz, -, hx1, hx0, hy0, hy1, hb⟩
  obtain ⟨aV, cV, rfl⟩ := hin.form
  have V := tuck (TV.new (hin.mono (Nat.zero_le _)))
  have HB := tuck (bAfter hb (below1 w1 (.cells #[.int .i64 T.kind, .int .i64 T.num, .slice aV T.kids.length cV] 25)))
  clear hin hb HD
  go_wp2_with fail
  generalize w1.alloc (.cells #[.int .i64 T.kind, .int .i64 T.num, .slice aV T.kids.length cV] 25) = U0 at *
  generalize w1.heap.size = gV at *
  by_cases hP : ShiftOk T x y0
  rotate_left
  · obtain ⟨X, hX⟩ : ∃ X, X = zeroT := ⟨_, rfl⟩
    have HIM : Hid (∀ (w : World) (v : Value), TmIn w 0 T v → Calls Try.prog 16 #[v, .int .i64 x, .int .i64 y0] w (PairPost w X false)) := fun w v h => by
      have h2 := shiftI_p T x y0 w v h
      rwa [orZero_no hP, tr_not hP, ← hX] at h2
    have HSP : Hid (∀ (w : World) (v : Value), TmIn w 0 T v → Calls Try.prog 17 #[v, .int .i64 x, .int .i64 y0] w (PairPost w X false)) := fun w v h => by
      have h2 := shiftS_p T x y0 w v h
      rwa [orZero_no hP, tr_not hP, ← hX] at h2
    have HTS : Hid (∀ (w : World) (v1 v2 : Value), TmIn w 0 X v1 → TmIn w 0 X v2 → Calls Try.prog 18 #[v1, v2] w (BoolPost w true)) := fun w v1 v2 h1 h2 => by rw [hX] at h1 h2; exact same_z w v1 v2 h1 h2
    clear hX hP
    refine (HIM.out _ _ V.out.tm).mono ?_
    rintro e u51 ⟨hb, vv, rfl, ss, rfl, hin⟩
    obtain ⟨aVX, cVX, rfl⟩ := hin.form
    replace V := tuck (V.out.below hb)
    replace HB := tuck (bAfter HB.out hb)
    have HNVX := tuck hin
    clear hb hin
    obtain ⟨zV, c0V, c1V, c2V, cfV⟩ := V.out.facts
    go_wp2_with fail
    clear zV c0V c1V c2V cfV
    have VX := tuck (TV.new HNVX.out)
    have hb := below1 u51 (.cells #[.int .i64 X.kind, .int .i64 X.num, .slice aVX X.kids.length cVX] 25)
    replace V := tuck (V.out.below hb)
    replace HB := tuck (bAfter HB.out hb)
    clear hb HNVX
    generalize u51.alloc (.cells #[.int .i64 X.kind, .int .i64 X.num, .slice aVX X.kids.length cVX] 25) = U51 at *
    generalize u51.heap.size = gVX at *
    refine (HSP.out _ _ V.out.tm).mono ?_
    rintro e u52 ⟨hb, vv, rfl, ss, rfl, hin⟩
    obtain ⟨aVW, cVW, rfl⟩ := hin.form
    replace V := tuck (V.out.below hb)
    replace VX := tuck (VX.out.below hb)
    replace HB := tuck (bAfter HB.out hb)
    have HNVW := tuck hin
    clear hb hin
    obtain ⟨zV, c0V, c1V, c2V, cfV⟩ := V.out.facts
    obtain ⟨zVX, c0VX, c1VX, c2VX, cfVX⟩ := VX.out.facts
    go_wp2_with fail
    clear zV c0V c1V c2V cfV zVX c0VX c1VX c2VX cfVX
    have VW := tuck (TV.new HNVW.out)
    have hb := below1 u52 (.cells #[.int .i64 X.kind, .int .i64 X.num, .slice aVW X.kids.length cVW] 25)
    replace V := tuck (V.out.below hb)
    replace VX := tuck (VX.out.below hb)
    replace HB := tuck (bAfter HB.out hb)
    clear hb HNVW
    generalize u52.alloc (.cells #[.int .i64 X.kind, .int .i64 X.num, .slice aVW X.kids.length cVW] 25) = U52 at *
    generalize u52.heap.size = gVW at *
    refine (HTS.out _ _ _ VX.out.tm VW.out.tm).mono ?_
    rintro e u53 ⟨rfl, hb⟩
    replace V := tuck (V.out.below hb)
    replace VX := tuck (VX.out.below hb)
    replace VW := tuck (VW.out.below hb)
    replace HB := tuck (bAfter HB.out hb)
    clear hb
    obtain ⟨zV, c0V, c1V, c2V, cfV⟩ := V.out.facts
    obtain ⟨zVX, c0VX, c1VX, c2VX, cfVX⟩ := VX.out.facts
    obtain ⟨zVW, c0VW, c1VW, c2VW, cfVW⟩ := VW.out.facts
    go_wp2_with fail
    refine (HTS.out _ _ _ VX.out.tm VW.out.tm).mono ?_
    rintro e u54 ⟨rfl, hb⟩
    clear zV c0V c1V c2V cfV zVX c0VX c1VX c2VX cfVX zVW c0VW c1VW c2VW cfVW
    replace V := tuck (V.out.below hb)
    replace VX := tuck (VX.out.below hb)
    replace VW := tuck (VW.out.below hb)
    replace HB := tuck (bAfter HB.out hb)
    clear hb
    obtain ⟨zV, c0V, c1V, c2V, cfV⟩ := V.out.facts
    obtain ⟨zVX, c0VX, c1VX, c2VX, cfVX⟩ := VX.out.facts
    obtain ⟨zVW, c0VW, c1VW, c2VW, cfVW⟩ := VW.out.facts
    go_wp2_with fail
    go_ret
    exact ⟨rfl, HB.out⟩
  obtain ⟨X, hX⟩ : ∃ X, X = T.shift x y0 := ⟨_, rfl⟩
  have HIM : Hid (∀ (w : World) (v : Value), TmIn w 0 T v → Calls Try.prog 16 #[v, .int .i64 x, .int .i64 y0] w (PairPost w X true)) := fun w v h => by
    have h2 := shiftI_p T x y0 w v h
    rwa [orZero_yes hP, tr_of hP, ← hX] at h2
  have HSP : Hid (∀ (w : World) (v : Value), TmIn w 0 T v → Calls Try.prog 17 #[v, .int .i64 x, .int .i64 y0] w (PairPost w X true)) := fun w v h => by
    have h2 := shiftS_p T x y0 w v h
    rwa [orZero_yes hP, tr_of hP, ← hX] at h2
  have hXV : X.Valid := hX ▸ hP.2.2.2.2.2.2
  have hTV : T.Valid := hP.1
  have HTS : Hid (∀ (w : World) (v1 v2 : Value), TmIn w 0 X v1 → TmIn w 0 X v2 → Calls Try.prog 18 #[v1, v2] w (BoolPost w true)) := same_v hXV
  have hx20 : -20 ≤ x ∧ x ≤ 20 := ⟨hP.2.1, hP.2.2.1⟩
  have HXV : Hid X.Valid := tuck hXV
  have HTV : Hid T.Valid := tuck hTV
  have HP : Hid (ShiftOk T x y0) := tuck hP
  have HX : Hid (X = T.shift x y0) := tuck hX
  clear hX hP hXV hTV
  refine (HIM.out _ _ V.out.tm).mono ?_
  rintro e u1 ⟨hb, vv, rfl, ss, rfl, hin⟩
  obtain ⟨aVX, cVX, rfl⟩ := hin.form
  replace V := tuck (V.out.below hb)
  replace HB := tuck (bAfter HB.out hb)
  have HNVX := tuck hin
  clear hb hin
  obtain ⟨zV, c0V, c1V, c2V, cfV⟩ := V.out.facts
  go_wp2_with fail
  clear zV c0V c1V c2V cfV
  have VX := tuck (TV.new HNVX.out)
  have hb := below1 u1 (.cells #[.int .i64 X.kind, .int .i64 X.num, .slice aVX X.kids.length cVX] 25)
  replace V := tuck (V.out.below hb)
  replace HB := tuck (bAfter HB.out hb)
  clear hb HNVX
  generalize u1.alloc (.cells #[.int .i64 X.kind, .int .i64 X.num, .slice aVX X.kids.length cVX] 25) = U1 at *
  generalize u1.heap.size = gVX at *
  refine (HSP.out _ _ V.out.tm).mono ?_
  rintro e u2 ⟨hb, vv, rfl, ss, rfl, hin⟩
  obtain ⟨aVW, cVW, rfl⟩ := hin.form
  replace V := tuck (V.out.below hb)
  replace VX := tuck (VX.out.below hb)
  replace HB := tuck (bAfter HB.out hb)
  have HNVW := tuck hin
  clear hb hin
  obtain ⟨zV, c0V, c1V, c2V, cfV⟩ := V.out.facts
  obtain ⟨zVX, c0VX, c1VX, c2VX, cfVX⟩ := VX.out.facts
  go_wp2_with fail
  clear zV c0V c1V c2V cfV zVX c0VX c1VX c2VX cfVX
  have VW := tuck (TV.new HNVW.out)
  have hb := below1 u2 (.cells #[.int .i64 X.kind, .int .i64 X.num, .slice aVW X.kids.length cVW] 25)
  replace V := tuck (V.out.below hb)
  replace VX := tuck (VX.out.below hb)
  replace HB := tuck (bAfter HB.out hb)
  clear hb HNVW
  generalize u2.alloc (.cells #[.int .i64 X.kind, .int .i64 X.num, .slice aVW X.kids.length cVW] 25) = U2 at *
  generalize u2.heap.size = gVW at *
  refine (HTS.out _ _ _ VX.out.tm VW.out.tm).mono ?_
  rintro e u3 ⟨rfl, hb⟩
  replace V := tuck (V.out.below hb)
  replace VX := tuck (VX.out.below hb)
  replace VW := tuck (VW.out.below hb)
  replace HB := tuck (bAfter HB.out hb)
  clear hb
  have hy20 : 0 ≤ y0 ∧ y0 ≤ 20 := ⟨HP.out.2.2.2.1, HP.out.2.2.2.2.1⟩
  have HCT : Hid (∀ (q : Nat) (w : World) (v : Value), TmIn w 0 T v → Calls Try.prog 19 #[v, .int .i64 q] w (IntPost w (countOf T q))) := fun q w v h => countI_any T q w v h
  have HCX : Hid (∀ (q : Nat) (k : Int), k = (if y0 ≤ (q : Int) then (q : Int) + x else q) → 0 < countOf T q → ∀ (w : World) (v : Value), TmIn w 0 X v → Calls Try.prog 19 #[v, .int .i64 k] w (IntPost w (countOf T q))) := fun q k hk hc w v h => by
    have h2 := countI_any X k w v h
    have hq : 0 ≤ (q : Int) ∧ (q : Int) ≤ 20 := by
      refine Classical.byContradiction fun hn => ?_
      unfold countOf at hc
      rw [if_neg (fun e => hn e.2)] at hc
      omega
    have e1 : countOf T q = T.times q := by unfold countOf; rw [if_pos ⟨HTV.out, hq⟩]
    obtain ⟨t1, t2, t3⟩ := Tm.times_shift x T y0 q HP.out.2.2.2.2.2.1
    rw [← HX.out] at t1 t2
    have e2 : X.times k = T.times q ∧ 0 ≤ k := by
      subst hk
      split
      · rename_i hle
        by_cases h3 : (q : Int) + x < y0
        · rw [e1, t3 hle h3] at hc; omega
        · exact ⟨t2 hle (by omega), by omega⟩
      · rename_i hle
        exact ⟨t1 (by omega), by omega⟩
    have e3 : k ≤ 20 := by
      refine Classical.byContradiction fun hn => ?_
      have := X.times_big k HXV.out.1 (by omega)
      rw [e1, ← e2.1, this] at hc
      omega
    have e4 : countOf X k = countOf T q := by rw [e1, ← e2.1]; unfold countOf; rw [if_pos ⟨HXV.out, e2.2, e3⟩]
    rwa [e4] at h2
  have HNT : Hid (∀ (w : World) (v : Value), TmIn w 0 T v → Calls Try.prog 20 #[v] w (IntPost w (nodesOf T))) := fun w v h => nodesI_any T w v h
  have HNX : Hid (∀ (w : World) (v : Value), TmIn w 0 X v → Calls Try.prog 20 #[v] w (IntPost w (nodesOf T))) := fun w v h => by
    have h2 := nodesI_any X w v h
    rwa [show nodesOf X = nodesOf T by unfold nodesOf; rw [if_pos HXV.out, if_pos HTV.out, HX.out, Tm.shift_size]] at h2
  obtain ⟨zV, c0V, c1V, c2V, cfV⟩ := V.out.facts
  obtain ⟨zVX, c0VX, c1VX, c2VX, cfVX⟩ := VX.out.facts
  obtain ⟨zVW, c0VW, c1VW, c2VW, cfVW⟩ := VW.out.facts
  go_wp2_with fail
  clear zV c0V c1V c2V cfV zVX c0VX c1VX c2VX cfVX zVW c0VW c1VW c2VW cfVW
  clear HIM HSP HTS VW
  go_loopw [10] (fun i wr => ∃ q : Nat, q ≤ 21 ∧ i = .int .i64 q ∧ Below w.heap.size w wr ∧ TV gV T aV cV wr ∧ TV gVX X aVX cVX wr) (fun i _ => 21 - (intOf i).toNat)
  case atStart => exact ⟨0, Nat.zero_le _, rfl, HB.out, V.out, VX.out⟩
  case round =>
    obtain ⟨q, hq, rfl, hb, hv, hvx⟩ := hrel
    clear HB V VX
    have V := tuck hv
    have VX := tuck hvx
    have HB := tuck hb
    clear hb hv hvx
    by_cases hlt : q ≤ 20
    · have hlti : ((q : Int) ≤ 20) := by omega
      have HCQ := tuck (HCT.out q)
      obtain ⟨k, hk⟩ : ∃ k : Int, k = (if y0 ≤ (q : Int) then (q : Int) + x else q) := ⟨_, rfl⟩
      have HCK := tuck (HCX.out q k hk)
      have hc0 : 0 ≤ countOf T q := by
        unfold countOf
        have := T.times_bd (q : Int)
        split <;> omega
      generalize countOf T q = C at *
      clear HCT HCX
      by_cases hle : y0 ≤ (q : Int)
      · skip
        rw [if_pos hle] at hk
        subst hk
        by_cases hc : 0 < C
        · have hcd : decide (0 < C) = true := by simpa using hc
          have HK2 := tuck (HCK.out hc)
          have hcn : (C != C) = false := by simp
          clear HCK
          obtain ⟨zV, c0V, c1V, c2V, cfV⟩ := V.out.facts
          obtain ⟨zVX, c0VX, c1VX, c2VX, cfVX⟩ := VX.out.facts
          go_wp2_with fail
          clear zV c0V c1V c2V cfV zVX c0VX c1VX c2VX cfVX
          have HT12 : ∀ w' : World, ((fun w' => Below wr.heap.size wr w' ∧ (gV < w'.heap.size ∧ w'.cell? ⟨gV, 0, none⟩ = some (.int .i64 T.kind) ∧ w'.cell? ⟨gV, 1, none⟩ = some (.int .i64 T.num) ∧ w'.cell? ⟨gV, 2, none⟩ = some (.slice aV T.kids.length cV)) ∧ (gVX < w'.heap.size ∧ w'.cell? ⟨gVX, 0, none⟩ = some (.int .i64 X.kind) ∧ w'.cell? ⟨gVX, 1, none⟩ = some (.int .i64 X.num) ∧ w'.cell? ⟨gVX, 2, none⟩ = some (.slice aVX X.kids.length cVX)))) w' → ((fun w' => Below wr.heap.size wr w' ∧ (gV < w'.heap.size ∧ w'.cell? ⟨gV, 0, none⟩ = some (.int .i64 T.kind) ∧ w'.cell? ⟨gV, 1, none⟩ = some (.int .i64 T.num) ∧ w'.cell? ⟨gV, 2, none⟩ = some (.slice aV T.kids.length cV)) ∧ (gVX < w'.heap.size ∧ w'.cell? ⟨gVX, 0, none⟩ = some (.int .i64 X.kind) ∧ w'.cell? ⟨gVX, 1, none⟩ = some (.int .i64 X.num) ∧ w'.cell? ⟨gVX, 2, none⟩ = some (.slice aVX X.kids.length cVX)))) w' := fun w' h => h
          refine AnyTwo.begin ((fun w' => Below wr.heap.size wr w' ∧ (gV < w'.heap.size ∧ w'.cell? ⟨gV, 0, none⟩ = some (.int .i64 T.kind) ∧ w'.cell? ⟨gV, 1, none⟩ = some (.int .i64 T.num) ∧ w'.cell? ⟨gV, 2, none⟩ = some (.slice aV T.kids.length cV)) ∧ (gVX < w'.heap.size ∧ w'.cell? ⟨gVX, 0, none⟩ = some (.int .i64 X.kind) ∧ w'.cell? ⟨gVX, 1, none⟩ = some (.int .i64 X.num) ∧ w'.cell? ⟨gVX, 2, none⟩ = some (.slice aVX X.kids.length cVX)))) ((fun w' => Below wr.heap.size wr w' ∧ (gV < w'.heap.size ∧ w'.cell? ⟨gV, 0, none⟩ = some (.int .i64 T.kind) ∧ w'.cell? ⟨gV, 1, none⟩ = some (.int .i64 T.num) ∧ w'.cell? ⟨gV, 2, none⟩ = some (.slice aV T.kids.length cV)) ∧ (gVX < w'.heap.size ∧ w'.cell? ⟨gVX, 0, none⟩ = some (.int .i64 X.kind) ∧ w'.cell? ⟨gVX, 1, none⟩ = some (.int .i64 X.num) ∧ w'.cell? ⟨gVX, 2, none⟩ = some (.slice aVX X.kids.length cVX)))) 12 (by kernel_rfl) ?_
          have hS1 : ((fun w' => Below wr.heap.size wr w' ∧ (gV < w'.heap.size ∧ w'.cell? ⟨gV, 0, none⟩ = some (.int .i64 T.kind) ∧ w'.cell? ⟨gV, 1, none⟩ = some (.int .i64 T.num) ∧ w'.cell? ⟨gV, 2, none⟩ = some (.slice aV T.kids.length cV)) ∧ (gVX < w'.heap.size ∧ w'.cell? ⟨gVX, 0, none⟩ = some (.int .i64 X.kind) ∧ w'.cell? ⟨gVX, 1, none⟩ = some (.int .i64 X.num) ∧ w'.cell? ⟨gVX, 2, none⟩ = some (.slice aVX X.kids.length cVX)))) _ := ⟨(Below.refl _ _).drew, V.out.var.four, VX.out.var.four⟩
          refine AnyTwo.takeAny HT12 (i := 0) (oi := { dst := some 67, op := _, type := _, pos := _, after := _, guard := _ }) (v := ?vpa1) rfl (by kernel_rfl) (by kernel_rfl) (by decide +kernel) (by rfl) (fun _ _ _ h => h) (Or.inl ⟨by rfl, ?ypa1⟩) (ph_one (by kernel_rfl) hS1) ?rpa1
          case ypa1 => (intro w hSw; (try dsimp only at hSw); go_simp; try (with_reducible rfl))
          try simp only [Act.put, List.setIfInBounds_toArray, List.set_cons_zero, List.set_cons_succ]
          refine AnyTwo.takeAny HT12 (i := 1) (oi := { dst := some 68, op := _, type := _, pos := _, after := _, guard := _ }) (v := ?vpa2) rfl (by kernel_rfl) (by kernel_rfl) (by decide +kernel) (by rfl) (fun _ _ _ h => h) (Or.inl ⟨by rfl, ?ypa2⟩) (ph_one (by kernel_rfl) hS1) ?rpa2
          case ypa2 => (intro w hSw; (try dsimp only at hSw); go_simp; try (with_reducible rfl))
          try simp only [Act.put, List.setIfInBounds_toArray, List.set_cons_zero, List.set_cons_succ]
          refine AnyTwo.step (i := 2) (o := { dst := some 69, op := _, type := _, pos := _, after := _, guard := _ }) (by kernel_rfl) rfl (fun K hK => ?_)
          go_simp
          refine (HCQ.out _ _ ⟨_, rfl, V.out.sl.below (hold_be hS1)⟩).mono ?_
          rintro e w7 ⟨rfl, hb7⟩
          have hS1' : ((fun w' => Below wr.heap.size wr w' ∧ (gV < w'.heap.size ∧ w'.cell? ⟨gV, 0, none⟩ = some (.int .i64 T.kind) ∧ w'.cell? ⟨gV, 1, none⟩ = some (.int .i64 T.num) ∧ w'.cell? ⟨gV, 2, none⟩ = some (.slice aV T.kids.length cV)) ∧ (gVX < w'.heap.size ∧ w'.cell? ⟨gVX, 0, none⟩ = some (.int .i64 X.kind) ∧ w'.cell? ⟨gVX, 1, none⟩ = some (.int .i64 X.num) ∧ w'.cell? ⟨gVX, 2, none⟩ = some (.slice aVX X.kids.length cVX)))) _ := holdT hS1 hb7
          refine hK.out _ _ (ph_one (by kernel_rfl) hS1') ?_
          clear hK K hS1
          have hS1 := hS1'
          clear hS1'
          try simp only [Act.put, List.setIfInBounds_toArray, List.set_cons_zero, List.set_cons_succ]
          refine AnyTwo.takeAny HT12 (i := 3) (oi := { dst := some 70, op := _, type := _, pos := _, after := _, guard := _ }) (v := .bool true) rfl (by kernel_rfl) (by kernel_rfl) (by decide +kernel) (by rfl) (fun _ _ _ h => h) (Or.inl ⟨by rfl, ?ypa3⟩) (ph_one (by kernel_rfl) hS1) ?rpa3
          case ypa3 => (intro w hSw; (try dsimp only at hSw); go_simp; try simp [*])
          try simp only [Act.put, List.setIfInBounds_toArray, List.set_cons_zero, List.set_cons_succ]
          refine AnyTwo.takeAny HT12 (i := 4) (oi := { dst := some 71, op := _, type := _, pos := _, after := _, guard := _ }) (v := ?vpa4) rfl (by kernel_rfl) (by kernel_rfl) (by decide +kernel) (by rfl) (fun _ _ _ h => h) (Or.inl ⟨by rfl, ?ypa4⟩) (ph_one (by kernel_rfl) hS1) ?rpa4
          case ypa4 => (intro w hSw; (try dsimp only at hSw); go_simp; try (with_reducible rfl))
          try simp only [Act.put, List.setIfInBounds_toArray, List.set_cons_zero, List.set_cons_succ]
          refine AnyTwo.takeAny HT12 (i := 5) (oi := { dst := some 72, op := _, type := _, pos := _, after := _, guard := _ }) (v := ?vpa5) rfl (by kernel_rfl) (by kernel_rfl) (by decide +kernel) (by rfl) (fun _ _ _ h => h) (Or.inl ⟨by rfl, ?ypa5⟩) (ph_one (by kernel_rfl) hS1) ?rpa5
          case ypa5 => (intro w hSw; (try dsimp only at hSw); go_simp; try (with_reducible rfl))
          try simp only [Act.put, List.setIfInBounds_toArray, List.set_cons_zero, List.set_cons_succ]
          refine AnyTwo.takeAny HT12 (i := 6) (oi := { dst := some 73, op := _, type := _, pos := _, after := _, guard := _ }) (v := ?vpa6) rfl (by kernel_rfl) (by kernel_rfl) (by decide +kernel) (by rfl) (fun _ _ _ h => h) (Or.inl ⟨by rfl, ?ypa6⟩) (ph_one (by kernel_rfl) hS1) ?rpa6
          case ypa6 => (intro w hSw; (try dsimp only at hSw); go_simp; try (with_reducible rfl))
          try simp only [Act.put, List.setIfInBounds_toArray, List.set_cons_zero, List.set_cons_succ]
          refine AnyTwo.takeAny HT12 (i := 8) (oi := { dst := some 75, op := _, type := _, pos := _, after := _, guard := _ }) (v := ?vpa7) rfl (by kernel_rfl) (by kernel_rfl) (by decide +kernel) (by rfl) (fun _ _ _ h => h) (Or.inl ⟨by rfl, ?ypa7⟩) (ph_one (by kernel_rfl) hS1) ?rpa7
          case ypa7 => (intro w hSw; (try dsimp only at hSw); go_simp; try (with_reducible rfl))
          try simp only [Act.put, List.setIfInBounds_toArray, List.set_cons_zero, List.set_cons_succ]
          refine AnyTwo.takeAny HT12 (i := 9) (oi := { dst := some 76, op := _, type := _, pos := _, after := _, guard := _ }) (v := ?vpa8) rfl (by kernel_rfl) (by kernel_rfl) (by decide +kernel) (by rfl) (fun _ _ _ h => h) (Or.inl ⟨by rfl, ?ypa8⟩) (ph_one (by kernel_rfl) hS1) ?rpa8
          case ypa8 => (intro w hSw; (try dsimp only at hSw); go_simp; try (with_reducible rfl))
          try simp only [Act.put, List.setIfInBounds_toArray, List.set_cons_zero, List.set_cons_succ]
          refine AnyTwo.step (i := 7) (o := { dst := some 74, op := _, type := _, pos := _, after := _, guard := _ }) (by kernel_rfl) rfl (fun K hK => ?_)
          go_simp
          refine (HK2.out _ _ ⟨_, rfl, VX.out.sl.below (hold_be hS1)⟩).mono ?_
          rintro e w7 ⟨rfl, hb7⟩
          have hS1' : ((fun w' => Below wr.heap.size wr w' ∧ (gV < w'.heap.size ∧ w'.cell? ⟨gV, 0, none⟩ = some (.int .i64 T.kind) ∧ w'.cell? ⟨gV, 1, none⟩ = some (.int .i64 T.num) ∧ w'.cell? ⟨gV, 2, none⟩ = some (.slice aV T.kids.length cV)) ∧ (gVX < w'.heap.size ∧ w'.cell? ⟨gVX, 0, none⟩ = some (.int .i64 X.kind) ∧ w'.cell? ⟨gVX, 1, none⟩ = some (.int .i64 X.num) ∧ w'.cell? ⟨gVX, 2, none⟩ = some (.slice aVX X.kids.length cVX)))) _ := holdT hS1 hb7
          refine hK.out _ _ (ph_one (by kernel_rfl) hS1') ?_
          clear hK K hS1
          have hS1 := hS1'
          clear hS1'
          try simp only [Act.put, List.setIfInBounds_toArray, List.set_cons_zero, List.set_cons_succ]
          refine AnyTwo.step (i := 10) (o := { dst := some 77, op := _, type := _, pos := _, after := _, guard := _ }) (by kernel_rfl) rfl (fun K hK => ?_)
          go_simp
          refine (HCQ.out _ _ ⟨_, rfl, V.out.sl.below (hold_be hS1)⟩).mono ?_
          rintro e w7 ⟨rfl, hb7⟩
          have hS1' : ((fun w' => Below wr.heap.size wr w' ∧ (gV < w'.heap.size ∧ w'.cell? ⟨gV, 0, none⟩ = some (.int .i64 T.kind) ∧ w'.cell? ⟨gV, 1, none⟩ = some (.int .i64 T.num) ∧ w'.cell? ⟨gV, 2, none⟩ = some (.slice aV T.kids.length cV)) ∧ (gVX < w'.heap.size ∧ w'.cell? ⟨gVX, 0, none⟩ = some (.int .i64 X.kind) ∧ w'.cell? ⟨gVX, 1, none⟩ = some (.int .i64 X.num) ∧ w'.cell? ⟨gVX, 2, none⟩ = some (.slice aVX X.kids.length cVX)))) _ := holdT hS1 hb7
          refine hK.out _ _ (ph_one (by kernel_rfl) hS1') ?_
          clear hK K hS1
          have hS1 := hS1'
          clear hS1'
          try simp only [Act.put, List.setIfInBounds_toArray, List.set_cons_zero, List.set_cons_succ]
          refine AnyTwo.takeAny HT12 (i := 11) (oi := { dst := some 78, op := _, type := _, pos := _, after := _, guard := _ }) (v := .bool false) rfl (by kernel_rfl) (by kernel_rfl) (by decide +kernel) (by rfl) (fun _ _ _ h => h) (Or.inl ⟨by rfl, ?ypa9⟩) (ph_one (by kernel_rfl) hS1) ?rpa9
          case ypa9 => (intro w hSw; (try dsimp only at hSw); go_simp; try simp [*])
          try simp only [Act.put, List.setIfInBounds_toArray, List.set_cons_zero, List.set_cons_succ]
          refine AnyTwo.step (i := 12) (o := { dst := some 79, op := _, type := _, pos := _, after := _, guard := _ }) (by kernel_rfl) rfl (fun K hK => ?_)
          go_simp
          refine hK.out _ _ (ph_end (by kernel_rfl) hS1) ?_
          clear hK K
          try simp only [Act.put, List.setIfInBounds_toArray, List.set_cons_zero, List.set_cons_succ]
          refine AnyTwo.done (by kernel_rfl) ?_ _
          clear HT12
          have hb : Below wr.heap.size wr _ := hold_be hS1
          replace HB := tuck (bAfter HB.out hb)
          replace V := tuck (V.out.below hb)
          replace VX := tuck (VX.out.below hb)
          clear hb hS1
          go_wp2_with fail
          go_roundw
          case rel => exact ⟨q + 1, by omega, by go_num, HB.out, V.out, VX.out⟩
          case measure => simp [intOf]; omega
        · have hcd : decide (0 < C) = false := by simpa using hc
          clear HCK
          obtain ⟨zV, c0V, c1V, c2V, cfV⟩ := V.out.facts
          obtain ⟨zVX, c0VX, c1VX, c2VX, cfVX⟩ := VX.out.facts
          go_wp2_with fail
          clear zV c0V c1V c2V cfV zVX c0VX c1VX c2VX cfVX
          have HT12 : ∀ w' : World, ((fun w' => Below wr.heap.size wr w' ∧ (gV < w'.heap.size ∧ w'.cell? ⟨gV, 0, none⟩ = some (.int .i64 T.kind) ∧ w'.cell? ⟨gV, 1, none⟩ = some (.int .i64 T.num) ∧ w'.cell? ⟨gV, 2, none⟩ = some (.slice aV T.kids.length cV)) ∧ (gVX < w'.heap.size ∧ w'.cell? ⟨gVX, 0, none⟩ = some (.int .i64 X.kind) ∧ w'.cell? ⟨gVX, 1, none⟩ = some (.int .i64 X.num) ∧ w'.cell? ⟨gVX, 2, none⟩ = some (.slice aVX X.kids.length cVX)))) w' → ((fun w' => Below wr.heap.size wr w' ∧ (gV < w'.heap.size ∧ w'.cell? ⟨gV, 0, none⟩ = some (.int .i64 T.kind) ∧ w'.cell? ⟨gV, 1, none⟩ = some (.int .i64 T.num) ∧ w'.cell? ⟨gV, 2, none⟩ = some (.slice aV T.kids.length cV)) ∧ (gVX < w'.heap.size ∧ w'.cell? ⟨gVX, 0, none⟩ = some (.int .i64 X.kind) ∧ w'.cell? ⟨gVX, 1, none⟩ = some (.int .i64 X.num) ∧ w'.cell? ⟨gVX, 2, none⟩ = some (.slice aVX X.kids.length cVX)))) w' := fun w' h => h
          refine AnyTwo.begin ((fun w' => Below wr.heap.size wr w' ∧ (gV < w'.heap.size ∧ w'.cell? ⟨gV, 0, none⟩ = some (.int .i64 T.kind) ∧ w'.cell? ⟨gV, 1, none⟩ = some (.int .i64 T.num) ∧ w'.cell? ⟨gV, 2, none⟩ = some (.slice aV T.kids.length cV)) ∧ (gVX < w'.heap.size ∧ w'.cell? ⟨gVX, 0, none⟩ = some (.int .i64 X.kind) ∧ w'.cell? ⟨gVX, 1, none⟩ = some (.int .i64 X.num) ∧ w'.cell? ⟨gVX, 2, none⟩ = some (.slice aVX X.kids.length cVX)))) ((fun w' => Below wr.heap.size wr w' ∧ (gV < w'.heap.size ∧ w'.cell? ⟨gV, 0, none⟩ = some (.int .i64 T.kind) ∧ w'.cell? ⟨gV, 1, none⟩ = some (.int .i64 T.num) ∧ w'.cell? ⟨gV, 2, none⟩ = some (.slice aV T.kids.length cV)) ∧ (gVX < w'.heap.size ∧ w'.cell? ⟨gVX, 0, none⟩ = some (.int .i64 X.kind) ∧ w'.cell? ⟨gVX, 1, none⟩ = some (.int .i64 X.num) ∧ w'.cell? ⟨gVX, 2, none⟩ = some (.slice aVX X.kids.length cVX)))) 12 (by kernel_rfl) ?_
          have hS1 : ((fun w' => Below wr.heap.size wr w' ∧ (gV < w'.heap.size ∧ w'.cell? ⟨gV, 0, none⟩ = some (.int .i64 T.kind) ∧ w'.cell? ⟨gV, 1, none⟩ = some (.int .i64 T.num) ∧ w'.cell? ⟨gV, 2, none⟩ = some (.slice aV T.kids.length cV)) ∧ (gVX < w'.heap.size ∧ w'.cell? ⟨gVX, 0, none⟩ = some (.int .i64 X.kind) ∧ w'.cell? ⟨gVX, 1, none⟩ = some (.int .i64 X.num) ∧ w'.cell? ⟨gVX, 2, none⟩ = some (.slice aVX X.kids.length cVX)))) _ := ⟨(Below.refl _ _).drew, V.out.var.four, VX.out.var.four⟩
          refine AnyTwo.takeAny HT12 (i := 0) (oi := { dst := some 67, op := _, type := _, pos := _, after := _, guard := _ }) (v := ?vna1) rfl (by kernel_rfl) (by kernel_rfl) (by decide +kernel) (by rfl) (fun _ _ _ h => h) (Or.inl ⟨by rfl, ?yna1⟩) (ph_one (by kernel_rfl) hS1) ?rna1
          case yna1 => (intro w hSw; (try dsimp only at hSw); go_simp; try (with_reducible rfl))
          try simp only [Act.put, List.setIfInBounds_toArray, List.set_cons_zero, List.set_cons_succ]
          refine AnyTwo.takeAny HT12 (i := 1) (oi := { dst := some 68, op := _, type := _, pos := _, after := _, guard := _ }) (v := ?vna2) rfl (by kernel_rfl) (by kernel_rfl) (by decide +kernel) (by rfl) (fun _ _ _ h => h) (Or.inl ⟨by rfl, ?yna2⟩) (ph_one (by kernel_rfl) hS1) ?rna2
          case yna2 => (intro w hSw; (try dsimp only at hSw); go_simp; try (with_reducible rfl))
          try simp only [Act.put, List.setIfInBounds_toArray, List.set_cons_zero, List.set_cons_succ]
          refine AnyTwo.step (i := 2) (o := { dst := some 69, op := _, type := _, pos := _, after := _, guard := _ }) (by kernel_rfl) rfl (fun K hK => ?_)
          go_simp
          refine (HCQ.out _ _ ⟨_, rfl, V.out.sl.below (hold_be hS1)⟩).mono ?_
          rintro e w7 ⟨rfl, hb7⟩
          have hS1' : ((fun w' => Below wr.heap.size wr w' ∧ (gV < w'.heap.size ∧ w'.cell? ⟨gV, 0, none⟩ = some (.int .i64 T.kind) ∧ w'.cell? ⟨gV, 1, none⟩ = some (.int .i64 T.num) ∧ w'.cell? ⟨gV, 2, none⟩ = some (.slice aV T.kids.length cV)) ∧ (gVX < w'.heap.size ∧ w'.cell? ⟨gVX, 0, none⟩ = some (.int .i64 X.kind) ∧ w'.cell? ⟨gVX, 1, none⟩ = some (.int .i64 X.num) ∧ w'.cell? ⟨gVX, 2, none⟩ = some (.slice aVX X.kids.length cVX)))) _ := holdT hS1 hb7
          refine hK.out _ _ (ph_one (by kernel_rfl) hS1') ?_
          clear hK K hS1
          have hS1 := hS1'
          clear hS1'
          try simp only [Act.put, List.setIfInBounds_toArray, List.set_cons_zero, List.set_cons_succ]
          refine AnyTwo.takeAny HT12 (i := 3) (oi := { dst := some 70, op := _, type := _, pos := _, after := _, guard := _ }) (v := .bool false) rfl (by kernel_rfl) (by kernel_rfl) (by decide +kernel) (by rfl) (fun _ _ _ h => h) (Or.inl ⟨by rfl, ?yna3⟩) (ph_one (by kernel_rfl) hS1) ?rna3
          case yna3 => (intro w hSw; (try dsimp only at hSw); go_simp; try simp [*])
          try simp only [Act.put, List.setIfInBounds_toArray, List.set_cons_zero, List.set_cons_succ]
          refine AnyTwo.takeAny HT12 (i := 4) (oi := { dst := some 71, op := _, type := _, pos := _, after := _, guard := _ }) (v := ?vna4) rfl (by kernel_rfl) (by kernel_rfl) (by decide +kernel) (by rfl) (fun _ _ _ h => h) (Or.inl ⟨by rfl, ?yna4⟩) (ph_one (by kernel_rfl) hS1) ?rna4
          case yna4 => (intro w hSw; (try dsimp only at hSw); go_simp; try (with_reducible rfl))
          try simp only [Act.put, List.setIfInBounds_toArray, List.set_cons_zero, List.set_cons_succ]
          refine AnyTwo.takeAny HT12 (i := 5) (oi := { dst := some 72, op := _, type := _, pos := _, after := _, guard := _ }) (v := undef) rfl (by kernel_rfl) (by kernel_rfl) (by decide +kernel) (by rfl) (fun _ _ _ h => h) (Or.inr ⟨by rfl, rfl⟩) (ph_one (by kernel_rfl) hS1) ?rna5
          try simp only [Act.put, List.setIfInBounds_toArray, List.set_cons_zero, List.set_cons_succ]
          refine AnyTwo.takeAny HT12 (i := 6) (oi := { dst := some 73, op := _, type := _, pos := _, after := _, guard := _ }) (v := undef) rfl (by kernel_rfl) (by kernel_rfl) (by decide +kernel) (by rfl) (fun _ _ _ h => h) (Or.inr ⟨by rfl, rfl⟩) (ph_one (by kernel_rfl) hS1) ?rna6
          try simp only [Act.put, List.setIfInBounds_toArray, List.set_cons_zero, List.set_cons_succ]
          refine AnyTwo.takeAny HT12 (i := 8) (oi := { dst := some 75, op := _, type := _, pos := _, after := _, guard := _ }) (v := undef) rfl (by kernel_rfl) (by kernel_rfl) (by decide +kernel) (by rfl) (fun _ _ _ h => h) (Or.inr ⟨by rfl, rfl⟩) (ph_one (by kernel_rfl) hS1) ?rna7
          try simp only [Act.put, List.setIfInBounds_toArray, List.set_cons_zero, List.set_cons_succ]
          refine AnyTwo.takeAny HT12 (i := 9) (oi := { dst := some 76, op := _, type := _, pos := _, after := _, guard := _ }) (v := undef) rfl (by kernel_rfl) (by kernel_rfl) (by decide +kernel) (by rfl) (fun _ _ _ h => h) (Or.inr ⟨by rfl, rfl⟩) (ph_one (by kernel_rfl) hS1) ?rna8
          try simp only [Act.put, List.setIfInBounds_toArray, List.set_cons_zero, List.set_cons_succ]
          refine AnyTwo.step (i := 7) (o := { dst := some 74, op := _, type := _, pos := _, after := _, guard := _ }) (by kernel_rfl) rfl (fun K hK => ?_)
          go_simp
          refine hK.out _ _ (ph_one (by kernel_rfl) hS1) ?_
          clear hK K
          try simp only [Act.put, List.setIfInBounds_toArray, List.set_cons_zero, List.set_cons_succ]
          refine AnyTwo.step (i := 10) (o := { dst := some 77, op := _, type := _, pos := _, after := _, guard := _ }) (by kernel_rfl) rfl (fun K hK => ?_)
          go_simp
          refine hK.out _ _ (ph_one (by kernel_rfl) hS1) ?_
          clear hK K
          try simp only [Act.put, List.setIfInBounds_toArray, List.set_cons_zero, List.set_cons_succ]
          refine AnyTwo.takeAny HT12 (i := 11) (oi := { dst := some 78, op := _, type := _, pos := _, after := _, guard := _ }) (v := undef) rfl (by kernel_rfl) (by kernel_rfl) (by decide +kernel) (by rfl) (fun _ _ _ h => h) (Or.inr ⟨by rfl, rfl⟩) (ph_one (by kernel_rfl) hS1) ?rna9
          try simp only [Act.put, List.setIfInBounds_toArray, List.set_cons_zero, List.set_cons_succ]
          refine AnyTwo.step (i := 12) (o := { dst := some 79, op := _, type := _, pos := _, after := _, guard := _ }) (by kernel_rfl) rfl (fun K hK => ?_)
          go_simp
          refine hK.out _ _ (ph_end (by kernel_rfl) hS1) ?_
          clear hK K
          try simp only [Act.put, List.setIfInBounds_toArray, List.set_cons_zero, List.set_cons_succ]
          refine AnyTwo.done (by kernel_rfl) ?_ _
          clear HT12
          have hb : Below wr.heap.size wr _ := hold_be hS1
          replace HB := tuck (bAfter HB.out hb)
          replace V := tuck (V.out.below hb)
          replace VX := tuck (VX.out.below hb)
          clear hb hS1
          go_wp2_with fail
          go_roundw
          case rel => exact ⟨q + 1, by omega, by go_num, HB.out, V.out, VX.out⟩
          case measure => simp [intOf]; omega
      · skip
        rw [if_neg hle] at hk
        subst hk
        by_cases hc : 0 < C
        · have hcd : decide (0 < C) = true := by simpa using hc
          have HK2 := tuck (HCK.out hc)
          have hcn : (C != C) = false := by simp
          clear HCK
          obtain ⟨zV, c0V, c1V, c2V, cfV⟩ := V.out.facts
          obtain ⟨zVX, c0VX, c1VX, c2VX, cfVX⟩ := VX.out.facts
          go_wp2_with fail
          clear zV c0V c1V c2V cfV zVX c0VX c1VX c2VX cfVX
          have HT12 : ∀ w' : World, ((fun w' => Below wr.heap.size wr w' ∧ (gV < w'.heap.size ∧ w'.cell? ⟨gV, 0, none⟩ = some (.int .i64 T.kind) ∧ w'.cell? ⟨gV, 1, none⟩ = some (.int .i64 T.num) ∧ w'.cell? ⟨gV, 2, none⟩ = some (.slice aV T.kids.length cV)) ∧ (gVX < w'.heap.size ∧ w'.cell? ⟨gVX, 0, none⟩ = some (.int .i64 X.kind) ∧ w'.cell? ⟨gVX, 1, none⟩ = some (.int .i64 X.num) ∧ w'.cell? ⟨gVX, 2, none⟩ = some (.slice aVX X.kids.length cVX)))) w' → ((fun w' => Below wr.heap.size wr w' ∧ (gV < w'.heap.size ∧ w'.cell? ⟨gV, 0, none⟩ = some (.int .i64 T.kind) ∧ w'.cell? ⟨gV, 1, none⟩ = some (.int .i64 T.num) ∧ w'.cell? ⟨gV, 2, none⟩ = some (.slice aV T.kids.length cV)) ∧ (gVX < w'.heap.size ∧ w'.cell? ⟨gVX, 0, none⟩ = some (.int .i64 X.kind) ∧ w'.cell? ⟨gVX, 1, none⟩ = some (.int .i64 X.num) ∧ w'.cell? ⟨gVX, 2, none⟩ = some (.slice aVX X.kids.length cVX)))) w' := fun w' h => h
          refine AnyTwo.begin ((fun w' => Below wr.heap.size wr w' ∧ (gV < w'.heap.size ∧ w'.cell? ⟨gV, 0, none⟩ = some (.int .i64 T.kind) ∧ w'.cell? ⟨gV, 1, none⟩ = some (.int .i64 T.num) ∧ w'.cell? ⟨gV, 2, none⟩ = some (.slice aV T.kids.length cV)) ∧ (gVX < w'.heap.size ∧ w'.cell? ⟨gVX, 0, none⟩ = some (.int .i64 X.kind) ∧ w'.cell? ⟨gVX, 1, none⟩ = some (.int .i64 X.num) ∧ w'.cell? ⟨gVX, 2, none⟩ = some (.slice aVX X.kids.length cVX)))) ((fun w' => Below wr.heap.size wr w' ∧ (gV < w'.heap.size ∧ w'.cell? ⟨gV, 0, none⟩ = some (.int .i64 T.kind) ∧ w'.cell? ⟨gV, 1, none⟩ = some (.int .i64 T.num) ∧ w'.cell? ⟨gV, 2, none⟩ = some (.slice aV T.kids.length cV)) ∧ (gVX < w'.heap.size ∧ w'.cell? ⟨gVX, 0, none⟩ = some (.int .i64 X.kind) ∧ w'.cell? ⟨gVX, 1, none⟩ = some (.int .i64 X.num) ∧ w'.cell? ⟨gVX, 2, none⟩ = some (.slice aVX X.kids.length cVX)))) 12 (by kernel_rfl) ?_
          have hS1 : ((fun w' => Below wr.heap.size wr w' ∧ (gV < w'.heap.size ∧ w'.cell? ⟨gV, 0, none⟩ = some (.int .i64 T.kind) ∧ w'.cell? ⟨gV, 1, none⟩ = some (.int .i64 T.num) ∧ w'.cell? ⟨gV, 2, none⟩ = some (.slice aV T.kids.length cV)) ∧ (gVX < w'.heap.size ∧ w'.cell? ⟨gVX, 0, none⟩ = some (.int .i64 X.kind) ∧ w'.cell? ⟨gVX, 1, none⟩ = some (.int .i64 X.num) ∧ w'.cell? ⟨gVX, 2, none⟩ = some (.slice aVX X.kids.length cVX)))) _ := ⟨(Below.refl _ _).drew, V.out.var.four, VX.out.var.four⟩
          refine AnyTwo.takeAny HT12 (i := 0) (oi := { dst := some 67, op := _, type := _, pos := _, after := _, guard := _ }) (v := ?vpb1) rfl (by kernel_rfl) (by kernel_rfl) (by decide +kernel) (by rfl) (fun _ _ _ h => h) (Or.inl ⟨by rfl, ?ypb1⟩) (ph_one (by kernel_rfl) hS1) ?rpb1
          case ypb1 => (intro w hSw; (try dsimp only at hSw); go_simp; try (with_reducible rfl))
          try simp only [Act.put, List.setIfInBounds_toArray, List.set_cons_zero, List.set_cons_succ]
          refine AnyTwo.takeAny HT12 (i := 1) (oi := { dst := some 68, op := _, type := _, pos := _, after := _, guard := _ }) (v := ?vpb2) rfl (by kernel_rfl) (by kernel_rfl) (by decide +kernel) (by rfl) (fun _ _ _ h => h) (Or.inl ⟨by rfl, ?ypb2⟩) (ph_one (by kernel_rfl) hS1) ?rpb2
          case ypb2 => (intro w hSw; (try dsimp only at hSw); go_simp; try (with_reducible rfl))
          try simp only [Act.put, List.setIfInBounds_toArray, List.set_cons_zero, List.set_cons_succ]
          refine AnyTwo.step (i := 2) (o := { dst := some 69, op := _, type := _, pos := _, after := _, guard := _ }) (by kernel_rfl) rfl (fun K hK => ?_)
          go_simp
          refine (HCQ.out _ _ ⟨_, rfl, V.out.sl.below (hold_be hS1)⟩).mono ?_
          rintro e w7 ⟨rfl, hb7⟩
          have hS1' : ((fun w' => Below wr.heap.size wr w' ∧ (gV < w'.heap.size ∧ w'.cell? ⟨gV, 0, none⟩ = some (.int .i64 T.kind) ∧ w'.cell? ⟨gV, 1, none⟩ = some (.int .i64 T.num) ∧ w'.cell? ⟨gV, 2, none⟩ = some (.slice aV T.kids.length cV)) ∧ (gVX < w'.heap.size ∧ w'.cell? ⟨gVX, 0, none⟩ = some (.int .i64 X.kind) ∧ w'.cell? ⟨gVX, 1, none⟩ = some (.int .i64 X.num) ∧ w'.cell? ⟨gVX, 2, none⟩ = some (.slice aVX X.kids.length cVX)))) _ := holdT hS1 hb7
          refine hK.out _ _ (ph_one (by kernel_rfl) hS1') ?_
          clear hK K hS1
          have hS1 := hS1'
          clear hS1'
          try simp only [Act.put, List.setIfInBounds_toArray, List.set_cons_zero, List.set_cons_succ]
          refine AnyTwo.takeAny HT12 (i := 3) (oi := { dst := some 70, op := _, type := _, pos := _, after := _, guard := _ }) (v := .bool true) rfl (by kernel_rfl) (by kernel_rfl) (by decide +kernel) (by rfl) (fun _ _ _ h => h) (Or.inl ⟨by rfl, ?ypb3⟩) (ph_one (by kernel_rfl) hS1) ?rpb3
          case ypb3 => (intro w hSw; (try dsimp only at hSw); go_simp; try simp [*])
          try simp only [Act.put, List.setIfInBounds_toArray, List.set_cons_zero, List.set_cons_succ]
          refine AnyTwo.takeAny HT12 (i := 4) (oi := { dst := some 71, op := _, type := _, pos := _, after := _, guard := _ }) (v := ?vpb4) rfl (by kernel_rfl) (by kernel_rfl) (by decide +kernel) (by rfl) (fun _ _ _ h => h) (Or.inl ⟨by rfl, ?ypb4⟩) (ph_one (by kernel_rfl) hS1) ?rpb4
          case ypb4 => (intro w hSw; (try dsimp only at hSw); go_simp; try (with_reducible rfl))
          try simp only [Act.put, List.setIfInBounds_toArray, List.set_cons_zero, List.set_cons_succ]
          refine AnyTwo.takeAny HT12 (i := 5) (oi := { dst := some 72, op := _, type := _, pos := _, after := _, guard := _ }) (v := ?vpb5) rfl (by kernel_rfl) (by kernel_rfl) (by decide +kernel) (by rfl) (fun _ _ _ h => h) (Or.inl ⟨by rfl, ?ypb5⟩) (ph_one (by kernel_rfl) hS1) ?rpb5
          case ypb5 => (intro w hSw; (try dsimp only at hSw); go_simp; try (with_reducible rfl))
          try simp only [Act.put, List.setIfInBounds_toArray, List.set_cons_zero, List.set_cons_succ]
          refine AnyTwo.takeAny HT12 (i := 6) (oi := { dst := some 73, op := _, type := _, pos := _, after := _, guard := _ }) (v := ?vpb6) rfl (by kernel_rfl) (by kernel_rfl) (by decide +kernel) (by rfl) (fun _ _ _ h => h) (Or.inl ⟨by rfl, ?ypb6⟩) (ph_one (by kernel_rfl) hS1) ?rpb6
          case ypb6 => (intro w hSw; (try dsimp only at hSw); go_simp; try (with_reducible rfl))
          try simp only [Act.put, List.setIfInBounds_toArray, List.set_cons_zero, List.set_cons_succ]
          refine AnyTwo.takeAny HT12 (i := 8) (oi := { dst := some 75, op := _, type := _, pos := _, after := _, guard := _ }) (v := ?vpb7) rfl (by kernel_rfl) (by kernel_rfl) (by decide +kernel) (by rfl) (fun _ _ _ h => h) (Or.inl ⟨by rfl, ?ypb7⟩) (ph_one (by kernel_rfl) hS1) ?rpb7
          case ypb7 => (intro w hSw; (try dsimp only at hSw); go_simp; try (with_reducible rfl))
          try simp only [Act.put, List.setIfInBounds_toArray, List.set_cons_zero, List.set_cons_succ]
          refine AnyTwo.takeAny HT12 (i := 9) (oi := { dst := some 76, op := _, type := _, pos := _, after := _, guard := _ }) (v := ?vpb8) rfl (by kernel_rfl) (by kernel_rfl) (by decide +kernel) (by rfl) (fun _ _ _ h => h) (Or.inl ⟨by rfl, ?ypb8⟩) (ph_one (by kernel_rfl) hS1) ?rpb8
          case ypb8 => (intro w hSw; (try dsimp only at hSw); go_simp; try (with_reducible rfl))
          try simp only [Act.put, List.setIfInBounds_toArray, List.set_cons_zero, List.set_cons_succ]
          refine AnyTwo.step (i := 7) (o := { dst := some 74, op := _, type := _, pos := _, after := _, guard := _ }) (by kernel_rfl) rfl (fun K hK => ?_)
          go_simp
          refine (HK2.out _ _ ⟨_, rfl, VX.out.sl.below (hold_be hS1)⟩).mono ?_
          rintro e w7 ⟨rfl, hb7⟩
          have hS1' : ((fun w' => Below wr.heap.size wr w' ∧ (gV < w'.heap.size ∧ w'.cell? ⟨gV, 0, none⟩ = some (.int .i64 T.kind) ∧ w'.cell? ⟨gV, 1, none⟩ = some (.int .i64 T.num) ∧ w'.cell? ⟨gV, 2, none⟩ = some (.slice aV T.kids.length cV)) ∧ (gVX < w'.heap.size ∧ w'.cell? ⟨gVX, 0, none⟩ = some (.int .i64 X.kind) ∧ w'.cell? ⟨gVX, 1, none⟩ = some (.int .i64 X.num) ∧ w'.cell? ⟨gVX, 2, none⟩ = some (.slice aVX X.kids.length cVX)))) _ := holdT hS1 hb7
          refine hK.out _ _ (ph_one (by kernel_rfl) hS1') ?_
          clear hK K hS1
          have hS1 := hS1'
          clear hS1'
          try simp only [Act.put, List.setIfInBounds_toArray, List.set_cons_zero, List.set_cons_succ]
          refine AnyTwo.step (i := 10) (o := { dst := some 77, op := _, type := _, pos := _, after := _, guard := _ }) (by kernel_rfl) rfl (fun K hK => ?_)
          go_simp
          refine (HCQ.out _ _ ⟨_, rfl, V.out.sl.below (hold_be hS1)⟩).mono ?_
          rintro e w7 ⟨rfl, hb7⟩
          have hS1' : ((fun w' => Below wr.heap.size wr w' ∧ (gV < w'.heap.size ∧ w'.cell? ⟨gV, 0, none⟩ = some (.int .i64 T.kind) ∧ w'.cell? ⟨gV, 1, none⟩ = some (.int .i64 T.num) ∧ w'.cell? ⟨gV, 2, none⟩ = some (.slice aV T.kids.length cV)) ∧ (gVX < w'.heap.size ∧ w'.cell? ⟨gVX, 0, none⟩ = some (.int .i64 X.kind) ∧ w'.cell? ⟨gVX, 1, none⟩ = some (.int .i64 X.num) ∧ w'.cell? ⟨gVX, 2, none⟩ = some (.slice aVX X.kids.length cVX)))) _ := holdT hS1 hb7
          refine hK.out _ _ (ph_one (by kernel_rfl) hS1') ?_
          clear hK K hS1
          have hS1 := hS1'
          clear hS1'
          try simp only [Act.put, List.setIfInBounds_toArray, List.set_cons_zero, List.set_cons_succ]
          refine AnyTwo.takeAny HT12 (i := 11) (oi := { dst := some 78, op := _, type := _, pos := _, after := _, guard := _ }) (v := .bool false) rfl (by kernel_rfl) (by kernel_rfl) (by decide +kernel) (by rfl) (fun _ _ _ h => h) (Or.inl ⟨by rfl, ?ypb9⟩) (ph_one (by kernel_rfl) hS1) ?rpb9
          case ypb9 => (intro w hSw; (try dsimp only at hSw); go_simp; try simp [*])
          try simp only [Act.put, List.setIfInBounds_toArray, List.set_cons_zero, List.set_cons_succ]
          refine AnyTwo.step (i := 12) (o := { dst := some 79, op := _, type := _, pos := _, after := _, guard := _ }) (by kernel_rfl) rfl (fun K hK => ?_)
          go_simp
          refine hK.out _ _ (ph_end (by kernel_rfl) hS1) ?_
          clear hK K
          try simp only [Act.put, List.setIfInBounds_toArray, List.set_cons_zero, List.set_cons_succ]
          refine AnyTwo.done (by kernel_rfl) ?_ _
          clear HT12
          have hb : Below wr.heap.size wr _ := hold_be hS1
          replace HB := tuck (bAfter HB.out hb)
          replace V := tuck (V.out.below hb)
          replace VX := tuck (VX.out.below hb)
          clear hb hS1
          go_wp2_with fail
          go_roundw
          case rel => exact ⟨q + 1, by omega, by go_num, HB.out, V.out, VX.out⟩
          case measure => simp [intOf]; omega
        · have hcd : decide (0 < C) = false := by simpa using hc
          clear HCK
          obtain ⟨zV, c0V, c1V, c2V, cfV⟩ := V.out.facts
          obtain ⟨zVX, c0VX, c1VX, c2VX, cfVX⟩ := VX.out.facts
          go_wp2_with fail
          clear zV c0V c1V c2V cfV zVX c0VX c1VX c2VX cfVX
          have HT12 : ∀ w' : World, ((fun w' => Below wr.heap.size wr w' ∧ (gV < w'.heap.size ∧ w'.cell? ⟨gV, 0, none⟩ = some (.int .i64 T.kind) ∧ w'.cell? ⟨gV, 1, none⟩ = some (.int .i64 T.num) ∧ w'.cell? ⟨gV, 2, none⟩ = some (.slice aV T.kids.length cV)) ∧ (gVX < w'.heap.size ∧ w'.cell? ⟨gVX, 0, none⟩ = some (.int .i64 X.kind) ∧ w'.cell? ⟨gVX, 1, none⟩ = some (.int .i64 X.num) ∧ w'.cell? ⟨gVX, 2, none⟩ = some (.slice aVX X.kids.length cVX)))) w' → ((fun w' => Below wr.heap.size wr w' ∧ (gV < w'.heap.size ∧ w'.cell? ⟨gV, 0, none⟩ = some (.int .i64 T.kind) ∧ w'.cell? ⟨gV, 1, none⟩ = some (.int .i64 T.num) ∧ w'.cell? ⟨gV, 2, none⟩ = some (.slice aV T.kids.length cV)) ∧ (gVX < w'.heap.size ∧ w'.cell? ⟨gVX, 0, none⟩ = some (.int .i64 X.kind) ∧ w'.cell? ⟨gVX, 1, none⟩ = some (.int .i64 X.num) ∧ w'.cell? ⟨gVX, 2, none⟩ = some (.slice aVX X.kids.length cVX)))) w' := fun w' h => h
          refine AnyTwo.begin ((fun w' => Below wr.heap.size wr w' ∧ (gV < w'.heap.size ∧ w'.cell? ⟨gV, 0, none⟩ = some (.int .i64 T.kind) ∧ w'.cell? ⟨gV, 1, none⟩ = some (.int .i64 T.num) ∧ w'.cell? ⟨gV, 2, none⟩ = some (.slice aV T.kids.length cV)) ∧ (gVX < w'.heap.size ∧ w'.cell? ⟨gVX, 0, none⟩ = some (.int .i64 X.kind) ∧ w'.cell? ⟨gVX, 1, none⟩ = some (.int .i64 X.num) ∧ w'.cell? ⟨gVX, 2, none⟩ = some (.slice aVX X.kids.length cVX)))) ((fun w' => Below wr.heap.size wr w' ∧ (gV < w'.heap.size ∧ w'.cell? ⟨gV, 0, none⟩ = some (.int .i64 T.kind) ∧ w'.cell? ⟨gV, 1, none⟩ = some (.int .i64 T.num) ∧ w'.cell? ⟨gV, 2, none⟩ = some (.slice aV T.kids.length cV)) ∧ (gVX < w'.heap.size ∧ w'.cell? ⟨gVX, 0, none⟩ = some (.int .i64 X.kind) ∧ w'.cell? ⟨gVX, 1, none⟩ = some (.int .i64 X.num) ∧ w'.cell? ⟨gVX, 2, none⟩ = some (.slice aVX X.kids.length cVX)))) 12 (by kernel_rfl) ?_
          have hS1 : ((fun w' => Below wr.heap.size wr w' ∧ (gV < w'.heap.size ∧ w'.cell? ⟨gV, 0, none⟩ = some (.int .i64 T.kind) ∧ w'.cell? ⟨gV, 1, none⟩ = some (.int .i64 T.num) ∧ w'.cell? ⟨gV, 2, none⟩ = some (.slice aV T.kids.length cV)) ∧ (gVX < w'.heap.size ∧ w'.cell? ⟨gVX, 0, none⟩ = some (.int .i64 X.kind) ∧ w'.cell? ⟨gVX, 1, none⟩ = some (.int .i64 X.num) ∧ w'.cell? ⟨gVX, 2, none⟩ = some (.slice aVX X.kids.length cVX)))) _ := ⟨(Below.refl _ _).drew, V.out.var.four, VX.out.var.four⟩
          refine AnyTwo.takeAny HT12 (i := 0) (oi := { dst := some 67, op := _, type := _, pos := _, after := _, guard := _ }) (v := ?vnb1) rfl (by kernel_rfl) (by kernel_rfl) (by decide +kernel) (by rfl) (fun _ _ _ h => h) (Or.inl ⟨by rfl, ?ynb1⟩) (ph_one (by kernel_rfl) hS1) ?rnb1
          case ynb1 => (intro w hSw; (try dsimp only at hSw); go_simp; try (with_reducible rfl))
          try simp only [Act.put, List.setIfInBounds_toArray, List.set_cons_zero, List.set_cons_succ]
          refine AnyTwo.takeAny HT12 (i := 1) (oi := { dst := some 68, op := _, type := _, pos := _, after := _, guard := _ }) (v := ?vnb2) rfl (by kernel_rfl) (by kernel_rfl) (by decide +kernel) (by rfl) (fun _ _ _ h => h) (Or.inl ⟨by rfl, ?ynb2⟩) (ph_one (by kernel_rfl) hS1) ?rnb2
          case ynb2 => (intro w hSw; (try dsimp only at hSw); go_simp; try (with_reducible rfl))
          try simp only [Act.put, List.setIfInBounds_toArray, List.set_cons_zero, List.set_cons_succ]
          refine AnyTwo.step (i := 2) (o := { dst := some 69, op := _, type := _, pos := _, after := _, guard := _ }) (by kernel_rfl) rfl (fun K hK => ?_)
          go_simp
          refine (HCQ.out _ _ ⟨_, rfl, V.out.sl.below (hold_be hS1)⟩).mono ?_
          rintro e w7 ⟨rfl, hb7⟩
          have hS1' : ((fun w' => Below wr.heap.size wr w' ∧ (gV < w'.heap.size ∧ w'.cell? ⟨gV, 0, none⟩ = some (.int .i64 T.kind) ∧ w'.cell? ⟨gV, 1, none⟩ = some (.int .i64 T.num) ∧ w'.cell? ⟨gV, 2, none⟩ = some (.slice aV T.kids.length cV)) ∧ (gVX < w'.heap.size ∧ w'.cell? ⟨gVX, 0, none⟩ = some (.int .i64 X.kind) ∧ w'.cell? ⟨gVX, 1, none⟩ = some (.int .i64 X.num) ∧ w'.cell? ⟨gVX, 2, none⟩ = some (.slice aVX X.kids.length cVX)))) _ := holdT hS1 hb7
          refine hK.out _ _ (ph_one (by kernel_rfl) hS1') ?_
          clear hK K hS1
          have hS1 := hS1'
          clear hS1'
          try simp only [Act.put, List.setIfInBounds_toArray, List.set_cons_zero, List.set_cons_succ]
          refine AnyTwo.takeAny HT12 (i := 3) (oi := { dst := some 70, op := _, type := _, pos := _, after := _, guard := _ }) (v := .bool false) rfl (by kernel_rfl) (by kernel_rfl) (by decide +kernel) (by rfl) (fun _ _ _ h => h) (Or.inl ⟨by rfl, ?ynb3⟩) (ph_one (by kernel_rfl) hS1) ?rnb3
          case ynb3 => (intro w hSw; (try dsimp only at hSw); go_simp; try simp [*])
          try simp only [Act.put, List.setIfInBounds_toArray, List.set_cons_zero, List.set_cons_succ]
          refine AnyTwo.takeAny HT12 (i := 4) (oi := { dst := some 71, op := _, type := _, pos := _, after := _, guard := _ }) (v := ?vnb4) rfl (by kernel_rfl) (by kernel_rfl) (by decide +kernel) (by rfl) (fun _ _ _ h => h) (Or.inl ⟨by rfl, ?ynb4⟩) (ph_one (by kernel_rfl) hS1) ?rnb4
          case ynb4 => (intro w hSw; (try dsimp only at hSw); go_simp; try (with_reducible rfl))
          try simp only [Act.put, List.setIfInBounds_toArray, List.set_cons_zero, List.set_cons_succ]
          refine AnyTwo.takeAny HT12 (i := 5) (oi := { dst := some 72, op := _, type := _, pos := _, after := _, guard := _ }) (v := undef) rfl (by kernel_rfl) (by kernel_rfl) (by decide +kernel) (by rfl) (fun _ _ _ h => h) (Or.inr ⟨by rfl, rfl⟩) (ph_one (by kernel_rfl) hS1) ?rnb5
          try simp only [Act.put, List.setIfInBounds_toArray, List.set_cons_zero, List.set_cons_succ]
          refine AnyTwo.takeAny HT12 (i := 6) (oi := { dst := some 73, op := _, type := _, pos := _, after := _, guard := _ }) (v := undef) rfl (by kernel_rfl) (by kernel_rfl) (by decide +kernel) (by rfl) (fun _ _ _ h => h) (Or.inr ⟨by rfl, rfl⟩) (ph_one (by kernel_rfl) hS1) ?rnb6
          try simp only [Act.put, List.setIfInBounds_toArray, List.set_cons_zero, List.set_cons_succ]
          refine AnyTwo.takeAny HT12 (i := 8) (oi := { dst := some 75, op := _, type := _, pos := _, after := _, guard := _ }) (v := undef) rfl (by kernel_rfl) (by kernel_rfl) (by decide +kernel) (by rfl) (fun _ _ _ h => h) (Or.inr ⟨by rfl, rfl⟩) (ph_one (by kernel_rfl) hS1) ?rnb7
          try simp only [Act.put, List.setIfInBounds_toArray, List.set_cons_zero, List.set_cons_succ]
          refine AnyTwo.takeAny HT12 (i := 9) (oi := { dst := some 76, op := _, type := _, pos := _, after := _, guard := _ }) (v := undef) rfl (by kernel_rfl) (by kernel_rfl) (by decide +kernel) (by rfl) (fun _ _ _ h => h) (Or.inr ⟨by rfl, rfl⟩) (ph_one (by kernel_rfl) hS1) ?rnb8
          try simp only [Act.put, List.setIfInBounds_toArray, List.set_cons_zero, List.set_cons_succ]
          refine AnyTwo.step (i := 7) (o := { dst := some 74, op := _, type := _, pos := _, after := _, guard := _ }) (by kernel_rfl) rfl (fun K hK => ?_)
          go_simp
          refine hK.out _ _ (ph_one (by kernel_rfl) hS1) ?_
          clear hK K
          try simp only [Act.put, List.setIfInBounds_toArray, List.set_cons_zero, List.set_cons_succ]
          refine AnyTwo.step (i := 10) (o := { dst := some 77, op := _, type := _, pos := _, after := _, guard := _ }) (by kernel_rfl) rfl (fun K hK => ?_)
          go_simp
          refine hK.out _ _ (ph_one (by kernel_rfl) hS1) ?_
          clear hK K
          try simp only [Act.put, List.setIfInBounds_toArray, List.set_cons_zero, List.set_cons_succ]
          refine AnyTwo.takeAny HT12 (i := 11) (oi := { dst := some 78, op := _, type := _, pos := _, after := _, guard := _ }) (v := undef) rfl (by kernel_rfl) (by kernel_rfl) (by decide +kernel) (by rfl) (fun _ _ _ h => h) (Or.inr ⟨by rfl, rfl⟩) (ph_one (by kernel_rfl) hS1) ?rnb9
          try simp only [Act.put, List.setIfInBounds_toArray, List.set_cons_zero, List.set_cons_succ]
          refine AnyTwo.step (i := 12) (o := { dst := some 79, op := _, type := _, pos := _, after := _, guard := _ }) (by kernel_rfl) rfl (fun K hK => ?_)
          go_simp
          refine hK.out _ _ (ph_end (by kernel_rfl) hS1) ?_
          clear hK K
          try simp only [Act.put, List.setIfInBounds_toArray, List.set_cons_zero, List.set_cons_succ]
          refine AnyTwo.done (by kernel_rfl) ?_ _
          clear HT12
          have hb : Below wr.heap.size wr _ := hold_be hS1
          replace HB := tuck (bAfter HB.out hb)
          replace V := tuck (V.out.below hb)
          replace VX := tuck (VX.out.below hb)
          clear hb hS1
          go_wp2_with fail
          go_roundw
          case rel => exact ⟨q + 1, by omega, by go_num, HB.out, V.out, VX.out⟩
          case measure => simp [intOf]; omega
    · have hge2 : ¬ ((q : Int) ≤ 20) := by omega
      generalize nodesOf T = NN at *
      have hnn : (NN == NN) = true := by simp
      obtain ⟨zV, c0V, c1V, c2V, cfV⟩ := V.out.facts
      obtain ⟨zVX, c0VX, c1VX, c2VX, cfVX⟩ := VX.out.facts
      go_wp2_with fail
      clear zV c0V c1V c2V cfV zVX c0VX c1VX c2VX cfVX
      have HT12 : ∀ w' : World, ((fun w' => Below wr.heap.size wr w' ∧ (gV < w'.heap.size ∧ w'.cell? ⟨gV, 0, none⟩ = some (.int .i64 T.kind) ∧ w'.cell? ⟨gV, 1, none⟩ = some (.int .i64 T.num) ∧ w'.cell? ⟨gV, 2, none⟩ = some (.slice aV T.kids.length cV)) ∧ (gVX < w'.heap.size ∧ w'.cell? ⟨gVX, 0, none⟩ = some (.int .i64 X.kind) ∧ w'.cell? ⟨gVX, 1, none⟩ = some (.int .i64 X.num) ∧ w'.cell? ⟨gVX, 2, none⟩ = some (.slice aVX X.kids.length cVX)))) w' → ((fun w' => Below wr.heap.size wr w' ∧ (gV < w'.heap.size ∧ w'.cell? ⟨gV, 0, none⟩ = some (.int .i64 T.kind) ∧ w'.cell? ⟨gV, 1, none⟩ = some (.int .i64 T.num) ∧ w'.cell? ⟨gV, 2, none⟩ = some (.slice aV T.kids.length cV)) ∧ (gVX < w'.heap.size ∧ w'.cell? ⟨gVX, 0, none⟩ = some (.int .i64 X.kind) ∧ w'.cell? ⟨gVX, 1, none⟩ = some (.int .i64 X.num) ∧ w'.cell? ⟨gVX, 2, none⟩ = some (.slice aVX X.kids.length cVX)))) w' := fun w' h => h
      refine AnyTwo.begin ((fun w' => Below wr.heap.size wr w' ∧ (gV < w'.heap.size ∧ w'.cell? ⟨gV, 0, none⟩ = some (.int .i64 T.kind) ∧ w'.cell? ⟨gV, 1, none⟩ = some (.int .i64 T.num) ∧ w'.cell? ⟨gV, 2, none⟩ = some (.slice aV T.kids.length cV)) ∧ (gVX < w'.heap.size ∧ w'.cell? ⟨gVX, 0, none⟩ = some (.int .i64 X.kind) ∧ w'.cell? ⟨gVX, 1, none⟩ = some (.int .i64 X.num) ∧ w'.cell? ⟨gVX, 2, none⟩ = some (.slice aVX X.kids.length cVX)))) ((fun w' => Below wr.heap.size wr w' ∧ (gV < w'.heap.size ∧ w'.cell? ⟨gV, 0, none⟩ = some (.int .i64 T.kind) ∧ w'.cell? ⟨gV, 1, none⟩ = some (.int .i64 T.num) ∧ w'.cell? ⟨gV, 2, none⟩ = some (.slice aV T.kids.length cV)) ∧ (gVX < w'.heap.size ∧ w'.cell? ⟨gVX, 0, none⟩ = some (.int .i64 X.kind) ∧ w'.cell? ⟨gVX, 1, none⟩ = some (.int .i64 X.num) ∧ w'.cell? ⟨gVX, 2, none⟩ = some (.slice aVX X.kids.length cVX)))) 5 (by kernel_rfl) ?_
      have hS1 : ((fun w' => Below wr.heap.size wr w' ∧ (gV < w'.heap.size ∧ w'.cell? ⟨gV, 0, none⟩ = some (.int .i64 T.kind) ∧ w'.cell? ⟨gV, 1, none⟩ = some (.int .i64 T.num) ∧ w'.cell? ⟨gV, 2, none⟩ = some (.slice aV T.kids.length cV)) ∧ (gVX < w'.heap.size ∧ w'.cell? ⟨gVX, 0, none⟩ = some (.int .i64 X.kind) ∧ w'.cell? ⟨gVX, 1, none⟩ = some (.int .i64 X.num) ∧ w'.cell? ⟨gVX, 2, none⟩ = some (.slice aVX X.kids.length cVX)))) _ := ⟨(Below.refl _ _).drew, V.out.var.four, VX.out.var.four⟩
      refine AnyTwo.takeAny HT12 (i := 0) (oi := { dst := some 80, op := _, type := _, pos := _, after := _, guard := _ }) (v := ?vz1) rfl (by kernel_rfl) (by kernel_rfl) (by decide +kernel) (by rfl) (fun _ _ _ h => h) (Or.inl ⟨by rfl, ?yz1⟩) (ph_one (by kernel_rfl) hS1) ?rz1
      case yz1 => (intro w hSw; (try dsimp only at hSw); go_simp; try (with_reducible rfl))
      try simp only [Act.put, List.setIfInBounds_toArray, List.set_cons_zero, List.set_cons_succ]
      refine AnyTwo.takeAny HT12 (i := 2) (oi := { dst := some 82, op := _, type := _, pos := _, after := _, guard := _ }) (v := ?vz2) rfl (by kernel_rfl) (by kernel_rfl) (by decide +kernel) (by rfl) (fun _ _ _ h => h) (Or.inl ⟨by rfl, ?yz2⟩) (ph_one (by kernel_rfl) hS1) ?rz2
      case yz2 => (intro w hSw; (try dsimp only at hSw); go_simp; try (with_reducible rfl))
      try simp only [Act.put, List.setIfInBounds_toArray, List.set_cons_zero, List.set_cons_succ]
      refine AnyTwo.step (i := 1) (o := { dst := some 81, op := _, type := _, pos := _, after := _, guard := _ }) (by kernel_rfl) rfl (fun K hK => ?_)
      go_simp
      refine (HNX.out _ _ ⟨_, rfl, VX.out.sl.below (hold_be hS1)⟩).mono ?_
      rintro e w7 ⟨rfl, hb7⟩
      have hS1' : ((fun w' => Below wr.heap.size wr w' ∧ (gV < w'.heap.size ∧ w'.cell? ⟨gV, 0, none⟩ = some (.int .i64 T.kind) ∧ w'.cell? ⟨gV, 1, none⟩ = some (.int .i64 T.num) ∧ w'.cell? ⟨gV, 2, none⟩ = some (.slice aV T.kids.length cV)) ∧ (gVX < w'.heap.size ∧ w'.cell? ⟨gVX, 0, none⟩ = some (.int .i64 X.kind) ∧ w'.cell? ⟨gVX, 1, none⟩ = some (.int .i64 X.num) ∧ w'.cell? ⟨gVX, 2, none⟩ = some (.slice aVX X.kids.length cVX)))) _ := holdT hS1 hb7
      refine hK.out _ _ (ph_one (by kernel_rfl) hS1') ?_
      clear hK K hS1
      have hS1 := hS1'
      clear hS1'
      try simp only [Act.put, List.setIfInBounds_toArray, List.set_cons_zero, List.set_cons_succ]
      refine AnyTwo.step (i := 3) (o := { dst := some 83, op := _, type := _, pos := _, after := _, guard := _ }) (by kernel_rfl) rfl (fun K hK => ?_)
      go_simp
      refine (HNT.out _ _ ⟨_, rfl, V.out.sl.below (hold_be hS1)⟩).mono ?_
      rintro e w7 ⟨rfl, hb7⟩
      have hS1' : ((fun w' => Below wr.heap.size wr w' ∧ (gV < w'.heap.size ∧ w'.cell? ⟨gV, 0, none⟩ = some (.int .i64 T.kind) ∧ w'.cell? ⟨gV, 1, none⟩ = some (.int .i64 T.num) ∧ w'.cell? ⟨gV, 2, none⟩ = some (.slice aV T.kids.length cV)) ∧ (gVX < w'.heap.size ∧ w'.cell? ⟨gVX, 0, none⟩ = some (.int .i64 X.kind) ∧ w'.cell? ⟨gVX, 1, none⟩ = some (.int .i64 X.num) ∧ w'.cell? ⟨gVX, 2, none⟩ = some (.slice aVX X.kids.length cVX)))) _ := holdT hS1 hb7
      refine hK.out _ _ (ph_one (by kernel_rfl) hS1') ?_
      clear hK K hS1
      have hS1 := hS1'
      clear hS1'
      try simp only [Act.put, List.setIfInBounds_toArray, List.set_cons_zero, List.set_cons_succ]
      refine AnyTwo.takeAny HT12 (i := 4) (oi := { dst := some 84, op := _, type := _, pos := _, after := _, guard := _ }) (v := .bool true) rfl (by kernel_rfl) (by kernel_rfl) (by decide +kernel) (by rfl) (fun _ _ _ h => h) (Or.inl ⟨by rfl, ?yz3⟩) (ph_one (by kernel_rfl) hS1) ?rz3
      case yz3 => (intro w hSw; (try dsimp only at hSw); go_simp; try simp [*])
      try simp only [Act.put, List.setIfInBounds_toArray, List.set_cons_zero, List.set_cons_succ]
      refine AnyTwo.step (i := 5) (o := { dst := some 2, op := _, type := _, pos := _, after := _, guard := _ }) (by kernel_rfl) rfl (fun K hK => ?_)
      go_simp
      refine hK.out _ _ (ph_end (by kernel_rfl) hS1) ?_
      clear hK K
      try simp only [Act.put, List.setIfInBounds_toArray, List.set_cons_zero, List.set_cons_succ]
      refine AnyTwo.done (by kernel_rfl) ?_ _
      clear HT12
      have hb : Below wr.heap.size wr _ := hold_be hS1
      replace HB := tuck (bAfter HB.out hb)
      clear hb hS1
      go_wp2_with fail
      go_ret
      exact ⟨rfl, HB.out⟩

set_option maxRecDepth 100000 in
theorem lifted (os : Os) (started : os.Started) (H : Type) (enc : TypeId × Value → H) :
    ReturnsInHanded {} Try.checked os 4 .any (Rows.fnShiftFreeSpec.pre6 enc Try.prog Try.f4 Rows.fnShiftFreeRow.domain false) (Rows.fnShiftFreeSpec.post enc Try.prog Try.f4 false true false false) := by
  refine returnsInHanded_of_change (C := Try.checked) own started (by kernel_rfl) Try.func4
    (ChangeSpec.witness6 (enc := enc) (C := Try.checked) false ⟨#[], #[.slice none 0 0], []⟩ 8 (by kernel_rfl) (by kernel_rfl) (by kernel_rfl) (by kernel_rfl)) ?_
  intro W base args ds gs before hval0 hW hcnd _
  have hval : ∀ (j : Nat) t v, Try.f4.params[j]? = some t → args[j]? = some v → Value.okWide Try.prog W .any base t v := hval0
  have hW' := hW
  obtain ⟨p, q, hA0, hV, rfl, hfz, hnd⟩ := hW
  have hA : DataW.TrodAll enc Try.prog W 0 (fun _ => true) true Try.f4.params.toList args.toList ds p := hA0
  rw [Try.params4] at hA hval
  obtain ⟨v0, vs0, d0, ds0, p0, q0, hargs, rfl, rfl, h0, r0⟩ := trodAll_cons hA
  obtain ⟨rfl, rfl, rfl⟩ := trodAll_nil r0
  obtain rfl : args = #[v0] := by cases args; simp_all
  obtain ⟨U0, ad0, bb0, oo0, len0, cap0, rfl, hlc0, hcm0, hbl0, hby0⟩ := open_bytes (hval 0 22 v0 rfl rfl) h0
  refine (walk U0 ad0 bb0 oo0 len0 cap0 W hlc0 hcm0 hby0).mono fun e W' ⟨he, hb⟩ => ?_
  subst he
  exact ⟨_, rfl, law_post rfl rfl (fun gs h => by subst h; rfl) (by rw [Try.params4]; exact readable_FnShiftFree) laid hW' hb⟩

theorem over : Rows.fnShiftFreeRow.holds Try.pinned (OpenSpec.ofChange Rows.fnShiftFreeSpec) :=
  OpenClaim.holds_of_wide 4 Try.f4 rfl rfl rfl rfl rfl rfl rfl ⟨rfl, rfl, rfl, rfl, rfl⟩ rfl rfl rfl rfl rfl (by kernel_rfl) Try.func4 (by kernel_rfl)
    (of_decide_eq_true (by kernel_rfl)) (by unfold Func.isWrapper; first | (rw [if_pos (by decide +kernel)]; kernel_rfl) | (rw [if_neg (by decide +kernel)]; exact ⟨rfl, rfl⟩))
    (fun os started H enc _ => lifted os started H enc)

theorem proved : Rows.FnShiftFreeSaid :=
  over
end Go.Proofs.Ytmihfbopahoejaa.fnShiftFree
