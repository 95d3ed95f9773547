/-
  The law FnRenameShift: whatever the bytes, a shift is a renaming.
-/
import Derived.Test.YtmihfbopahoejaaDrawsB
import Derived.Test.YtmihfbopahoejaaVarsR
import Derived.Test.YtmihfbopahoejaaFree
import Derived.IntWalk
namespace Go.Proofs.Ytmihfbopahoejaa.fnRenameShift
open Go.ChangeShapes Go.WideShapes Go.ChangeAt Go.RowKit Go.Deep
set_option linter.unusedVariables false

theorem readable_FnRenameShift : ∀ t ∈ (#[22] : Array TypeId).toList, Try.prog.readableRec t = true ∧ t < Try.prog.types.size := by
  intro t ht
  simp at ht
  subst ht
  exact ⟨by kernel_rfl, of_decide_eq_true (by kernel_rfl)⟩
theorem laid : laidOutB Try.prog = true := by kernel_rfl

set_option maxRecDepth 100000 in
set_option maxHeartbeats 1600000 in
theorem walk (U : Nat → Int) (a : Option Addr) (b o len cap : Nat) (w : World) (hlc : len ≤ cap) (hcm : cap ≤ maxLen) (hby : Bytes U a b o len w) : Calls Try.prog 10 #[.slice a len cap] w fun e w' => e = .returned (.bool true) ∧ Below w.heap.size w w' := by
  unfold maxLen at hcm
  by_cases hl : 1048576 < len
  · have hl' : (1048576 : Int) < (len : Int) := by omega
    clear hby
    go_enter Try.func10, Try.ntmps10
    go_wp2
    go_ret
    exact ⟨rfl, Below.refl _ _⟩
  have hl' : ¬ (1048576 : Int) < (len : Int) := by omega
  have HD := tuck (dShiftTerm_any w (by omega) hlc hby)
  clear hby
  go_enter Try.func10, Try.ntmps10
  go_wp2_with fail
  refine HD.out.mono ?_
  rintro e w1 ⟨T, v, x, y0, rfl, ⟨s, rfl, hin⟩, hsz, -, hx1, hx0, hy0, hy1, hb⟩
  obtain ⟨aV, cV, rfl⟩ := hin.form
  have V := tuck (TV.new (hin.mono (Nat.zero_le _)))
  have HB := tuck (bAfter hb (below1 w1 (.cells #[.int .i64 T.kind, .int .i64 T.num, .slice aV T.kids.length cV] 25)))
  clear hin hb HD
  go_wp2_with fail
  generalize w1.alloc (.cells #[.int .i64 T.kind, .int .i64 T.num, .slice aV T.kids.length cV] 25) = U0 at *
  generalize w1.heap.size = gV at *
  by_cases hP : ShiftOk T x y0
  rotate_left
  · obtain ⟨X, hX⟩ : ∃ X, X = zeroT := ⟨_, rfl⟩
    have HIM : Hid (∀ (w : World) (v : Value), TmIn w 0 T v → Calls Try.prog 16 #[v, .int .i64 x, .int .i64 y0] w (PairPost w X false)) := fun w v h => by
      have h2 := shiftI_p T x y0 w v h
      rwa [orZero_no hP, tr_not hP, ← hX] at h2
    have HSP : Hid (∀ (w : World) (v : Value), TmIn w 0 T v → Calls Try.prog 17 #[v, .int .i64 x, .int .i64 y0] w (PairPost w X false)) := fun w v h => by
      have h2 := shiftS_p T x y0 w v h
      rwa [orZero_no hP, tr_not hP, ← hX] at h2
    have HTS : Hid (∀ (w : World) (v1 v2 : Value), TmIn w 0 X v1 → TmIn w 0 X v2 → Calls Try.prog 18 #[v1, v2] w (BoolPost w true)) := fun w v1 v2 h1 h2 => by rw [hX] at h1 h2; exact same_z w v1 v2 h1 h2
    clear hX hP
    refine (HIM.out _ _ V.out.tm).mono ?_
    rintro e u51 ⟨hb, vv, rfl, ss, rfl, hin⟩
    obtain ⟨aVX, cVX, rfl⟩ := hin.form
    replace V := tuck (V.out.below hb)
    replace HB := tuck (bAfter HB.out hb)
    have HNVX := tuck hin
    clear hb hin
    obtain ⟨zV, c0V, c1V, c2V, cfV⟩ := V.out.facts
    go_wp2_with fail
    clear zV c0V c1V c2V cfV
    have VX := tuck (TV.new HNVX.out)
    have hb := below1 u51 (.cells #[.int .i64 X.kind, .int .i64 X.num, .slice aVX X.kids.length cVX] 25)
    replace V := tuck (V.out.below hb)
    replace HB := tuck (bAfter HB.out hb)
    clear hb HNVX
    generalize u51.alloc (.cells #[.int .i64 X.kind, .int .i64 X.num, .slice aVX X.kids.length cVX] 25) = U51 at *
    generalize u51.heap.size = gVX at *
    refine (HSP.out _ _ V.out.tm).mono ?_
    rintro e u52 ⟨hb, vv, rfl, ss, rfl, hin⟩
    obtain ⟨aVW, cVW, rfl⟩ := hin.form
    replace V := tuck (V.out.below hb)
    replace VX := tuck (VX.out.below hb)
    replace HB := tuck (bAfter HB.out hb)
    have HNVW := tuck hin
    clear hb hin
    obtain ⟨zV, c0V, c1V, c2V, cfV⟩ := V.out.facts
    obtain ⟨zVX, c0VX, c1VX, c2VX, cfVX⟩ := VX.out.facts
    go_wp2_with fail
    clear zV c0V c1V c2V cfV zVX c0VX c1VX c2VX cfVX
    have VW := tuck (TV.new HNVW.out)
    have hb := below1 u52 (.cells #[.int .i64 X.kind, .int .i64 X.num, .slice aVW X.kids.length cVW] 25)
    replace V := tuck (V.out.below hb)
    replace VX := tuck (VX.out.below hb)
    replace HB := tuck (bAfter HB.out hb)
    clear hb HNVW
    generalize u52.alloc (.cells #[.int .i64 X.kind, .int .i64 X.num, .slice aVW X.kids.length cVW] 25) = U52 at *
    generalize u52.heap.size = gVW at *
    refine (HTS.out _ _ _ VX.out.tm VW.out.tm).mono ?_
    rintro e u53 ⟨rfl, hb⟩
    replace V := tuck (V.out.below hb)
    replace VX := tuck (VX.out.below hb)
    replace VW := tuck (VW.out.below hb)
    replace HB := tuck (bAfter HB.out hb)
    clear hb
    obtain ⟨zV, c0V, c1V, c2V, cfV⟩ := V.out.facts
    obtain ⟨zVX, c0VX, c1VX, c2VX, cfVX⟩ := VX.out.facts
    obtain ⟨zVW, c0VW, c1VW, c2VW, cfVW⟩ := VW.out.facts
    go_wp2_with fail
    refine (HTS.out _ _ _ VX.out.tm VW.out.tm).mono ?_
    rintro e u54 ⟨rfl, hb⟩
    clear zV c0V c1V c2V cfV zVX c0VX c1VX c2VX cfVX zVW c0VW c1VW c2VW cfVW
    replace V := tuck (V.out.below hb)
    replace VX := tuck (VX.out.below hb)
    replace VW := tuck (VW.out.below hb)
    replace HB := tuck (bAfter HB.out hb)
    clear hb
    obtain ⟨zV, c0V, c1V, c2V, cfV⟩ := V.out.facts
    obtain ⟨zVX, c0VX, c1VX, c2VX, cfVX⟩ := VX.out.facts
    obtain ⟨zVW, c0VW, c1VW, c2VW, cfVW⟩ := VW.out.facts
    go_wp2_with fail
    go_ret
    exact ⟨rfl, HB.out⟩
  obtain ⟨X, hX⟩ : ∃ X, X = T.shift x y0 := ⟨_, rfl⟩
  have HIM : Hid (∀ (w : World) (v : Value), TmIn w 0 T v → Calls Try.prog 16 #[v, .int .i64 x, .int .i64 y0] w (PairPost w X true)) := fun w v h => by
    have h2 := shiftI_p T x y0 w v h
    rwa [orZero_yes hP, tr_of hP, ← hX] at h2
  have HSP : Hid (∀ (w : World) (v : Value), TmIn w 0 T v → Calls Try.prog 17 #[v, .int .i64 x, .int .i64 y0] w (PairPost w X true)) := fun w v h => by
    have h2 := shiftS_p T x y0 w v h
    rwa [orZero_yes hP, tr_of hP, ← hX] at h2
  have hXV : X.Valid := hX ▸ hP.2.2.2.2.2.2
  have hTV : T.Valid := hP.1
  have HTS : Hid (∀ (w : World) (v1 v2 : Value), TmIn w 0 X v1 → TmIn w 0 X v2 → Calls Try.prog 18 #[v1, v2] w (BoolPost w true)) := same_v hXV
  have hx20 : -20 ≤ x ∧ x ≤ 20 := ⟨hP.2.1, hP.2.2.1⟩
  have HXV : Hid X.Valid := tuck hXV
  have HTV : Hid T.Valid := tuck hTV
  have HP : Hid (ShiftOk T x y0) := tuck hP
  have HX : Hid (X = T.shift x y0) := tuck hX
  clear hX hP hXV hTV
  refine (HIM.out _ _ V.out.tm).mono ?_
  rintro e u1 ⟨hb, vv, rfl, ss, rfl, hin⟩
  obtain ⟨aVX, cVX, rfl⟩ := hin.form
  replace V := tuck (V.out.below hb)
  replace HB := tuck (bAfter HB.out hb)
  have HNVX := tuck hin
  clear hb hin
  obtain ⟨zV, c0V, c1V, c2V, cfV⟩ := V.out.facts
  go_wp2_with fail
  clear zV c0V c1V c2V cfV
  have VX := tuck (TV.new HNVX.out)
  have hb := below1 u1 (.cells #[.int .i64 X.kind, .int .i64 X.num, .slice aVX X.kids.length cVX] 25)
  replace V := tuck (V.out.below hb)
  replace HB := tuck (bAfter HB.out hb)
  clear hb HNVX
  generalize u1.alloc (.cells #[.int .i64 X.kind, .int .i64 X.num, .slice aVX X.kids.length cVX] 25) = U1 at *
  generalize u1.heap.size = gVX at *
  refine (HSP.out _ _ V.out.tm).mono ?_
  rintro e u2 ⟨hb, vv, rfl, ss, rfl, hin⟩
  obtain ⟨aVW, cVW, rfl⟩ := hin.form
  replace V := tuck (V.out.below hb)
  replace VX := tuck (VX.out.below hb)
  replace HB := tuck (bAfter HB.out hb)
  have HNVW := tuck hin
  clear hb hin
  obtain ⟨zV, c0V, c1V, c2V, cfV⟩ := V.out.facts
  obtain ⟨zVX, c0VX, c1VX, c2VX, cfVX⟩ := VX.out.facts
  go_wp2_with fail
  clear zV c0V c1V c2V cfV zVX c0VX c1VX c2VX cfVX
  have VW := tuck (TV.new HNVW.out)
  have hb := below1 u2 (.cells #[.int .i64 X.kind, .int .i64 X.num, .slice aVW X.kids.length cVW] 25)
  replace V := tuck (V.out.below hb)
  replace VX := tuck (VX.out.below hb)
  replace HB := tuck (bAfter HB.out hb)
  clear hb HNVW
  generalize u2.alloc (.cells #[.int .i64 X.kind, .int .i64 X.num, .slice aVW X.kids.length cVW] 25) = U2 at *
  generalize u2.heap.size = gVW at *
  refine (HTS.out _ _ _ VX.out.tm VW.out.tm).mono ?_
  rintro e u3 ⟨rfl, hb⟩
  replace V := tuck (V.out.below hb)
  replace VX := tuck (VX.out.below hb)
  replace VW := tuck (VW.out.below hb)
  replace HB := tuck (bAfter HB.out hb)
  clear hb
  obtain ⟨m, hm⟩ : ∃ m : Nat, T.most 0 = m := ⟨(T.most 0).toNat, by have := T.most_ge 0; omega⟩
  have hm1 : m ≤ 21 := by have := most_valid HTV.out; omega
  have HMX : Hid (∀ (w : World) (v : Value), TmIn w 0 T v → Calls Try.prog 26 #[v] w (IntPost w m)) := fun w v h => by
    have h2 := maxFreeI_any T w v h
    rwa [show maxFreeOf T = m by unfold maxFreeOf; rw [if_pos HTV.out, hm]] at h2
  have hy20 : 0 ≤ y0 ∧ y0 ≤ 20 := ⟨HP.out.2.2.2.1, HP.out.2.2.2.2.1⟩
  obtain ⟨N, hN⟩ : ∃ N : Int → Int, N = fun i => if y0 ≤ i then i + x else i := ⟨_, rfl⟩
  have hren : T.rename N 0 = X := by
    rw [HX.out, Tm.rename_shift x y0 N hy20.1 T 0 (fun i _ _ => by rw [hN]), Int.add_zero]
  have HR : Hid ((∀ i : Nat, i < m → 0 ≤ N i ∧ N i ≤ 20) → ∀ (w : World) (v nv : Value), TmIn w 0 T v → Ints w 0 N m nv → Calls Try.prog 29 #[v, nv] w (PairPost w X true)) := fun hb w v nv h hn => by
    have hok : RenameOk T m N := ⟨HTV.out, hm1, hb, by omega, by rw [hren]; exact HXV.out⟩
    have h2 := renI_p T N m w v nv h hn
    rwa [orZero_yes hok, tr_of hok, hren] at h2
  have HNa : Hid (∀ q : Nat, y0 ≤ (q : Int) → N q = q + x) := tuck (fun q h => by rw [hN]; exact if_pos h)
  have HNb : Hid (∀ q : Nat, (q : Int) < y0 → N q = q) := tuck (fun q h => by rw [hN]; exact if_neg (by omega))
  clear hN hren hm
  obtain ⟨zV, c0V, c1V, c2V, cfV⟩ := V.out.facts
  obtain ⟨zVX, c0VX, c1VX, c2VX, cfVX⟩ := VX.out.facts
  obtain ⟨zVW, c0VW, c1VW, c2VW, cfVW⟩ := VW.out.facts
  go_wp2_with fail
  clear zV c0V c1V c2V cfV zVX c0VX c1VX c2VX cfVX zVW c0VW c1VW c2VW cfVW
  clear HIM HSP VW HP HX HXV
  have HB0 := tuck (below1 u3 (.cells #[] 3))
  have HO0 : Hid (OwnN u3.heap.size 0 N (.slice (some ⟨u3.heap.size, 0, none⟩) 0 0) (u3.alloc (.cells #[] 3))) := World.ownsRow_lit u3 #[] 0 (Nat.le_refl _) (by simp [maxLen]) (by simp)
  generalize u3.alloc (.cells #[] 3) = W0 at *
  go_loopw [10, 11] (fun v i wr => ∃ q : Nat, q ≤ m ∧ i = .int .i64 q ∧ (∀ i : Nat, i < q → 0 ≤ N i ∧ N i ≤ 20) ∧ OwnN u3.heap.size q N v wr ∧ Below u3.heap.size u3 wr) (fun _ i _ => m - (intOf i).toNat)
  case atStart => exact ⟨0, Nat.zero_le _, rfl, fun i h => absurd h (Nat.not_lt_zero _), HO0.out, HB0.out⟩
  case round =>
    obtain ⟨q, hq, rfl, hall, ho, hb⟩ := hrel
    have HALL := tuck hall
    have HO := tuck ho
    have HBR := tuck hb
    have VR := tuck (V.out.below hb)
    clear ho hb HO0 HB0 hall
    by_cases hlt : q < m
    · have hlti : ((q : Int) < (m : Int)) := by omega
      obtain ⟨z, c0, c1, c2, cf⟩ := VR.out.facts
      go_wp2_with fail
      refine (HMX.out _ _ VR.out.tm).mono ?_
      rintro e v1 ⟨rfl, hb⟩
      replace HO := tuck (HO.out.below hb)
      replace HBR := tuck (bAfter HBR.out hb)
      clear hb z c0 c1 c2 cf VR
      have hzb : u3.heap.size ≤ v1.heap.size := HBR.out.size
      obtain ⟨i0, hi, hz0, hz1, hz2⟩ := info_parts info_int
      by_cases hle : y0 ≤ (q : Int)
      · have hNq := HNa.out q hle
        by_cases h0 : (q : Int) + x < 0
        · have h0d : decide ((q : Int) + x < 0) = true := by simpa using h0
          clear hNq
          go_wp2_with fail
          go_ret
          exact ⟨rfl, bAfter HB.out HBR.out⟩
        have h0d : decide ((q : Int) + x < 0) = false := by simpa using h0
        by_cases h1 : 20 < (q : Int) + x
        · have h1d : decide (20 < (q : Int) + x) = true := by simpa using h1
          clear hNq
          go_wp2_with fail
          go_ret
          exact ⟨rfl, bAfter HB.out HBR.out⟩
        have h1d : decide (20 < (q : Int) + x) = false := by simpa using h1
        have HNQ := tuck hNq
        clear hNq
        go_wp2_with (at_builtin; refine wpList_append_own _ rfl _ _ 40 rfl u3.heap.size 3 i0 (.int .i64 0) 1 8 Try.underlying40 hi hz0 hz1 hz2 rfl (by decide) _ _ _ rfl (World.ownsRow.alloc HO.out _) ⟨_, 0, none⟩ 1 1 [.int .i64 ((q : Int) + x)] rfl rfl (cell_one_new _ _ _) (by intro u hu; simp at hu; subst hu; rfl) (by unfold maxLen; omega) (by omega) (by simp; omega) ?_; intro vN wN hownN hgrowN _)
        have HO' : Hid (OwnN u3.heap.size (q + 1) N vN wN) := OwnN.push (by rw [HNQ.out]; exact hownN)
        have HBR' : Hid (Below u3.heap.size u3 wN) := HO.out.after HBR.out hzb hgrowN
        clear hownN hgrowN
        go_wp2_with fail
        go_roundw
        case rel => exact ⟨q + 1, by omega, by go_num, (fun i hi => by
          by_cases e : i = q
          · subst e; rw [HNQ.out]; omega
          · exact HALL.out i (by omega)), HO'.out, HBR'.out⟩
        case measure => simp [intOf]; omega
      · have hNq := HNb.out q (by omega)
        have h0d : decide ((q : Int) < 0) = false := by simp
        have h1d : decide (20 < (q : Int)) = false := by simp; omega
        have HNQ := tuck hNq
        clear hNq
        go_wp2_with (at_builtin; refine wpList_append_own _ rfl _ _ 40 rfl u3.heap.size 3 i0 (.int .i64 0) 1 8 Try.underlying40 hi hz0 hz1 hz2 rfl (by decide) _ _ _ rfl (World.ownsRow.alloc HO.out _) ⟨_, 0, none⟩ 1 1 [.int .i64 ((q : Int))] rfl rfl (cell_one_new _ _ _) (by intro u hu; simp at hu; subst hu; rfl) (by unfold maxLen; omega) (by omega) (by simp; omega) ?_; intro vN wN hownN hgrowN _)
        have HO' : Hid (OwnN u3.heap.size (q + 1) N vN wN) := OwnN.push (by rw [HNQ.out]; exact hownN)
        have HBR' : Hid (Below u3.heap.size u3 wN) := HO.out.after HBR.out hzb hgrowN
        clear hownN hgrowN
        go_wp2_with fail
        go_roundw
        case rel => exact ⟨q + 1, by omega, by go_num, (fun i hi => by
          by_cases e : i = q
          · subst e; rw [HNQ.out]; omega
          · exact HALL.out i (by omega)), HO'.out, HBR'.out⟩
        case measure => simp [intOf]; omega
    · have hge2 : ¬ ((q : Int) < (m : Int)) := by omega
      have e : q = m := by omega
      subst e
      replace V := tuck (V.out.below HBR.out)
      replace VX := tuck (VX.out.below HBR.out)
      replace HB := tuck (bAfter HB.out HBR.out)
      have HNI := tuck HO.out.ints
      have HRR := tuck (HR.out HALL.out)
      clear HBR HO VR HR
      obtain ⟨zV, c0V, c1V, c2V, cfV⟩ := V.out.facts
      obtain ⟨zVX, c0VX, c1VX, c2VX, cfVX⟩ := VX.out.facts
      go_wp2_with fail
      refine (HMX.out _ _ V.out.tm).mono ?_
      rintro e u4 ⟨rfl, hb⟩
      clear zV c0V c1V c2V cfV zVX c0VX c1VX c2VX cfVX
      replace V := tuck (V.out.below hb)
      replace VX := tuck (VX.out.below hb)
      replace HNI := tuck (HNI.out.below hb)
      replace HB := tuck (bAfter HB.out hb)
      clear hb
      obtain ⟨zV, c0V, c1V, c2V, cfV⟩ := V.out.facts
      obtain ⟨zVX, c0VX, c1VX, c2VX, cfVX⟩ := VX.out.facts
      go_wp2_with fail
      refine (HRR.out _ _ _ V.out.tm HNI.out).mono ?_
      rintro e u5 ⟨hb, vv, rfl, ss, rfl, hin⟩
      obtain ⟨aVY, cVY, rfl⟩ := hin.form
      clear zV c0V c1V c2V cfV zVX c0VX c1VX c2VX cfVX
      replace V := tuck (V.out.below hb)
      replace VX := tuck (VX.out.below hb)
      replace HB := tuck (bAfter HB.out hb)
      have HNVY := tuck hin
      clear hb hin
      obtain ⟨zV, c0V, c1V, c2V, cfV⟩ := V.out.facts
      obtain ⟨zVX, c0VX, c1VX, c2VX, cfVX⟩ := VX.out.facts
      go_wp2_with fail
      clear zV c0V c1V c2V cfV zVX c0VX c1VX c2VX cfVX
      have VY := tuck (TV.new HNVY.out)
      have hb := below1 u5 (.cells #[.int .i64 X.kind, .int .i64 X.num, .slice aVY X.kids.length cVY] 25)
      replace V := tuck (V.out.below hb)
      replace VX := tuck (VX.out.below hb)
      replace HB := tuck (bAfter HB.out hb)
      clear hb HNVY
      generalize u5.alloc (.cells #[.int .i64 X.kind, .int .i64 X.num, .slice aVY X.kids.length cVY] 25) = U5 at *
      generalize u5.heap.size = gVY at *
      refine (HTS.out _ _ _ VY.out.tm VX.out.tm).mono ?_
      rintro e u6 ⟨rfl, hb⟩
      replace V := tuck (V.out.below hb)
      replace VX := tuck (VX.out.below hb)
      replace VY := tuck (VY.out.below hb)
      replace HB := tuck (bAfter HB.out hb)
      clear hb
      obtain ⟨zV, c0V, c1V, c2V, cfV⟩ := V.out.facts
      obtain ⟨zVX, c0VX, c1VX, c2VX, cfVX⟩ := VX.out.facts
      obtain ⟨zVY, c0VY, c1VY, c2VY, cfVY⟩ := VY.out.facts
      go_wp2_with fail
      go_ret
      exact ⟨rfl, HB.out⟩

set_option maxRecDepth 100000 in
theorem lifted (os : Os) (started : os.Started) (H : Type) (enc : TypeId × Value → H) :
    ReturnsInHanded {} Try.checked os 10 .any (Rows.fnRenameShiftSpec.pre6 enc Try.prog Try.f10 Rows.fnRenameShiftRow.domain false) (Rows.fnRenameShiftSpec.post enc Try.prog Try.f10 false true false false) := by
  refine returnsInHanded_of_change (C := Try.checked) own started (by kernel_rfl) Try.func10
    (ChangeSpec.witness6 (enc := enc) (C := Try.checked) false ⟨#[], #[.slice none 0 0], []⟩ 8 (by kernel_rfl) (by kernel_rfl) (by kernel_rfl) (by kernel_rfl)) ?_
  intro W base args ds gs before hval0 hW hcnd _
  have hval : ∀ (j : Nat) t v, Try.f10.params[j]? = some t → args[j]? = some v → Value.okWide Try.prog W .any base t v := hval0
  have hW' := hW
  obtain ⟨p, q, hA0, hV, rfl, hfz, hnd⟩ := hW
  have hA : DataW.TrodAll enc Try.prog W 0 (fun _ => true) true Try.f10.params.toList args.toList ds p := hA0
  rw [Try.params10] at hA hval
  obtain ⟨v0, vs0, d0, ds0, p0, q0, hargs, rfl, rfl, h0, r0⟩ := trodAll_cons hA
  obtain ⟨rfl, rfl, rfl⟩ := trodAll_nil r0
  obtain rfl : args = #[v0] := by cases args; simp_all
  obtain ⟨U0, ad0, bb0, oo0, len0, cap0, rfl, hlc0, hcm0, hbl0, hby0⟩ := open_bytes (hval 0 22 v0 rfl rfl) h0
  refine (walk U0 ad0 bb0 oo0 len0 cap0 W hlc0 hcm0 hby0).mono fun e W' ⟨he, hb⟩ => ?_
  subst he
  exact ⟨_, rfl, law_post rfl rfl (fun gs h => by subst h; rfl) (by rw [Try.params10]; exact readable_FnRenameShift) laid hW' hb⟩

theorem over : Rows.fnRenameShiftRow.holds Try.pinned (OpenSpec.ofChange Rows.fnRenameShiftSpec) :=
  OpenClaim.holds_of_wide 10 Try.f10 rfl rfl rfl rfl rfl rfl rfl ⟨rfl, rfl, rfl, rfl, rfl⟩ rfl rfl rfl rfl rfl (by kernel_rfl) Try.func10 (by kernel_rfl)
    (of_decide_eq_true (by kernel_rfl)) (by unfold Func.isWrapper; first | (rw [if_pos (by decide +kernel)]; kernel_rfl) | (rw [if_neg (by decide +kernel)]; exact ⟨rfl, rfl⟩))
    (fun os started H enc _ => lifted os started H enc)

theorem proved : Rows.FnRenameShiftSaid :=
  over
end Go.Proofs.Ytmihfbopahoejaa.fnRenameShift
