/-
  The law FnRenameTerm: whatever the bytes, renaming by two lists, one after the other, is renaming by their composition.
-/
import Derived.Test.YtmihfbopahoejaaDrawsD
import Derived.Test.YtmihfbopahoejaaVarsR
import Derived.Test.YtmihfbopahoejaaSpecR
import Derived.Test.YtmihfbopahoejaaFree
import Derived.Test.YtmihfbopahoejaaLawT
import Derived.Test.YtmihfbopahoejaaTwo
import Derived.IntWalk
namespace Go.Proofs.Ytmihfbopahoejaa.fnRenameTerm
open Go.ChangeShapes Go.WideShapes Go.ChangeAt Go.RowKit Go.Deep
set_option linter.unusedVariables false

theorem readable_FnRenameTerm : ∀ t ∈ (#[22, 22] : Array TypeId).toList, Try.prog.readableRec t = true ∧ t < Try.prog.types.size := by
  intro t ht
  simp at ht
  subst ht
  exact ⟨by kernel_rfl, of_decide_eq_true (by kernel_rfl)⟩
theorem laid : laidOutB Try.prog = true := by kernel_rfl

theorem renS_p (t : Tm) (N : Int → Int) (len : Nat) (w : World) (v nv : Value) (hlen : len ≤ 1048576) (h : TmIn w 0 t v) (hni : Ints w 0 N len nv) : Calls Try.prog 30 #[v, nv] w (PairPost w (orZero (RenameOk t len N) (t.rename N 0)) (tr (RenameOk t len N))) := (renS_any t N len w v nv hlen h hni).mono fun _ _ h => h.weak

set_option maxRecDepth 100000 in
set_option maxHeartbeats 6400000 in
theorem walk (U : Nat → Int) (a : Option Addr) (b o len cap : Nat) (w : World) (hlc : len ≤ cap) (hcm : cap ≤ maxLen) (hby : Bytes U a b o len w) (U2 : Nat → Int) (a2 : Option Addr) (b2 o2 len2 cap2 : Nat) (hlc2 : len2 ≤ cap2) (hcm2 : cap2 ≤ maxLen) (hby2 : Bytes U2 a2 b2 o2 len2 w) : Calls Try.prog 9 #[.slice a len cap, .slice a2 len2 cap2] w fun e w' => e = .returned (.bool true) ∧ Below w.heap.size w w' := by
  unfold maxLen at hcm hcm2
  by_cases hl : 1048576 < len
  · have hl' : (1048576 : Int) < (len : Int) := by omega
    clear hby hby2
    go_enter Try.func9, Try.ntmps9
    go_wp2
    go_ret
    exact ⟨rfl, Below.refl _ _⟩
  have hl' : ¬ (1048576 : Int) < (len : Int) := by omega
  by_cases hl3 : 1048576 < len2
  · have hl3' : (1048576 : Int) < (len2 : Int) := by omega
    clear hby hby2
    go_enter Try.func9, Try.ntmps9
    go_wp2
    go_ret
    exact ⟨rfl, Below.refl _ _⟩
  have hl3' : ¬ (1048576 : Int) < (len2 : Int) := by omega
  have HD := tuck (dRenameTerm_any w (by omega) hlc hby)
  clear hby hby2
  go_enter Try.func9, Try.ntmps9
  go_wp2_with fail
  refine HD.out.mono ?_
  rintro e w1 ⟨T, v, n, N, nv, rfl, ⟨s, rfl, hin⟩, hsz, hn22, hni, hb⟩
  obtain ⟨aV, cV, rfl⟩ := hin.form
  obtain ⟨na, nc, rfl⟩ := hni.form
  have V := tuck (TV.new hin)
  have HNI := tuck (hni.below (below1 w1 (.cells #[.int .i64 T.kind, .int .i64 T.num, .slice aV T.kids.length cV] 25)))
  have HB := tuck (bAfter hb (below1 w1 (.cells #[.int .i64 T.kind, .int .i64 T.num, .slice aV T.kids.length cV] 25)))
  clear hin hb HD hni
  go_wp2_with fail
  generalize w1.alloc (.cells #[.int .i64 T.kind, .int .i64 T.num, .slice aV T.kids.length cV] 25) = U0 at *
  generalize w1.heap.size = gV at *
  by_cases hP : RenameOk T n N
  rotate_left
  · obtain ⟨X, hX⟩ : ∃ X, X = zeroT := ⟨_, rfl⟩
    have HIM : Hid (∀ (w : World) (v nv : Value), TmIn w 0 T v → Ints w 0 N n nv → Calls Try.prog 29 #[v, nv] w (PairPost w X false)) := fun w v nv h h' => by
      have h2 := renI_p T N n w v nv h h'
      rwa [orZero_no hP, tr_not hP, ← hX] at h2
    have HSP : Hid (∀ (w : World) (v nv : Value), TmIn w 0 T v → Ints w 0 N n nv → Calls Try.prog 30 #[v, nv] w (PairPost w X false)) := fun w v nv h h' => by
      have h2 := renS_p T N n w v nv (by omega) h h'
      rwa [orZero_no hP, tr_not hP, ← hX] at h2
    have HTS : Hid (∀ (w : World) (v1 v2 : Value), TmIn w 0 X v1 → TmIn w 0 X v2 → Calls Try.prog 18 #[v1, v2] w (BoolPost w true)) := fun w v1 v2 h1 h2 => by rw [hX] at h1 h2; exact same_z w v1 v2 h1 h2
    clear hX hP
    refine (HIM.out _ _ _ V.out.tm HNI.out).mono ?_
    rintro e u51 ⟨hb, vv, rfl, ss, rfl, hin⟩
    obtain ⟨aVX, cVX, rfl⟩ := hin.form
    replace V := tuck (V.out.below hb)
    replace HNI := tuck (HNI.out.below hb)
    replace HB := tuck (bAfter HB.out hb)
    have HNVX := tuck hin
    clear hb hin
    obtain ⟨zV, c0V, c1V, c2V, cfV⟩ := V.out.facts
    go_wp2_with fail
    clear zV c0V c1V c2V cfV
    have VX := tuck (TV.new HNVX.out)
    have hb := below1 u51 (.cells #[.int .i64 X.kind, .int .i64 X.num, .slice aVX X.kids.length cVX] 25)
    replace V := tuck (V.out.below hb)
    replace HNI := tuck (HNI.out.below hb)
    replace HB := tuck (bAfter HB.out hb)
    clear hb HNVX
    generalize u51.alloc (.cells #[.int .i64 X.kind, .int .i64 X.num, .slice aVX X.kids.length cVX] 25) = U51 at *
    generalize u51.heap.size = gVX at *
    refine (HSP.out _ _ _ V.out.tm HNI.out).mono ?_
    rintro e u52 ⟨hb, vv, rfl, ss, rfl, hin⟩
    obtain ⟨aVW, cVW, rfl⟩ := hin.form
    replace V := tuck (V.out.below hb)
    replace VX := tuck (VX.out.below hb)
    replace HNI := tuck (HNI.out.below hb)
    replace HB := tuck (bAfter HB.out hb)
    have HNVW := tuck hin
    clear hb hin
    obtain ⟨zV, c0V, c1V, c2V, cfV⟩ := V.out.facts
    obtain ⟨zVX, c0VX, c1VX, c2VX, cfVX⟩ := VX.out.facts
    go_wp2_with fail
    clear zV c0V c1V c2V cfV zVX c0VX c1VX c2VX cfVX
    have VW := tuck (TV.new HNVW.out)
    have hb := below1 u52 (.cells #[.int .i64 X.kind, .int .i64 X.num, .slice aVW X.kids.length cVW] 25)
    replace V := tuck (V.out.below hb)
    replace VX := tuck (VX.out.below hb)
    replace HNI := tuck (HNI.out.below hb)
    replace HB := tuck (bAfter HB.out hb)
    clear hb HNVW
    generalize u52.alloc (.cells #[.int .i64 X.kind, .int .i64 X.num, .slice aVW X.kids.length cVW] 25) = U52 at *
    generalize u52.heap.size = gVW at *
    refine (HTS.out _ _ _ VX.out.tm VW.out.tm).mono ?_
    rintro e u53 ⟨rfl, hb⟩
    replace V := tuck (V.out.below hb)
    replace VX := tuck (VX.out.below hb)
    replace VW := tuck (VW.out.below hb)
    replace HNI := tuck (HNI.out.below hb)
    replace HB := tuck (bAfter HB.out hb)
    clear hb
    obtain ⟨zV, c0V, c1V, c2V, cfV⟩ := V.out.facts
    obtain ⟨zVX, c0VX, c1VX, c2VX, cfVX⟩ := VX.out.facts
    obtain ⟨zVW, c0VW, c1VW, c2VW, cfVW⟩ := VW.out.facts
    go_wp2_with fail
    refine (HTS.out _ _ _ VX.out.tm VW.out.tm).mono ?_
    rintro e u54 ⟨rfl, hb⟩
    clear zV c0V c1V c2V cfV zVX c0VX c1VX c2VX cfVX zVW c0VW c1VW c2VW cfVW
    replace V := tuck (V.out.below hb)
    replace VX := tuck (VX.out.below hb)
    replace VW := tuck (VW.out.below hb)
    replace HNI := tuck (HNI.out.below hb)
    replace HB := tuck (bAfter HB.out hb)
    clear hb
    obtain ⟨zV, c0V, c1V, c2V, cfV⟩ := V.out.facts
    obtain ⟨zVX, c0VX, c1VX, c2VX, cfVX⟩ := VX.out.facts
    obtain ⟨zVW, c0VW, c1VW, c2VW, cfVW⟩ := VW.out.facts
    go_wp2_with fail
    go_ret
    exact ⟨rfl, HB.out⟩
  obtain ⟨X, hX⟩ : ∃ X, X = T.rename N 0 := ⟨_, rfl⟩
  have HIM : Hid (∀ (w : World) (v nv : Value), TmIn w 0 T v → Ints w 0 N n nv → Calls Try.prog 29 #[v, nv] w (PairPost w X true)) := fun w v nv h h' => by
    have h2 := renI_p T N n w v nv h h'
    rwa [orZero_yes hP, tr_of hP, ← hX] at h2
  have HSP : Hid (∀ (w : World) (v nv : Value), TmIn w 0 T v → Ints w 0 N n nv → Calls Try.prog 30 #[v, nv] w (PairPost w X true)) := fun w v nv h h' => by
    have h2 := renS_p T N n w v nv (by omega) h h'
    rwa [orZero_yes hP, tr_of hP, ← hX] at h2
  have HTS : Hid (∀ (w : World) (v1 v2 : Value), TmIn w 0 X v1 → TmIn w 0 X v2 → Calls Try.prog 18 #[v1, v2] w (BoolPost w true)) := same_v (hX ▸ hP.2.2.2.2)
  obtain ⟨O, hO⟩ : ∃ O : Int → Int, O = fun i => (i * 5 + (len2 : Int)) % 7 := ⟨_, rfl⟩
  obtain ⟨C, hC⟩ : ∃ C : Int → Int, C = fun i => O (N i) := ⟨_, rfl⟩
  have hO6 : ∀ i, 0 ≤ O i ∧ O i ≤ 20 := fun i => by rw [hO]; show 0 ≤ (i * 5 + (len2 : Int)) % 7 ∧ (i * 5 + (len2 : Int)) % 7 ≤ 20; omega
  have HOV : Hid (∀ q : Nat, O q = ((q : Int) * 5 + (len2 : Int)) % 7) := tuck (fun q => by rw [hO])
  have HCV : Hid (∀ q : Nat, C q = O (N q)) := tuck (fun q => by rw [hC])
  have HNR : Hid (∀ q : Nat, q < n → 0 ≤ N q ∧ N q ≤ 20) := tuck hP.2.2.1
  have H1 := tuck (fun w v nv h h' => renI_p X O 21 w v nv h h')
  generalize hY : orZero (RenameOk X 21 O) (X.rename O 0) = Y at H1
  generalize hp : tr (RenameOk X 21 O) = p at H1
  have H2 := tuck (fun w v nv h h' => renI_p T C n w v nv h h')
  generalize hZ : orZero (RenameOk T n C) (T.rename C 0) = Z at H2
  generalize hq : tr (RenameOk T n C) = q1 at H2
  have HF : Hid (p = true → q1 = true ∧ Z = Y ∧ Y.Valid) := tuck (by
    rintro rfl
    have r1 := tr_iff.1 hp
    rw [orZero_yes r1] at hY
    have e : T.rename C 0 = Y := by
      rw [← hY, hX]
      refine (Tm.rename_rename N O C T 0 fun i h0 h1 => ?_).symm
      obtain ⟨k, rfl⟩ : ∃ k : Nat, i = k := ⟨i.toNat, by omega⟩
      exact ⟨(hP.2.2.1 k (by have := hP.2.2.2.1; omega)).1, by rw [hC]⟩
    have hYV : Y.Valid := hY ▸ r1.2.2.2.2
    have r2 : RenameOk T n C := ⟨hP.1, hP.2.1, fun i hi => by rw [hC]; exact hO6 _, hP.2.2.2.1, e ▸ hYV⟩
    exact ⟨by rw [← hq, tr_of r2], by rw [← hZ, orZero_yes r2, e], hYV⟩)
  have HXV : Hid X.Valid := tuck (hX ▸ hP.2.2.2.2)
  have HTV : Hid T.Valid := tuck hP.1
  have HNT : Hid (∀ (w : World) (v : Value), TmIn w 0 T v → Calls Try.prog 20 #[v] w (IntPost w (nodesOf T))) := fun w v h => nodesI_any T w v h
  have HNX : Hid (∀ (w : World) (v : Value), TmIn w 0 X v → Calls Try.prog 20 #[v] w (IntPost w (nodesOf T))) := fun w v h => by
    have h2 := nodesI_any X w v h
    rwa [show nodesOf X = nodesOf T by unfold nodesOf; rw [if_pos HXV.out, if_pos HTV.out, hX, Tm.rename_size]] at h2
  clear hY hp hZ hq hO6 hO hC hX hP
  refine (HIM.out _ _ _ V.out.tm HNI.out).mono ?_
  rintro e u1 ⟨hb, vv, rfl, ss, rfl, hin⟩
  obtain ⟨aVX, cVX, rfl⟩ := hin.form
  replace V := tuck (V.out.below hb)
  replace HNI := tuck (HNI.out.below hb)
  replace HB := tuck (bAfter HB.out hb)
  have HNVX := tuck hin
  clear hb hin
  obtain ⟨zV, c0V, c1V, c2V, cfV⟩ := V.out.facts
  go_wp2_with fail
  clear zV c0V c1V c2V cfV
  have VX := tuck (TV.new HNVX.out)
  have hb := below1 u1 (.cells #[.int .i64 X.kind, .int .i64 X.num, .slice aVX X.kids.length cVX] 25)
  replace V := tuck (V.out.below hb)
  replace HNI := tuck (HNI.out.below hb)
  replace HB := tuck (bAfter HB.out hb)
  clear hb HNVX
  generalize u1.alloc (.cells #[.int .i64 X.kind, .int .i64 X.num, .slice aVX X.kids.length cVX] 25) = U1 at *
  generalize u1.heap.size = gVX at *
  refine (HSP.out _ _ _ V.out.tm HNI.out).mono ?_
  rintro e u2 ⟨hb, vv, rfl, ss, rfl, hin⟩
  obtain ⟨aVW, cVW, rfl⟩ := hin.form
  replace V := tuck (V.out.below hb)
  replace VX := tuck (VX.out.below hb)
  replace HNI := tuck (HNI.out.below hb)
  replace HB := tuck (bAfter HB.out hb)
  have HNVW := tuck hin
  clear hb hin
  obtain ⟨zV, c0V, c1V, c2V, cfV⟩ := V.out.facts
  obtain ⟨zVX, c0VX, c1VX, c2VX, cfVX⟩ := VX.out.facts
  go_wp2_with fail
  clear zV c0V c1V c2V cfV zVX c0VX c1VX c2VX cfVX
  have VW := tuck (TV.new HNVW.out)
  have hb := below1 u2 (.cells #[.int .i64 X.kind, .int .i64 X.num, .slice aVW X.kids.length cVW] 25)
  replace V := tuck (V.out.below hb)
  replace VX := tuck (VX.out.below hb)
  replace HNI := tuck (HNI.out.below hb)
  replace HB := tuck (bAfter HB.out hb)
  clear hb HNVW
  generalize u2.alloc (.cells #[.int .i64 X.kind, .int .i64 X.num, .slice aVW X.kids.length cVW] 25) = U2 at *
  generalize u2.heap.size = gVW at *
  refine (HTS.out _ _ _ VX.out.tm VW.out.tm).mono ?_
  rintro e u3 ⟨rfl, hb⟩
  replace V := tuck (V.out.below hb)
  replace VX := tuck (VX.out.below hb)
  replace VW := tuck (VW.out.below hb)
  replace HNI := tuck (HNI.out.below hb)
  replace HB := tuck (bAfter HB.out hb)
  clear hb
  obtain ⟨zV, c0V, c1V, c2V, cfV⟩ := V.out.facts
  obtain ⟨zVX, c0VX, c1VX, c2VX, cfVX⟩ := VX.out.facts
  obtain ⟨zVW, c0VW, c1VW, c2VW, cfVW⟩ := VW.out.facts
  go_wp2_with fail
  clear zV c0V c1V c2V cfV zVX c0VX c1VX c2VX cfVX zVW c0VW c1VW c2VW cfVW
  clear HIM HSP HTS VW HXV HTV
  have HB0 := tuck (below1 u3 (.cells #[] 3))
  have HO0 : Hid (OwnN u3.heap.size 0 O (.slice (some ⟨u3.heap.size, 0, none⟩) 0 0) (u3.alloc (.cells #[] 3))) := World.ownsRow_lit u3 #[] 0 (Nat.le_refl _) (by simp [maxLen]) (by simp)
  generalize u3.alloc (.cells #[] 3) = W0 at *
  go_loopw [11, 12] (fun v i wr => ∃ q : Nat, q ≤ 21 ∧ i = .int .i64 q ∧ OwnN u3.heap.size q O v wr ∧ Below u3.heap.size u3 wr) (fun _ i _ => 21 - (intOf i).toNat)
  case atStart => exact ⟨0, Nat.zero_le _, rfl, HO0.out, HB0.out⟩
  case round =>
    obtain ⟨q, hq, rfl, ho, hb⟩ := hrel
    have HO := tuck ho
    have HBR := tuck hb
    clear ho hb HO0 HB0
    by_cases hlt : q ≤ 20
    · have hlti : ((q : Int) ≤ 20) := by omega
      have hzb : u3.heap.size ≤ wr.heap.size := HBR.out.size
      have hov := HOV.out q
      have HOQ := tuck hov
      clear hov
      obtain ⟨i0, hi, hz0, hz1, hz2⟩ := info_parts info_int
      go_wp2_with (at_builtin; refine wpList_append_own _ rfl _ _ 40 rfl u3.heap.size 3 i0 (.int .i64 0) 1 8 Try.underlying40 hi hz0 hz1 hz2 rfl (by decide) _ _ _ rfl (World.ownsRow.alloc HO.out _) ⟨_, 0, none⟩ 1 1 [.int .i64 (((q : Int) * 5 + (len2 : Int)) % 7)] rfl rfl (cell_one_new _ _ _) (by intro u hu; simp at hu; subst hu; rfl) (by unfold maxLen; omega) (by omega) (by simp; omega) ?_; intro vN wN hownN hgrowN _)
      have HO' : Hid (OwnN u3.heap.size (q + 1) O vN wN) := OwnN.push (by rw [HOQ.out]; exact hownN)
      have HBR' : Hid (Below u3.heap.size u3 wN) := HO.out.after HBR.out hzb hgrowN
      clear hownN hgrowN
      go_wp2_with fail
      go_roundw
      case rel => exact ⟨q + 1, by omega, by go_num, HO'.out, HBR'.out⟩
      case measure => simp [intOf]; omega
    · have hge2 : ¬ ((q : Int) ≤ 20) := by omega
      have e : q = 21 := by omega
      subst e
      replace V := tuck (V.out.below HBR.out)
      replace VX := tuck (VX.out.below HBR.out)
      replace HNI := tuck (HNI.out.below HBR.out)
      replace HB := tuck (bAfter HB.out HBR.out)
      obtain ⟨av, cv, rfl⟩ := HO.out.form
      have HOI := tuck HO.out.ints
      clear HBR HO hq
      go_wp2_with fail
      obtain ⟨wo, hwo⟩ : ∃ wo, wo = wr := ⟨_, rfl⟩
      subst hwo
      have HB1 := tuck (below1 wo (.cells #[] 3))
      have HC0 : Hid (OwnN wo.heap.size 0 C (.slice (some ⟨wo.heap.size, 0, none⟩) 0 0) (wo.alloc (.cells #[] 3))) := World.ownsRow_lit wo #[] 0 (Nat.le_refl _) (by simp [maxLen]) (by simp)
      generalize wo.alloc (.cells #[] 3) = W1 at *
      go_loopw [13, 14] (fun v i wr => ∃ q : Nat, q ≤ n ∧ i = .int .i64 q ∧ OwnN wo.heap.size q C v wr ∧ Below wo.heap.size wo wr) (fun _ i _ => n - (intOf i).toNat)
      case atStart => exact ⟨0, Nat.zero_le _, rfl, HC0.out, HB1.out⟩
      case round =>
        obtain ⟨q, hq, rfl, ho, hb⟩ := hrel
        have HC := tuck ho
        have HBR := tuck hb
        clear ho hb HC0 HB1
        by_cases hlt : q < n
        · have hlti : ((q : Int) < (n : Int)) := by omega
          have hzb : wo.heap.size ≤ wr.heap.size := HBR.out.size
          obtain ⟨a1, cp1, nb, no, e1, hp1, hcs⟩ := HNI.out
          injection e1 with e1 e2 e3
          subst e1 e3
          obtain ⟨rfl, -, hnb⟩ := hp1 (by omega)
          have c1 := (HBR.out.cell (p := ⟨nb, no + q, none⟩) hnb).trans (hcs q hlt)
          obtain ⟨k, hk⟩ : ∃ k : Nat, N q = k := ⟨(N q).toNat, by have := (HNR.out q hlt).1; omega⟩
          have hk20 : k ≤ 20 := by have := (HNR.out q hlt).2; omega
          rw [hk] at c1
          obtain ⟨a2', cp2, ob, oo, e4, hp2, hco⟩ := HOI.out
          injection e4 with e4 e5 e6
          subst e4 e6
          obtain ⟨rfl, -, hob⟩ := hp2 (by omega)
          have c2 := (HBR.out.cell (p := ⟨ob, oo + k, none⟩) hob).trans (hco k (by omega))
          obtain ⟨x, hx⟩ : ∃ x : Int, O k = x := ⟨_, rfl⟩
          rw [hx] at c2
          have HCQ : Hid (C q = x) := tuck (by rw [HCV.out q, hk, hx])
          have hk1 : (k : Int) < 21 := by omega
          have hk0 : (0 : Int) ≤ (k : Int) := by omega
          clear hcs hco hp1 hp2 hk hx
          obtain ⟨i0, hi, hz0, hz1, hz2⟩ := info_parts info_int
          go_wp2_with (at_builtin; refine wpList_append_own _ rfl _ _ 40 rfl wo.heap.size 3 i0 (.int .i64 0) 1 8 Try.underlying40 hi hz0 hz1 hz2 rfl (by decide) _ _ _ rfl (World.ownsRow.alloc HC.out _) ⟨_, 0, none⟩ 1 1 [.int .i64 x] rfl rfl (cell_one_new _ _ _) (by intro u hu; simp at hu; subst hu; rfl) (by unfold maxLen; omega) (by omega) (by simp; omega) ?_; intro vN wN hownN hgrowN _)
          have HC' : Hid (OwnN wo.heap.size (q + 1) C vN wN) := OwnN.push (by rw [HCQ.out]; exact hownN)
          have HBR' : Hid (Below wo.heap.size wo wN) := HC.out.after HBR.out hzb hgrowN
          clear hownN hgrowN c1 c2
          go_wp2_with fail
          go_roundw
          case rel => exact ⟨q + 1, by omega, by go_num, HC'.out, HBR'.out⟩
          case measure => simp [intOf]; omega
        · have hge2 : ¬ ((q : Int) < (n : Int)) := by omega
          have e : q = n := by omega
          subst e
          replace V := tuck (V.out.below HBR.out)
          replace VX := tuck (VX.out.below HBR.out)
          replace HOI := tuck (HOI.out.below HBR.out)
          replace HB := tuck (bAfter HB.out HBR.out)
          have HCI := tuck HC.out.ints
          clear HBR HC hq HNI
          obtain ⟨zV, c0V, c1V, c2V, cfV⟩ := V.out.facts
          obtain ⟨zVX, c0VX, c1VX, c2VX, cfVX⟩ := VX.out.facts
          go_wp2_with fail
          refine (H1.out _ _ _ VX.out.tm HOI.out).mono ?_
          rintro e u4 ⟨hb, vv, rfl, ss, rfl, hin⟩
          obtain ⟨aVY, cVY, rfl⟩ := hin.form
          clear zV c0V c1V c2V cfV zVX c0VX c1VX c2VX cfVX
          replace V := tuck (V.out.below hb)
          replace VX := tuck (VX.out.below hb)
          replace HOI := tuck (HOI.out.below hb)
          replace HCI := tuck (HCI.out.below hb)
          replace HB := tuck (bAfter HB.out hb)
          have HNVY := tuck hin
          clear hb hin
          obtain ⟨zV, c0V, c1V, c2V, cfV⟩ := V.out.facts
          obtain ⟨zVX, c0VX, c1VX, c2VX, cfVX⟩ := VX.out.facts
          go_wp2_with fail
          clear zV c0V c1V c2V cfV zVX c0VX c1VX c2VX cfVX
          have VY := tuck (TV.new HNVY.out)
          have hb := below1 u4 (.cells #[.int .i64 Y.kind, .int .i64 Y.num, .slice aVY Y.kids.length cVY] 25)
          replace V := tuck (V.out.below hb)
          replace VX := tuck (VX.out.below hb)
          replace HOI := tuck (HOI.out.below hb)
          replace HCI := tuck (HCI.out.below hb)
          replace HB := tuck (bAfter HB.out hb)
          clear hb HNVY
          generalize u4.alloc (.cells #[.int .i64 Y.kind, .int .i64 Y.num, .slice aVY Y.kids.length cVY] 25) = U4 at *
          generalize u4.heap.size = gVY at *
          refine (H2.out _ _ _ V.out.tm HCI.out).mono ?_
          rintro e u5 ⟨hb, vv, rfl, ss, rfl, hin⟩
          obtain ⟨aVZ, cVZ, rfl⟩ := hin.form
          replace V := tuck (V.out.below hb)
          replace VX := tuck (VX.out.below hb)
          replace VY := tuck (VY.out.below hb)
          replace HB := tuck (bAfter HB.out hb)
          have HNZ := tuck hin
          clear hb hin HOI HCI H1 H2 HNR HCV HOV
          obtain ⟨zV, c0V, c1V, c2V, cfV⟩ := V.out.facts
          obtain ⟨zVX, c0VX, c1VX, c2VX, cfVX⟩ := VX.out.facts
          obtain ⟨zVY, c0VY, c1VY, c2VY, cfVY⟩ := VY.out.facts
          go_wp2_with fail
          clear zV c0V c1V c2V cfV zVX c0VX c1VX c2VX cfVX zVY c0VY c1VY c2VY cfVY
          have VZ := tuck (TV.new HNZ.out)
          have hb := below1 u5 (.cells #[.int .i64 Z.kind, .int .i64 Z.num, .slice aVZ Z.kids.length cVZ] 25)
          replace V := tuck (V.out.below hb)
          replace VX := tuck (VX.out.below hb)
          replace VY := tuck (VY.out.below hb)
          replace HB := tuck (bAfter HB.out hb)
          clear hb HNZ
          generalize u5.alloc (.cells #[.int .i64 Z.kind, .int .i64 Z.num, .slice aVZ Z.kids.length cVZ] 25) = U7 at *
          generalize u5.heap.size = gVZ at *
          generalize nodesOf T = NN at *
          have hnn : (NN == NN) = true := by simp
          cases p
          · skip
            have HT12 : ∀ w' : World, ((fun w' => Below U7.heap.size U7 w' ∧ (gVX < w'.heap.size ∧ w'.cell? ⟨gVX, 0, none⟩ = some (.int .i64 X.kind) ∧ w'.cell? ⟨gVX, 1, none⟩ = some (.int .i64 X.num) ∧ w'.cell? ⟨gVX, 2, none⟩ = some (.slice aVX X.kids.length cVX)) ∧ (gV < w'.heap.size ∧ w'.cell? ⟨gV, 0, none⟩ = some (.int .i64 T.kind) ∧ w'.cell? ⟨gV, 1, none⟩ = some (.int .i64 T.num) ∧ w'.cell? ⟨gV, 2, none⟩ = some (.slice aV T.kids.length cV)) ∧ (gVY < w'.heap.size ∧ w'.cell? ⟨gVY, 0, none⟩ = some (.int .i64 Y.kind) ∧ w'.cell? ⟨gVY, 1, none⟩ = some (.int .i64 Y.num) ∧ w'.cell? ⟨gVY, 2, none⟩ = some (.slice aVY Y.kids.length cVY)) ∧ (gVZ < w'.heap.size ∧ w'.cell? ⟨gVZ, 0, none⟩ = some (.int .i64 Z.kind) ∧ w'.cell? ⟨gVZ, 1, none⟩ = some (.int .i64 Z.num) ∧ w'.cell? ⟨gVZ, 2, none⟩ = some (.slice aVZ Z.kids.length cVZ)))) w' → ((fun w' => Below U7.heap.size U7 w' ∧ (gVX < w'.heap.size ∧ w'.cell? ⟨gVX, 0, none⟩ = some (.int .i64 X.kind) ∧ w'.cell? ⟨gVX, 1, none⟩ = some (.int .i64 X.num) ∧ w'.cell? ⟨gVX, 2, none⟩ = some (.slice aVX X.kids.length cVX)) ∧ (gV < w'.heap.size ∧ w'.cell? ⟨gV, 0, none⟩ = some (.int .i64 T.kind) ∧ w'.cell? ⟨gV, 1, none⟩ = some (.int .i64 T.num) ∧ w'.cell? ⟨gV, 2, none⟩ = some (.slice aV T.kids.length cV)) ∧ (gVY < w'.heap.size ∧ w'.cell? ⟨gVY, 0, none⟩ = some (.int .i64 Y.kind) ∧ w'.cell? ⟨gVY, 1, none⟩ = some (.int .i64 Y.num) ∧ w'.cell? ⟨gVY, 2, none⟩ = some (.slice aVY Y.kids.length cVY)) ∧ (gVZ < w'.heap.size ∧ w'.cell? ⟨gVZ, 0, none⟩ = some (.int .i64 Z.kind) ∧ w'.cell? ⟨gVZ, 1, none⟩ = some (.int .i64 Z.num) ∧ w'.cell? ⟨gVZ, 2, none⟩ = some (.slice aVZ Z.kids.length cVZ)))) w' := fun w' h => h
            refine AnyTwo.begin ((fun w' => Below U7.heap.size U7 w' ∧ (gVX < w'.heap.size ∧ w'.cell? ⟨gVX, 0, none⟩ = some (.int .i64 X.kind) ∧ w'.cell? ⟨gVX, 1, none⟩ = some (.int .i64 X.num) ∧ w'.cell? ⟨gVX, 2, none⟩ = some (.slice aVX X.kids.length cVX)) ∧ (gV < w'.heap.size ∧ w'.cell? ⟨gV, 0, none⟩ = some (.int .i64 T.kind) ∧ w'.cell? ⟨gV, 1, none⟩ = some (.int .i64 T.num) ∧ w'.cell? ⟨gV, 2, none⟩ = some (.slice aV T.kids.length cV)) ∧ (gVY < w'.heap.size ∧ w'.cell? ⟨gVY, 0, none⟩ = some (.int .i64 Y.kind) ∧ w'.cell? ⟨gVY, 1, none⟩ = some (.int .i64 Y.num) ∧ w'.cell? ⟨gVY, 2, none⟩ = some (.slice aVY Y.kids.length cVY)) ∧ (gVZ < w'.heap.size ∧ w'.cell? ⟨gVZ, 0, none⟩ = some (.int .i64 Z.kind) ∧ w'.cell? ⟨gVZ, 1, none⟩ = some (.int .i64 Z.num) ∧ w'.cell? ⟨gVZ, 2, none⟩ = some (.slice aVZ Z.kids.length cVZ)))) ((fun w' => Below U7.heap.size U7 w' ∧ (gVX < w'.heap.size ∧ w'.cell? ⟨gVX, 0, none⟩ = some (.int .i64 X.kind) ∧ w'.cell? ⟨gVX, 1, none⟩ = some (.int .i64 X.num) ∧ w'.cell? ⟨gVX, 2, none⟩ = some (.slice aVX X.kids.length cVX)) ∧ (gV < w'.heap.size ∧ w'.cell? ⟨gV, 0, none⟩ = some (.int .i64 T.kind) ∧ w'.cell? ⟨gV, 1, none⟩ = some (.int .i64 T.num) ∧ w'.cell? ⟨gV, 2, none⟩ = some (.slice aV T.kids.length cV)) ∧ (gVY < w'.heap.size ∧ w'.cell? ⟨gVY, 0, none⟩ = some (.int .i64 Y.kind) ∧ w'.cell? ⟨gVY, 1, none⟩ = some (.int .i64 Y.num) ∧ w'.cell? ⟨gVY, 2, none⟩ = some (.slice aVY Y.kids.length cVY)) ∧ (gVZ < w'.heap.size ∧ w'.cell? ⟨gVZ, 0, none⟩ = some (.int .i64 Z.kind) ∧ w'.cell? ⟨gVZ, 1, none⟩ = some (.int .i64 Z.num) ∧ w'.cell? ⟨gVZ, 2, none⟩ = some (.slice aVZ Z.kids.length cVZ)))) 17 (by kernel_rfl) ?_
            have hS1 : ((fun w' => Below U7.heap.size U7 w' ∧ (gVX < w'.heap.size ∧ w'.cell? ⟨gVX, 0, none⟩ = some (.int .i64 X.kind) ∧ w'.cell? ⟨gVX, 1, none⟩ = some (.int .i64 X.num) ∧ w'.cell? ⟨gVX, 2, none⟩ = some (.slice aVX X.kids.length cVX)) ∧ (gV < w'.heap.size ∧ w'.cell? ⟨gV, 0, none⟩ = some (.int .i64 T.kind) ∧ w'.cell? ⟨gV, 1, none⟩ = some (.int .i64 T.num) ∧ w'.cell? ⟨gV, 2, none⟩ = some (.slice aV T.kids.length cV)) ∧ (gVY < w'.heap.size ∧ w'.cell? ⟨gVY, 0, none⟩ = some (.int .i64 Y.kind) ∧ w'.cell? ⟨gVY, 1, none⟩ = some (.int .i64 Y.num) ∧ w'.cell? ⟨gVY, 2, none⟩ = some (.slice aVY Y.kids.length cVY)) ∧ (gVZ < w'.heap.size ∧ w'.cell? ⟨gVZ, 0, none⟩ = some (.int .i64 Z.kind) ∧ w'.cell? ⟨gVZ, 1, none⟩ = some (.int .i64 Z.num) ∧ w'.cell? ⟨gVZ, 2, none⟩ = some (.slice aVZ Z.kids.length cVZ)))) _ := ⟨(Below.refl _ _).drew, VX.out.var.four, V.out.var.four, VY.out.var.four, VZ.out.var.four⟩
            refine AnyTwo.takeAny HT12 (i := 0) (oi := { dst := some 108, op := _, type := _, pos := _, after := _, guard := _ }) (v := ?vn1) rfl (by kernel_rfl) (by kernel_rfl) (by decide +kernel) (by rfl) (fun _ _ _ h => h) (Or.inl ⟨by rfl, ?yn1⟩) (ph_one (by kernel_rfl) hS1) ?rn1
            case yn1 => (intro w hSw; (try dsimp only at hSw); go_simp; try (with_reducible rfl))
            try simp only [Act.put, List.setIfInBounds_toArray, List.set_cons_zero, List.set_cons_succ]
            refine AnyTwo.takeAny HT12 (i := 2) (oi := { dst := some 110, op := _, type := _, pos := _, after := _, guard := _ }) (v := ?vn2) rfl (by kernel_rfl) (by kernel_rfl) (by decide +kernel) (by rfl) (fun _ _ _ h => h) (Or.inl ⟨by rfl, ?yn2⟩) (ph_one (by kernel_rfl) hS1) ?rn2
            case yn2 => (intro w hSw; (try dsimp only at hSw); go_simp; try (with_reducible rfl))
            try simp only [Act.put, List.setIfInBounds_toArray, List.set_cons_zero, List.set_cons_succ]
            refine AnyTwo.step (i := 1) (o := { dst := some 109, op := _, type := _, pos := _, after := _, guard := _ }) (by kernel_rfl) rfl (fun K hK => ?_)
            go_simp
            refine (HNX.out _ _ ⟨_, rfl, VX.out.sl.below hS1.1⟩).mono ?_
            rintro e w7 ⟨rfl, hb7⟩
            have hS1' : ((fun w' => Below U7.heap.size U7 w' ∧ (gVX < w'.heap.size ∧ w'.cell? ⟨gVX, 0, none⟩ = some (.int .i64 X.kind) ∧ w'.cell? ⟨gVX, 1, none⟩ = some (.int .i64 X.num) ∧ w'.cell? ⟨gVX, 2, none⟩ = some (.slice aVX X.kids.length cVX)) ∧ (gV < w'.heap.size ∧ w'.cell? ⟨gV, 0, none⟩ = some (.int .i64 T.kind) ∧ w'.cell? ⟨gV, 1, none⟩ = some (.int .i64 T.num) ∧ w'.cell? ⟨gV, 2, none⟩ = some (.slice aV T.kids.length cV)) ∧ (gVY < w'.heap.size ∧ w'.cell? ⟨gVY, 0, none⟩ = some (.int .i64 Y.kind) ∧ w'.cell? ⟨gVY, 1, none⟩ = some (.int .i64 Y.num) ∧ w'.cell? ⟨gVY, 2, none⟩ = some (.slice aVY Y.kids.length cVY)) ∧ (gVZ < w'.heap.size ∧ w'.cell? ⟨gVZ, 0, none⟩ = some (.int .i64 Z.kind) ∧ w'.cell? ⟨gVZ, 1, none⟩ = some (.int .i64 Z.num) ∧ w'.cell? ⟨gVZ, 2, none⟩ = some (.slice aVZ Z.kids.length cVZ)))) _ := ⟨bAfter hS1.1 hb7, BoxAt.below hS1.2.1 hb7, BoxAt.below hS1.2.2.1 hb7, BoxAt.below hS1.2.2.2.1 hb7, BoxAt.below hS1.2.2.2.2 hb7⟩
            refine hK.out _ _ (ph_one (by kernel_rfl) hS1') ?_
            clear hK K hS1
            have hS1 := hS1'
            clear hS1'
            try simp only [Act.put, List.setIfInBounds_toArray, List.set_cons_zero, List.set_cons_succ]
            refine AnyTwo.step (i := 3) (o := { dst := some 111, op := _, type := _, pos := _, after := _, guard := _ }) (by kernel_rfl) rfl (fun K hK => ?_)
            go_simp
            refine (HNT.out _ _ ⟨_, rfl, V.out.sl.below hS1.1⟩).mono ?_
            rintro e w7 ⟨rfl, hb7⟩
            have hS1' : ((fun w' => Below U7.heap.size U7 w' ∧ (gVX < w'.heap.size ∧ w'.cell? ⟨gVX, 0, none⟩ = some (.int .i64 X.kind) ∧ w'.cell? ⟨gVX, 1, none⟩ = some (.int .i64 X.num) ∧ w'.cell? ⟨gVX, 2, none⟩ = some (.slice aVX X.kids.length cVX)) ∧ (gV < w'.heap.size ∧ w'.cell? ⟨gV, 0, none⟩ = some (.int .i64 T.kind) ∧ w'.cell? ⟨gV, 1, none⟩ = some (.int .i64 T.num) ∧ w'.cell? ⟨gV, 2, none⟩ = some (.slice aV T.kids.length cV)) ∧ (gVY < w'.heap.size ∧ w'.cell? ⟨gVY, 0, none⟩ = some (.int .i64 Y.kind) ∧ w'.cell? ⟨gVY, 1, none⟩ = some (.int .i64 Y.num) ∧ w'.cell? ⟨gVY, 2, none⟩ = some (.slice aVY Y.kids.length cVY)) ∧ (gVZ < w'.heap.size ∧ w'.cell? ⟨gVZ, 0, none⟩ = some (.int .i64 Z.kind) ∧ w'.cell? ⟨gVZ, 1, none⟩ = some (.int .i64 Z.num) ∧ w'.cell? ⟨gVZ, 2, none⟩ = some (.slice aVZ Z.kids.length cVZ)))) _ := ⟨bAfter hS1.1 hb7, BoxAt.below hS1.2.1 hb7, BoxAt.below hS1.2.2.1 hb7, BoxAt.below hS1.2.2.2.1 hb7, BoxAt.below hS1.2.2.2.2 hb7⟩
            refine hK.out _ _ (ph_one (by kernel_rfl) hS1') ?_
            clear hK K hS1
            have hS1 := hS1'
            clear hS1'
            try simp only [Act.put, List.setIfInBounds_toArray, List.set_cons_zero, List.set_cons_succ]
            refine AnyTwo.takeAny HT12 (i := 4) (oi := { dst := some 112, op := _, type := _, pos := _, after := _, guard := _ }) (v := .bool true) rfl (by kernel_rfl) (by kernel_rfl) (by decide +kernel) (by rfl) (fun _ _ _ h => h) (Or.inl ⟨by rfl, ?yn3⟩) (ph_one (by kernel_rfl) hS1) ?rn3
            case yn3 => (intro w hSw; (try dsimp only at hSw); go_simp; try simp [*])
            try simp only [Act.put, List.setIfInBounds_toArray, List.set_cons_zero, List.set_cons_succ]
            refine AnyTwo.takeAny HT12 (i := 5) (oi := { dst := some 113, op := _, type := _, pos := _, after := _, guard := _ }) (v := ?vn4) rfl (by kernel_rfl) (by kernel_rfl) (by decide +kernel) (by rfl) (fun _ _ _ h => h) (Or.inl ⟨by rfl, ?yn4⟩) (ph_one (by kernel_rfl) hS1) ?rn4
            case yn4 => (intro w hSw; (try dsimp only at hSw); go_simp; try (with_reducible rfl))
            try simp only [Act.put, List.setIfInBounds_toArray, List.set_cons_zero, List.set_cons_succ]
            refine AnyTwo.takeAny HT12 (i := 6) (oi := { dst := some 114, op := _, type := _, pos := _, after := _, guard := _ }) (v := ?vn5) rfl (by kernel_rfl) (by kernel_rfl) (by decide +kernel) (by rfl) (fun _ _ _ h => h) (Or.inl ⟨by rfl, ?yn5⟩) (ph_one (by kernel_rfl) hS1) ?rn5
            case yn5 => (intro w hSw; (try dsimp only at hSw); go_simp; try (with_reducible rfl))
            try simp only [Act.put, List.setIfInBounds_toArray, List.set_cons_zero, List.set_cons_succ]
            refine AnyTwo.takeAny HT12 (i := 7) (oi := { dst := some 115, op := _, type := _, pos := _, after := _, guard := _ }) (v := ?vn6) rfl (by kernel_rfl) (by kernel_rfl) (by decide +kernel) (by rfl) (fun _ _ _ h => h) (Or.inl ⟨by rfl, ?yn6⟩) (ph_one (by kernel_rfl) hS1) ?rn6
            case yn6 => (intro w hSw; (try dsimp only at hSw); go_simp; try (with_reducible rfl))
            try simp only [Act.put, List.setIfInBounds_toArray, List.set_cons_zero, List.set_cons_succ]
            refine AnyTwo.takeAny HT12 (i := 8) (oi := { dst := some 116, op := _, type := _, pos := _, after := _, guard := _ }) (v := ?vn7) rfl (by kernel_rfl) (by kernel_rfl) (by decide +kernel) (by rfl) (fun _ _ _ h => h) (Or.inl ⟨by rfl, ?yn7⟩) (ph_one (by kernel_rfl) hS1) ?rn7
            case yn7 => (intro w hSw; (try dsimp only at hSw); go_simp; try (with_reducible rfl))
            try simp only [Act.put, List.setIfInBounds_toArray, List.set_cons_zero, List.set_cons_succ]
            refine AnyTwo.takeAny HT12 (i := 9) (oi := { dst := some 117, op := _, type := _, pos := _, after := _, guard := _ }) (v := undef) rfl (by kernel_rfl) (by kernel_rfl) (by decide +kernel) (by rfl) (fun _ _ _ h => h) (Or.inr ⟨by rfl, rfl⟩) (ph_one (by kernel_rfl) hS1) ?rn8
            try simp only [Act.put, List.setIfInBounds_toArray, List.set_cons_zero, List.set_cons_succ]
            refine AnyTwo.takeAny HT12 (i := 10) (oi := { dst := some 118, op := _, type := _, pos := _, after := _, guard := _ }) (v := undef) rfl (by kernel_rfl) (by kernel_rfl) (by decide +kernel) (by rfl) (fun _ _ _ h => h) (Or.inr ⟨by rfl, rfl⟩) (ph_one (by kernel_rfl) hS1) ?rn9
            try simp only [Act.put, List.setIfInBounds_toArray, List.set_cons_zero, List.set_cons_succ]
            refine AnyTwo.takeAny HT12 (i := 11) (oi := { dst := some 119, op := _, type := _, pos := _, after := _, guard := _ }) (v := undef) rfl (by kernel_rfl) (by kernel_rfl) (by decide +kernel) (by rfl) (fun _ _ _ h => h) (Or.inr ⟨by rfl, rfl⟩) (ph_one (by kernel_rfl) hS1) ?rn10
            try simp only [Act.put, List.setIfInBounds_toArray, List.set_cons_zero, List.set_cons_succ]
            refine AnyTwo.takeAny HT12 (i := 12) (oi := { dst := some 120, op := _, type := _, pos := _, after := _, guard := _ }) (v := undef) rfl (by kernel_rfl) (by kernel_rfl) (by decide +kernel) (by rfl) (fun _ _ _ h => h) (Or.inr ⟨by rfl, rfl⟩) (ph_one (by kernel_rfl) hS1) ?rn11
            try simp only [Act.put, List.setIfInBounds_toArray, List.set_cons_zero, List.set_cons_succ]
            refine AnyTwo.step (i := 13) (o := { dst := some 121, op := _, type := _, pos := _, after := _, guard := _ }) (by kernel_rfl) rfl (fun K hK => ?_)
            go_simp
            refine hK.out _ _ (ph_one (by kernel_rfl) hS1) ?_
            clear hK K
            try simp only [Act.put, List.setIfInBounds_toArray, List.set_cons_zero, List.set_cons_succ]
            refine AnyTwo.takeAny HT12 (i := 14) (oi := { dst := some 122, op := _, type := _, pos := _, after := _, guard := _ }) (v := undef) rfl (by kernel_rfl) (by kernel_rfl) (by decide +kernel) (by rfl) (fun _ _ _ h => h) (Or.inr ⟨by rfl, rfl⟩) (ph_one (by kernel_rfl) hS1) ?rn12
            try simp only [Act.put, List.setIfInBounds_toArray, List.set_cons_zero, List.set_cons_succ]
            refine AnyTwo.takeAny HT12 (i := 15) (oi := { dst := some 123, op := _, type := _, pos := _, after := _, guard := _ }) (v := ?vn13) rfl (by kernel_rfl) (by kernel_rfl) (by decide +kernel) (by rfl) (fun _ _ _ h => h) (Or.inl ⟨by rfl, ?yn13⟩) (ph_one (by kernel_rfl) hS1) ?rn13
            case yn13 => (intro w hSw; (try dsimp only at hSw); go_simp; try (with_reducible rfl))
            try simp only [Act.put, List.setIfInBounds_toArray, List.set_cons_zero, List.set_cons_succ]
            refine AnyTwo.takeAny HT12 (i := 16) (oi := { dst := some 124, op := _, type := _, pos := _, after := _, guard := _ }) (v := ?vn14) rfl (by kernel_rfl) (by kernel_rfl) (by decide +kernel) (by rfl) (fun _ _ _ h => h) (Or.inl ⟨by rfl, ?yn14⟩) (ph_one (by kernel_rfl) hS1) ?rn14
            case yn14 => (intro w hSw; (try dsimp only at hSw); go_simp; try (with_reducible rfl))
            try simp only [Act.put, List.setIfInBounds_toArray, List.set_cons_zero, List.set_cons_succ]
            refine AnyTwo.step (i := 17) (o := { dst := some 4, op := _, type := _, pos := _, after := _, guard := _ }) (by kernel_rfl) rfl (fun K hK => ?_)
            go_simp
            refine hK.out _ _ (ph_end (by kernel_rfl) hS1) ?_
            clear hK K
            try simp only [Act.put, List.setIfInBounds_toArray, List.set_cons_zero, List.set_cons_succ]
            refine AnyTwo.done (by kernel_rfl) ?_ _
            clear HT12
            have hb := hS1.1
            replace HB := tuck (bAfter HB.out hb)
            clear hb hS1
            go_wp2_with fail
            go_ret
            exact ⟨rfl, HB.out⟩
          obtain ⟨rfl, hZY, hYV⟩ := HF.out rfl
          subst hZY
          have HTT : Hid (∀ (w : World) (v1 v2 : Value), TmIn w 0 Z v1 → TmIn w 0 Z v2 → Calls Try.prog 18 #[v1, v2] w (BoolPost w true)) := same_v hYV
          clear hYV HF
          have HT12 : ∀ w' : World, ((fun w' => Below U7.heap.size U7 w' ∧ (gVX < w'.heap.size ∧ w'.cell? ⟨gVX, 0, none⟩ = some (.int .i64 X.kind) ∧ w'.cell? ⟨gVX, 1, none⟩ = some (.int .i64 X.num) ∧ w'.cell? ⟨gVX, 2, none⟩ = some (.slice aVX X.kids.length cVX)) ∧ (gV < w'.heap.size ∧ w'.cell? ⟨gV, 0, none⟩ = some (.int .i64 T.kind) ∧ w'.cell? ⟨gV, 1, none⟩ = some (.int .i64 T.num) ∧ w'.cell? ⟨gV, 2, none⟩ = some (.slice aV T.kids.length cV)) ∧ (gVY < w'.heap.size ∧ w'.cell? ⟨gVY, 0, none⟩ = some (.int .i64 Z.kind) ∧ w'.cell? ⟨gVY, 1, none⟩ = some (.int .i64 Z.num) ∧ w'.cell? ⟨gVY, 2, none⟩ = some (.slice aVY Z.kids.length cVY)) ∧ (gVZ < w'.heap.size ∧ w'.cell? ⟨gVZ, 0, none⟩ = some (.int .i64 Z.kind) ∧ w'.cell? ⟨gVZ, 1, none⟩ = some (.int .i64 Z.num) ∧ w'.cell? ⟨gVZ, 2, none⟩ = some (.slice aVZ Z.kids.length cVZ)))) w' → ((fun w' => Below U7.heap.size U7 w' ∧ (gVX < w'.heap.size ∧ w'.cell? ⟨gVX, 0, none⟩ = some (.int .i64 X.kind) ∧ w'.cell? ⟨gVX, 1, none⟩ = some (.int .i64 X.num) ∧ w'.cell? ⟨gVX, 2, none⟩ = some (.slice aVX X.kids.length cVX)) ∧ (gV < w'.heap.size ∧ w'.cell? ⟨gV, 0, none⟩ = some (.int .i64 T.kind) ∧ w'.cell? ⟨gV, 1, none⟩ = some (.int .i64 T.num) ∧ w'.cell? ⟨gV, 2, none⟩ = some (.slice aV T.kids.length cV)) ∧ (gVY < w'.heap.size ∧ w'.cell? ⟨gVY, 0, none⟩ = some (.int .i64 Z.kind) ∧ w'.cell? ⟨gVY, 1, none⟩ = some (.int .i64 Z.num) ∧ w'.cell? ⟨gVY, 2, none⟩ = some (.slice aVY Z.kids.length cVY)) ∧ (gVZ < w'.heap.size ∧ w'.cell? ⟨gVZ, 0, none⟩ = some (.int .i64 Z.kind) ∧ w'.cell? ⟨gVZ, 1, none⟩ = some (.int .i64 Z.num) ∧ w'.cell? ⟨gVZ, 2, none⟩ = some (.slice aVZ Z.kids.length cVZ)))) w' := fun w' h => h
          refine AnyTwo.begin ((fun w' => Below U7.heap.size U7 w' ∧ (gVX < w'.heap.size ∧ w'.cell? ⟨gVX, 0, none⟩ = some (.int .i64 X.kind) ∧ w'.cell? ⟨gVX, 1, none⟩ = some (.int .i64 X.num) ∧ w'.cell? ⟨gVX, 2, none⟩ = some (.slice aVX X.kids.length cVX)) ∧ (gV < w'.heap.size ∧ w'.cell? ⟨gV, 0, none⟩ = some (.int .i64 T.kind) ∧ w'.cell? ⟨gV, 1, none⟩ = some (.int .i64 T.num) ∧ w'.cell? ⟨gV, 2, none⟩ = some (.slice aV T.kids.length cV)) ∧ (gVY < w'.heap.size ∧ w'.cell? ⟨gVY, 0, none⟩ = some (.int .i64 Z.kind) ∧ w'.cell? ⟨gVY, 1, none⟩ = some (.int .i64 Z.num) ∧ w'.cell? ⟨gVY, 2, none⟩ = some (.slice aVY Z.kids.length cVY)) ∧ (gVZ < w'.heap.size ∧ w'.cell? ⟨gVZ, 0, none⟩ = some (.int .i64 Z.kind) ∧ w'.cell? ⟨gVZ, 1, none⟩ = some (.int .i64 Z.num) ∧ w'.cell? ⟨gVZ, 2, none⟩ = some (.slice aVZ Z.kids.length cVZ)))) ((fun w' => Below U7.heap.size U7 w' ∧ (gVX < w'.heap.size ∧ w'.cell? ⟨gVX, 0, none⟩ = some (.int .i64 X.kind) ∧ w'.cell? ⟨gVX, 1, none⟩ = some (.int .i64 X.num) ∧ w'.cell? ⟨gVX, 2, none⟩ = some (.slice aVX X.kids.length cVX)) ∧ (gV < w'.heap.size ∧ w'.cell? ⟨gV, 0, none⟩ = some (.int .i64 T.kind) ∧ w'.cell? ⟨gV, 1, none⟩ = some (.int .i64 T.num) ∧ w'.cell? ⟨gV, 2, none⟩ = some (.slice aV T.kids.length cV)) ∧ (gVY < w'.heap.size ∧ w'.cell? ⟨gVY, 0, none⟩ = some (.int .i64 Z.kind) ∧ w'.cell? ⟨gVY, 1, none⟩ = some (.int .i64 Z.num) ∧ w'.cell? ⟨gVY, 2, none⟩ = some (.slice aVY Z.kids.length cVY)) ∧ (gVZ < w'.heap.size ∧ w'.cell? ⟨gVZ, 0, none⟩ = some (.int .i64 Z.kind) ∧ w'.cell? ⟨gVZ, 1, none⟩ = some (.int .i64 Z.num) ∧ w'.cell? ⟨gVZ, 2, none⟩ = some (.slice aVZ Z.kids.length cVZ)))) 17 (by kernel_rfl) ?_
          have hS1 : ((fun w' => Below U7.heap.size U7 w' ∧ (gVX < w'.heap.size ∧ w'.cell? ⟨gVX, 0, none⟩ = some (.int .i64 X.kind) ∧ w'.cell? ⟨gVX, 1, none⟩ = some (.int .i64 X.num) ∧ w'.cell? ⟨gVX, 2, none⟩ = some (.slice aVX X.kids.length cVX)) ∧ (gV < w'.heap.size ∧ w'.cell? ⟨gV, 0, none⟩ = some (.int .i64 T.kind) ∧ w'.cell? ⟨gV, 1, none⟩ = some (.int .i64 T.num) ∧ w'.cell? ⟨gV, 2, none⟩ = some (.slice aV T.kids.length cV)) ∧ (gVY < w'.heap.size ∧ w'.cell? ⟨gVY, 0, none⟩ = some (.int .i64 Z.kind) ∧ w'.cell? ⟨gVY, 1, none⟩ = some (.int .i64 Z.num) ∧ w'.cell? ⟨gVY, 2, none⟩ = some (.slice aVY Z.kids.length cVY)) ∧ (gVZ < w'.heap.size ∧ w'.cell? ⟨gVZ, 0, none⟩ = some (.int .i64 Z.kind) ∧ w'.cell? ⟨gVZ, 1, none⟩ = some (.int .i64 Z.num) ∧ w'.cell? ⟨gVZ, 2, none⟩ = some (.slice aVZ Z.kids.length cVZ)))) _ := ⟨(Below.refl _ _).drew, VX.out.var.four, V.out.var.four, VY.out.var.four, VZ.out.var.four⟩
          refine AnyTwo.takeAny HT12 (i := 0) (oi := { dst := some 108, op := _, type := _, pos := _, after := _, guard := _ }) (v := ?vp1) rfl (by kernel_rfl) (by kernel_rfl) (by decide +kernel) (by rfl) (fun _ _ _ h => h) (Or.inl ⟨by rfl, ?yp1⟩) (ph_one (by kernel_rfl) hS1) ?rp1
          case yp1 => (intro w hSw; (try dsimp only at hSw); go_simp; try (with_reducible rfl))
          try simp only [Act.put, List.setIfInBounds_toArray, List.set_cons_zero, List.set_cons_succ]
          refine AnyTwo.takeAny HT12 (i := 2) (oi := { dst := some 110, op := _, type := _, pos := _, after := _, guard := _ }) (v := ?vp2) rfl (by kernel_rfl) (by kernel_rfl) (by decide +kernel) (by rfl) (fun _ _ _ h => h) (Or.inl ⟨by rfl, ?yp2⟩) (ph_one (by kernel_rfl) hS1) ?rp2
          case yp2 => (intro w hSw; (try dsimp only at hSw); go_simp; try (with_reducible rfl))
          try simp only [Act.put, List.setIfInBounds_toArray, List.set_cons_zero, List.set_cons_succ]
          refine AnyTwo.step (i := 1) (o := { dst := some 109, op := _, type := _, pos := _, after := _, guard := _ }) (by kernel_rfl) rfl (fun K hK => ?_)
          go_simp
          refine (HNX.out _ _ ⟨_, rfl, VX.out.sl.below hS1.1⟩).mono ?_
          rintro e w7 ⟨rfl, hb7⟩
          have hS1' : ((fun w' => Below U7.heap.size U7 w' ∧ (gVX < w'.heap.size ∧ w'.cell? ⟨gVX, 0, none⟩ = some (.int .i64 X.kind) ∧ w'.cell? ⟨gVX, 1, none⟩ = some (.int .i64 X.num) ∧ w'.cell? ⟨gVX, 2, none⟩ = some (.slice aVX X.kids.length cVX)) ∧ (gV < w'.heap.size ∧ w'.cell? ⟨gV, 0, none⟩ = some (.int .i64 T.kind) ∧ w'.cell? ⟨gV, 1, none⟩ = some (.int .i64 T.num) ∧ w'.cell? ⟨gV, 2, none⟩ = some (.slice aV T.kids.length cV)) ∧ (gVY < w'.heap.size ∧ w'.cell? ⟨gVY, 0, none⟩ = some (.int .i64 Z.kind) ∧ w'.cell? ⟨gVY, 1, none⟩ = some (.int .i64 Z.num) ∧ w'.cell? ⟨gVY, 2, none⟩ = some (.slice aVY Z.kids.length cVY)) ∧ (gVZ < w'.heap.size ∧ w'.cell? ⟨gVZ, 0, none⟩ = some (.int .i64 Z.kind) ∧ w'.cell? ⟨gVZ, 1, none⟩ = some (.int .i64 Z.num) ∧ w'.cell? ⟨gVZ, 2, none⟩ = some (.slice aVZ Z.kids.length cVZ)))) _ := ⟨bAfter hS1.1 hb7, BoxAt.below hS1.2.1 hb7, BoxAt.below hS1.2.2.1 hb7, BoxAt.below hS1.2.2.2.1 hb7, BoxAt.below hS1.2.2.2.2 hb7⟩
          refine hK.out _ _ (ph_one (by kernel_rfl) hS1') ?_
          clear hK K hS1
          have hS1 := hS1'
          clear hS1'
          try simp only [Act.put, List.setIfInBounds_toArray, List.set_cons_zero, List.set_cons_succ]
          refine AnyTwo.step (i := 3) (o := { dst := some 111, op := _, type := _, pos := _, after := _, guard := _ }) (by kernel_rfl) rfl (fun K hK => ?_)
          go_simp
          refine (HNT.out _ _ ⟨_, rfl, V.out.sl.below hS1.1⟩).mono ?_
          rintro e w7 ⟨rfl, hb7⟩
          have hS1' : ((fun w' => Below U7.heap.size U7 w' ∧ (gVX < w'.heap.size ∧ w'.cell? ⟨gVX, 0, none⟩ = some (.int .i64 X.kind) ∧ w'.cell? ⟨gVX, 1, none⟩ = some (.int .i64 X.num) ∧ w'.cell? ⟨gVX, 2, none⟩ = some (.slice aVX X.kids.length cVX)) ∧ (gV < w'.heap.size ∧ w'.cell? ⟨gV, 0, none⟩ = some (.int .i64 T.kind) ∧ w'.cell? ⟨gV, 1, none⟩ = some (.int .i64 T.num) ∧ w'.cell? ⟨gV, 2, none⟩ = some (.slice aV T.kids.length cV)) ∧ (gVY < w'.heap.size ∧ w'.cell? ⟨gVY, 0, none⟩ = some (.int .i64 Z.kind) ∧ w'.cell? ⟨gVY, 1, none⟩ = some (.int .i64 Z.num) ∧ w'.cell? ⟨gVY, 2, none⟩ = some (.slice aVY Z.kids.length cVY)) ∧ (gVZ < w'.heap.size ∧ w'.cell? ⟨gVZ, 0, none⟩ = some (.int .i64 Z.kind) ∧ w'.cell? ⟨gVZ, 1, none⟩ = some (.int .i64 Z.num) ∧ w'.cell? ⟨gVZ, 2, none⟩ = some (.slice aVZ Z.kids.length cVZ)))) _ := ⟨bAfter hS1.1 hb7, BoxAt.below hS1.2.1 hb7, BoxAt.below hS1.2.2.1 hb7, BoxAt.below hS1.2.2.2.1 hb7, BoxAt.below hS1.2.2.2.2 hb7⟩
          refine hK.out _ _ (ph_one (by kernel_rfl) hS1') ?_
          clear hK K hS1
          have hS1 := hS1'
          clear hS1'
          try simp only [Act.put, List.setIfInBounds_toArray, List.set_cons_zero, List.set_cons_succ]
          refine AnyTwo.takeAny HT12 (i := 4) (oi := { dst := some 112, op := _, type := _, pos := _, after := _, guard := _ }) (v := .bool true) rfl (by kernel_rfl) (by kernel_rfl) (by decide +kernel) (by rfl) (fun _ _ _ h => h) (Or.inl ⟨by rfl, ?yp3⟩) (ph_one (by kernel_rfl) hS1) ?rp3
          case yp3 => (intro w hSw; (try dsimp only at hSw); go_simp; try simp [*])
          try simp only [Act.put, List.setIfInBounds_toArray, List.set_cons_zero, List.set_cons_succ]
          refine AnyTwo.takeAny HT12 (i := 5) (oi := { dst := some 113, op := _, type := _, pos := _, after := _, guard := _ }) (v := ?vp4) rfl (by kernel_rfl) (by kernel_rfl) (by decide +kernel) (by rfl) (fun _ _ _ h => h) (Or.inl ⟨by rfl, ?yp4⟩) (ph_one (by kernel_rfl) hS1) ?rp4
          case yp4 => (intro w hSw; (try dsimp only at hSw); go_simp; try (with_reducible rfl))
          try simp only [Act.put, List.setIfInBounds_toArray, List.set_cons_zero, List.set_cons_succ]
          refine AnyTwo.takeAny HT12 (i := 6) (oi := { dst := some 114, op := _, type := _, pos := _, after := _, guard := _ }) (v := ?vp5) rfl (by kernel_rfl) (by kernel_rfl) (by decide +kernel) (by rfl) (fun _ _ _ h => h) (Or.inl ⟨by rfl, ?yp5⟩) (ph_one (by kernel_rfl) hS1) ?rp5
          case yp5 => (intro w hSw; (try dsimp only at hSw); go_simp; try (with_reducible rfl))
          try simp only [Act.put, List.setIfInBounds_toArray, List.set_cons_zero, List.set_cons_succ]
          refine AnyTwo.takeAny HT12 (i := 7) (oi := { dst := some 115, op := _, type := _, pos := _, after := _, guard := _ }) (v := ?vp6) rfl (by kernel_rfl) (by kernel_rfl) (by decide +kernel) (by rfl) (fun _ _ _ h => h) (Or.inl ⟨by rfl, ?yp6⟩) (ph_one (by kernel_rfl) hS1) ?rp6
          case yp6 => (intro w hSw; (try dsimp only at hSw); go_simp; try (with_reducible rfl))
          try simp only [Act.put, List.setIfInBounds_toArray, List.set_cons_zero, List.set_cons_succ]
          refine AnyTwo.takeAny HT12 (i := 8) (oi := { dst := some 116, op := _, type := _, pos := _, after := _, guard := _ }) (v := ?vp7) rfl (by kernel_rfl) (by kernel_rfl) (by decide +kernel) (by rfl) (fun _ _ _ h => h) (Or.inl ⟨by rfl, ?yp7⟩) (ph_one (by kernel_rfl) hS1) ?rp7
          case yp7 => (intro w hSw; (try dsimp only at hSw); go_simp; try (with_reducible rfl))
          try simp only [Act.put, List.setIfInBounds_toArray, List.set_cons_zero, List.set_cons_succ]
          refine AnyTwo.takeAny HT12 (i := 9) (oi := { dst := some 117, op := _, type := _, pos := _, after := _, guard := _ }) (v := ?vp8) rfl (by kernel_rfl) (by kernel_rfl) (by decide +kernel) (by rfl) (fun _ _ _ h => h) (Or.inl ⟨by rfl, ?yp8⟩) (ph_one (by kernel_rfl) hS1) ?rp8
          case yp8 => (intro w hSw; (try dsimp only at hSw); go_simp; try (with_reducible rfl))
          try simp only [Act.put, List.setIfInBounds_toArray, List.set_cons_zero, List.set_cons_succ]
          refine AnyTwo.takeAny HT12 (i := 10) (oi := { dst := some 118, op := _, type := _, pos := _, after := _, guard := _ }) (v := ?vp9) rfl (by kernel_rfl) (by kernel_rfl) (by decide +kernel) (by rfl) (fun _ _ _ h => h) (Or.inl ⟨by rfl, ?yp9⟩) (ph_one (by kernel_rfl) hS1) ?rp9
          case yp9 => (intro w hSw; (try dsimp only at hSw); go_simp; try (with_reducible rfl))
          try simp only [Act.put, List.setIfInBounds_toArray, List.set_cons_zero, List.set_cons_succ]
          refine AnyTwo.takeAny HT12 (i := 11) (oi := { dst := some 119, op := _, type := _, pos := _, after := _, guard := _ }) (v := ?vp10) rfl (by kernel_rfl) (by kernel_rfl) (by decide +kernel) (by rfl) (fun _ _ _ h => h) (Or.inl ⟨by rfl, ?yp10⟩) (ph_one (by kernel_rfl) hS1) ?rp10
          case yp10 => (intro w hSw; (try dsimp only at hSw); go_simp; try (with_reducible rfl))
          try simp only [Act.put, List.setIfInBounds_toArray, List.set_cons_zero, List.set_cons_succ]
          refine AnyTwo.takeAny HT12 (i := 12) (oi := { dst := some 120, op := _, type := _, pos := _, after := _, guard := _ }) (v := ?vp11) rfl (by kernel_rfl) (by kernel_rfl) (by decide +kernel) (by rfl) (fun _ _ _ h => h) (Or.inl ⟨by rfl, ?yp11⟩) (ph_one (by kernel_rfl) hS1) ?rp11
          case yp11 => (intro w hSw; (try dsimp only at hSw); go_simp; try (with_reducible rfl))
          try simp only [Act.put, List.setIfInBounds_toArray, List.set_cons_zero, List.set_cons_succ]
          refine AnyTwo.step (i := 13) (o := { dst := some 121, op := _, type := _, pos := _, after := _, guard := _ }) (by kernel_rfl) rfl (fun K hK => ?_)
          go_simp
          refine (HTT.out _ _ _ ⟨_, rfl, VY.out.sl.below hS1.1⟩ ⟨_, rfl, VZ.out.sl.below hS1.1⟩).mono ?_
          rintro e w7 ⟨rfl, hb7⟩
          have hS1' : ((fun w' => Below U7.heap.size U7 w' ∧ (gVX < w'.heap.size ∧ w'.cell? ⟨gVX, 0, none⟩ = some (.int .i64 X.kind) ∧ w'.cell? ⟨gVX, 1, none⟩ = some (.int .i64 X.num) ∧ w'.cell? ⟨gVX, 2, none⟩ = some (.slice aVX X.kids.length cVX)) ∧ (gV < w'.heap.size ∧ w'.cell? ⟨gV, 0, none⟩ = some (.int .i64 T.kind) ∧ w'.cell? ⟨gV, 1, none⟩ = some (.int .i64 T.num) ∧ w'.cell? ⟨gV, 2, none⟩ = some (.slice aV T.kids.length cV)) ∧ (gVY < w'.heap.size ∧ w'.cell? ⟨gVY, 0, none⟩ = some (.int .i64 Z.kind) ∧ w'.cell? ⟨gVY, 1, none⟩ = some (.int .i64 Z.num) ∧ w'.cell? ⟨gVY, 2, none⟩ = some (.slice aVY Z.kids.length cVY)) ∧ (gVZ < w'.heap.size ∧ w'.cell? ⟨gVZ, 0, none⟩ = some (.int .i64 Z.kind) ∧ w'.cell? ⟨gVZ, 1, none⟩ = some (.int .i64 Z.num) ∧ w'.cell? ⟨gVZ, 2, none⟩ = some (.slice aVZ Z.kids.length cVZ)))) _ := ⟨bAfter hS1.1 hb7, BoxAt.below hS1.2.1 hb7, BoxAt.below hS1.2.2.1 hb7, BoxAt.below hS1.2.2.2.1 hb7, BoxAt.below hS1.2.2.2.2 hb7⟩
          refine hK.out _ _ (ph_one (by kernel_rfl) hS1') ?_
          clear hK K hS1
          have hS1 := hS1'
          clear hS1'
          try simp only [Act.put, List.setIfInBounds_toArray, List.set_cons_zero, List.set_cons_succ]
          refine AnyTwo.takeAny HT12 (i := 14) (oi := { dst := some 122, op := _, type := _, pos := _, after := _, guard := _ }) (v := ?vp12) rfl (by kernel_rfl) (by kernel_rfl) (by decide +kernel) (by rfl) (fun _ _ _ h => h) (Or.inl ⟨by rfl, ?yp12⟩) (ph_one (by kernel_rfl) hS1) ?rp12
          case yp12 => (intro w hSw; (try dsimp only at hSw); go_simp; try (with_reducible rfl))
          try simp only [Act.put, List.setIfInBounds_toArray, List.set_cons_zero, List.set_cons_succ]
          refine AnyTwo.takeAny HT12 (i := 15) (oi := { dst := some 123, op := _, type := _, pos := _, after := _, guard := _ }) (v := ?vp13) rfl (by kernel_rfl) (by kernel_rfl) (by decide +kernel) (by rfl) (fun _ _ _ h => h) (Or.inl ⟨by rfl, ?yp13⟩) (ph_one (by kernel_rfl) hS1) ?rp13
          case yp13 => (intro w hSw; (try dsimp only at hSw); go_simp; try (with_reducible rfl))
          try simp only [Act.put, List.setIfInBounds_toArray, List.set_cons_zero, List.set_cons_succ]
          refine AnyTwo.takeAny HT12 (i := 16) (oi := { dst := some 124, op := _, type := _, pos := _, after := _, guard := _ }) (v := ?vp14) rfl (by kernel_rfl) (by kernel_rfl) (by decide +kernel) (by rfl) (fun _ _ _ h => h) (Or.inl ⟨by rfl, ?yp14⟩) (ph_one (by kernel_rfl) hS1) ?rp14
          case yp14 => (intro w hSw; (try dsimp only at hSw); go_simp; try (with_reducible rfl))
          try simp only [Act.put, List.setIfInBounds_toArray, List.set_cons_zero, List.set_cons_succ]
          refine AnyTwo.step (i := 17) (o := { dst := some 4, op := _, type := _, pos := _, after := _, guard := _ }) (by kernel_rfl) rfl (fun K hK => ?_)
          go_simp
          refine hK.out _ _ (ph_end (by kernel_rfl) hS1) ?_
          clear hK K
          try simp only [Act.put, List.setIfInBounds_toArray, List.set_cons_zero, List.set_cons_succ]
          refine AnyTwo.done (by kernel_rfl) ?_ _
          clear HT12
          have hb := hS1.1
          replace HB := tuck (bAfter HB.out hb)
          clear hb hS1
          go_wp2_with fail
          go_ret
          exact ⟨rfl, HB.out⟩

set_option maxRecDepth 100000 in
theorem lifted (os : Os) (started : os.Started) (H : Type) (enc : TypeId × Value → H) :
    ReturnsInHanded {} Try.checked os 9 .any (Rows.fnRenameTermSpec.pre6 enc Try.prog Try.f9 Rows.fnRenameTermRow.domain false) (Rows.fnRenameTermSpec.post enc Try.prog Try.f9 false true false false) := by
  refine returnsInHanded_of_change (C := Try.checked) own started (by kernel_rfl) Try.func9
    (ChangeSpec.witness6 (enc := enc) (C := Try.checked) false ⟨#[], #[.slice none 0 0, .slice none 0 0], []⟩ 8 (by kernel_rfl) (by kernel_rfl) (by kernel_rfl) (by kernel_rfl)) ?_
  intro W base args ds gs before hval0 hW hcnd _
  have hval : ∀ (j : Nat) t v, Try.f9.params[j]? = some t → args[j]? = some v → Value.okWide Try.prog W .any base t v := hval0
  have hW' := hW
  obtain ⟨p, q, hA0, hV, rfl, hfz, hnd⟩ := hW
  have hA : DataW.TrodAll enc Try.prog W 0 (fun _ => true) true Try.f9.params.toList args.toList ds p := hA0
  rw [Try.params9] at hA hval
  obtain ⟨v0, vs0, d0, ds0, p0, q0, hargs, rfl, rfl, h0, r0⟩ := trodAll_cons hA
  obtain ⟨v1, vs1, d1, ds1, p1, q1, rfl, rfl, rfl, h1, r1⟩ := trodAll_cons r0
  obtain ⟨rfl, rfl, rfl⟩ := trodAll_nil r1
  obtain rfl : args = #[v0, v1] := by cases args; simp_all
  obtain ⟨U0, ad0, bb0, oo0, len0, cap0, rfl, hlc0, hcm0, hbl0, hby0⟩ := open_bytes (hval 0 22 v0 rfl rfl) h0
  obtain ⟨U1, ad1, bb1, oo1, len1, cap1, rfl, hlc1, hcm1, hbl1, hby1⟩ := open_bytes (hval 1 22 v1 rfl rfl) h1
  refine (walk U0 ad0 bb0 oo0 len0 cap0 W hlc0 hcm0 hby0 U1 ad1 bb1 oo1 len1 cap1 hlc1 hcm1 hby1).mono fun e W' ⟨he, hb⟩ => ?_
  subst he
  exact ⟨_, rfl, law_post rfl rfl (fun gs h => by subst h; rfl) (by rw [Try.params9]; exact readable_FnRenameTerm) laid hW' hb⟩

theorem over : Rows.fnRenameTermRow.holds Try.pinned (OpenSpec.ofChange Rows.fnRenameTermSpec) :=
  OpenClaim.holds_of_wide 9 Try.f9 rfl rfl rfl rfl rfl rfl rfl ⟨rfl, rfl, rfl, rfl, rfl⟩ rfl rfl rfl rfl rfl (by kernel_rfl) Try.func9 (by kernel_rfl)
    (of_decide_eq_true (by kernel_rfl)) (by unfold Func.isWrapper; first | (rw [if_pos (by decide +kernel)]; kernel_rfl) | (rw [if_neg (by decide +kernel)]; exact ⟨rfl, rfl⟩))
    (fun os started H enc _ => lifted os started H enc)

theorem proved : Rows.FnRenameTermSaid :=
  over
end Go.Proofs.Ytmihfbopahoejaa.fnRenameTerm
