/-
  DrawSubstTerm, DrawInstantiate.
-/
import Derived.Test.YtmihfbopahoejaaDrawsB
namespace Go.Proofs.Ytmihfbopahoejaa
open Go.RowKit

theorem SlIn.drew {w : World} {B : Nat} {l : List Tm} {v : Value} (h : SlIn w B l v) : SlIn w.drew B l v := h.keep fun _ _ _ => rfl

/-- A term, a number, a term. -/
def SubstDraw (w : World) (e : Ending) (w' : World) : Prop := ∃ (T : Tm) (v : Value) (x : Int) (S : Tm) (u : Value), e = .returned (.tuple #[v, .int .i64 x, u]) ∧ TmIn w' (w.heap.size + 1 + 1) T v ∧ TmIn w' (w.heap.size + 1 + 1) S u ∧ T.size ≤ 1000 ∧ S.size ≤ 1000 ∧ -1 ≤ x ∧ x ≤ 21 ∧ Below w.heap.size w w'

set_option maxRecDepth 100000 in
set_option maxHeartbeats 3200000 in
theorem dSubstTerm_any {U : Nat → Int} {a : Option Addr} {b o len cap : Nat} (w : World) (hlen : len ≤ 140737488355328) (hcap : len ≤ cap) (hby : Bytes U a b o len w) : Calls Try.prog 21 #[.slice a len cap] w (SubstDraw w) := by
  have HP : Hid (∀ T v x S u w', TmIn w' (w.heap.size + 1 + 1) T v → TmIn w' (w.heap.size + 1 + 1) S u → T.size ≤ 1000 → S.size ≤ 1000 → -1 ≤ x → x ≤ 21 → Below w.heap.size w w' → SubstDraw w (.returned (.tuple #[v, .int .i64 x, u])) w') := fun T v x S u w' h1 h2 h3 h4 h5 h6 h7 => ⟨T, v, x, S, u, rfl, h1, h2, h3, h4, h5, h6, h7⟩
  generalize SubstDraw w = post at *
  have hz0 : ((w.alloc (.cells #[.int .i64 0, .int .i64 0, .slice none 0 0] 25)).alloc (.cells #[.int .i64 0, .int .i64 0, .slice none 0 0] 25)).heap.size = w.heap.size + 1 + 1 := by simp
  have hb0 : Below w.heap.size w ((w.alloc (.cells #[.int .i64 0, .int .i64 0, .slice none 0 0] 25)).alloc (.cells #[.int .i64 0, .int .i64 0, .slice none 0 0] 25)) := below2 _ _ _
  have HO := tuck (open_any ((w.alloc (.cells #[.int .i64 0, .int .i64 0, .slice none 0 0] 25)).alloc (.cells #[.int .i64 0, .int .i64 0, .slice none 0 0] 25)) hlen hcap (hby.below hb0))
  have hv0 : VarAt w.heap.size 0 0 (.slice none 0 0) ((w.alloc (.cells #[.int .i64 0, .int .i64 0, .slice none 0 0] 25)).alloc (.cells #[.int .i64 0, .int .i64 0, .slice none 0 0] 25)) := (VarAt.new w 0 0 (.slice none 0 0)).below (below1 _ _)
  have hv1 : VarAt (w.heap.size + 1) 0 0 (.slice none 0 0) ((w.alloc (.cells #[.int .i64 0, .int .i64 0, .slice none 0 0] 25)).alloc (.cells #[.int .i64 0, .int .i64 0, .slice none 0 0] 25)) := var_new1 w (.cells #[.int .i64 0, .int .i64 0, .slice none 0 0] 25) 0 0 (.slice none 0 0)
  clear hby
  go_enter Try.func21, Try.ntmps21
  go_wp2_with fail
  refine HO.out.mono ?_
  rintro e w1 ⟨a', len', cap', he, hl, hbl, hrd, hby, hb1, hz⟩
  generalize (w.alloc (.cells #[.int .i64 0, .int .i64 0, .slice none 0 0] 25)).alloc (.cells #[.int .i64 0, .int .i64 0, .slice none 0 0] 25) = W0 at *
  have hgz : w.heap.size < W0.heap.size := by omega
  have HB := tuck (bAfter hb0 hb1)
  have HV := tuck (hv0.below hb1)
  have HV1 := tuck (hv1.below hb1)
  clear hb1
  generalize W0.heap.size = g at *
  subst he
  subst hz0
  have HBW : Hid (0 < len' → b ≠ w.heap.size + 1 + 1) := tuck (fun h => Nat.ne_of_lt (hbl h))
  have HRD := tuck hrd
  have HBY := tuck hby
  clear hrd hby HO hbl hv0 hv1 hb0
  have hne : w.heap.size ≠ w.heap.size + 1 + 1 := by omega
  have hne1 : w.heap.size + 1 ≠ w.heap.size + 1 + 1 := by omega
  go_wp2_with fail
  refine (lany_any _ hl HBW.out (by omega) HRD.out HBY.out).mono ?_
  rintro e w2a ⟨tT, sT, FT, paT, rfl, hso, -, -, hv, hp', hrd, ho⟩
  obtain ⟨saT, scT, rfl⟩ := hso.form
  have hsz : sizes tT.kids ≤ 900 := by have := hv.2.2; have := tT.size_eq; omega
  have HIN := tuck (hso.sl (B := 0) (fun _ _ => Nat.zero_le _))
  replace HB := tuck (Only.below HB.out ho (by omega) HB.out.size)
  replace HBY := tuck (HBY.out.only ho HBW.out)
  replace HV := tuck (HV.out.only ho hne)
  replace HV1 := tuck (HV1.out.only ho hne1)
  replace HRD := tuck hrd
  have hpaT : paT ≤ 0 + 1876 := by omega
  clear ho hrd hso hv hp'
  go_wp2_with fail
  refine (lmut_any tT _ _ hl HBW.out (by omega) hsz HRD.out HBY.out ⟨_, rfl, HIN.out⟩).mono ?_
  rintro e w2 ⟨TT, vT, pbT, rfl, ⟨s4, rfl, hin⟩, hszT, hp', hrd, ho⟩
  obtain ⟨aT, cT, rfl⟩ := hin.form
  have hlr : w.heap.size + 1 + 1 < w2a.heap.size := HRD.out.facts.1
  have HINT := tuck (hin.mono (show w.heap.size + 1 + 1 + 1 ≤ _ from hlr))
  have hgeT : w.heap.size + 1 + 1 < w2.heap.size := Nat.lt_of_lt_of_le hlr ho.size
  replace HB := tuck (Only.below HB.out ho (by omega) HB.out.size)
  replace HBY := tuck (HBY.out.only ho HBW.out)
  replace HV := tuck (HV.out.only ho hne)
  replace HV1 := tuck (HV1.out.only ho hne1)
  replace HRD := tuck hrd
  have hpbT : pbT ≤ 0 + 1878 := by omega
  clear ho hin hrd hp' HIN hsz hlr
  have HT := tuck (VarAt.new w2 TT.kind TT.num (.slice aT TT.kids.length cT))
  have hbx := below1 w2 (.cells #[.int .i64 TT.kind, .int .i64 TT.num, .slice aT TT.kids.length cT] 25)
  replace HBY := tuck (HBY.out.below hbx)
  replace HRD := tuck (HRD.out.below hbx)
  replace HV := tuck (HV.out.below hbx)
  replace HV1 := tuck (HV1.out.below hbx)
  replace HINT := tuck (HINT.out.below hbx)
  replace HB := tuck (bAfter HB.out hbx)
  clear hbx
  have hneT : w2.heap.size ≠ w.heap.size + 1 + 1 := by omega
  go_wp2_with fail
  generalize w2.heap.size = gT at *
  generalize w2.alloc (.cells #[.int .i64 TT.kind, .int .i64 TT.num, .slice aT TT.kids.length cT] 25) = W2 at *
  refine (lany_any _ hl HBW.out (by omega) HRD.out HBY.out).mono ?_
  rintro e w3a ⟨tS, sS, FS, paS, rfl, hso, -, -, hv, hp', hrd, ho⟩
  obtain ⟨saS, scS, rfl⟩ := hso.form
  have hsz : sizes tS.kids ≤ 900 := by have := hv.2.2; have := tS.size_eq; omega
  have HIN := tuck (hso.sl (B := 0) (fun _ _ => Nat.zero_le _))
  replace HB := tuck (Only.below HB.out ho (by omega) HB.out.size)
  replace HBY := tuck (HBY.out.only ho HBW.out)
  replace HV := tuck (HV.out.only ho hne)
  replace HV1 := tuck (HV1.out.only ho hne1)
  replace HT := tuck (HT.out.only ho hneT)
  replace HINT := tuck (HINT.out.onlyR ho (by omega))
  replace HRD := tuck hrd
  have hpaS : paS ≤ 1878 + 1876 := by omega
  clear ho hrd hso hv hp'
  go_wp2_with fail
  refine (lmut_any tS _ _ hl HBW.out (by omega) hsz HRD.out HBY.out ⟨_, rfl, HIN.out⟩).mono ?_
  rintro e w3 ⟨TS, vS, pbS, rfl, ⟨s4, rfl, hin⟩, hszS, hp', hrd, ho⟩
  obtain ⟨aS, cS, rfl⟩ := hin.form
  have hlr : w.heap.size + 1 + 1 < w3a.heap.size := HRD.out.facts.1
  have HINS := tuck (hin.mono (show w.heap.size + 1 + 1 + 1 ≤ _ from hlr))
  have hgeS : w.heap.size + 1 + 1 < w3.heap.size := Nat.lt_of_lt_of_le hlr ho.size
  replace HB := tuck (Only.below HB.out ho (by omega) HB.out.size)
  replace HBY := tuck (HBY.out.only ho HBW.out)
  replace HV := tuck (HV.out.only ho hne)
  replace HV1 := tuck (HV1.out.only ho hne1)
  replace HT := tuck (HT.out.only ho hneT)
  replace HINT := tuck (HINT.out.onlyR ho (by omega))
  replace HRD := tuck hrd
  have hpbS : pbS ≤ 1878 + 1878 := by omega
  clear ho hin hrd hp' HIN hsz hlr
  have HS := tuck (VarAt.new w3 TS.kind TS.num (.slice aS TS.kids.length cS))
  have hbx := below1 w3 (.cells #[.int .i64 TS.kind, .int .i64 TS.num, .slice aS TS.kids.length cS] 25)
  replace HBY := tuck (HBY.out.below hbx)
  replace HRD := tuck (HRD.out.below hbx)
  replace HV := tuck (HV.out.below hbx)
  replace HV1 := tuck (HV1.out.below hbx)
  replace HT := tuck (HT.out.below hbx)
  replace HINT := tuck (HINT.out.below hbx)
  replace HINS := tuck (HINS.out.below hbx)
  replace HB := tuck (bAfter HB.out hbx)
  clear hbx
  have hneS : w3.heap.size ≠ w.heap.size + 1 + 1 := by omega
  have HPL : Hid (∀ W, Rd (w.heap.size + 1 + 1) a' len' cap' pbS W → Bytes U a' b o len' W → Calls Try.prog 43 #[.pointer (some ⟨w.heap.size + 1 + 1, 0, none⟩)] W (PlacePost (w.heap.size + 1 + 1) a' len' cap' pbS W)) := fun W h1 h2 => place_any W hl (by omega) h1 h2 HBW.out
  generalize hW3 : w3.alloc (.cells #[.int .i64 TS.kind, .int .i64 TS.num, .slice aS TS.kids.length cS] 25) = W3 at *
  generalize hg3 : w3.heap.size = gS at *
  obtain ⟨zt, t0, t1, t2, tf⟩ := HT.out.facts
  obtain ⟨zs, s0, s1, s2, sf⟩ := HS.out.facts
  obtain ⟨zv, v0, v1, v2, vf⟩ := HV.out.facts
  obtain ⟨zv1, v10, v11, v12, v1f⟩ := HV1.out.facts
  go_wp2_with fail
  subst hg3
  go_region_with (go_at_call 43; refine (HPL.out _ HRD.out.drew HBY.out.drew).mono ?_; rintro e w5 ⟨y, rfl, hy0, hy1, -, ho5⟩; obtain ⟨zt', t0', t1', t2', tf'⟩ := (HT.out.drew.only ho5 hneT).facts; obtain ⟨zs', s0', s1', s2', sf'⟩ := (HS.out.drew.only ho5 hneS).facts; obtain ⟨zv', v0', v1', v2', vf'⟩ := (HV.out.drew.only ho5 hne).facts; obtain ⟨zw', w0', w1', w2', wf'⟩ := (HV1.out.drew.only ho5 hne1).facts)
  all_goals clear HPL HBY HRD HBW HV HV1 HT HS
  all_goals (have HB5 := tuck (Only.below HB.out (Only.ofDrew ho5) (by omega) HB.out.size); have HIT5 := tuck (HINT.out.onlyR (Only.ofDrew ho5) (by omega)); have HIS5 := tuck (HINS.out.onlyR (Only.ofDrew ho5) (by omega)); clear HB HINT HINS ho5)
  all_goals go_wp2_with fail
  all_goals refine bodyPost_ret (v := .tuple #[.agg #[.int .i64 TT.kind, .int .i64 TT.num, .slice aT TT.kids.length cT], .int .i64 y, .agg #[.int .i64 TS.kind, .int .i64 TS.num, .slice aS TS.kids.length cS]]) (by simp [results, Try.results21, go_sem, *]) rfl (HP.out TT _ y TS _ _ ⟨_, rfl, ((HIT5.out.set3 (by omega)).set3 (by omega)).mono (by omega)⟩ ⟨_, rfl, ((HIS5.out.set3 (by omega)).set3 (by omega)).mono (by omega)⟩ hszT hszS hy0 hy1 (bSet3 (bSet3 HB5.out (by omega) _ _ _ _ _ _) (by omega) _ _ _ _ _ _))

set_option maxRecDepth 100000 in
set_option maxHeartbeats 1600000 in
theorem dInstantiate_any {U : Nat → Int} {a : Option Addr} {b o len cap : Nat} (w : World) (hlen : len ≤ 140737488355328) (hcap : len ≤ cap) (hby : Bytes U a b o len w) : Calls Try.prog 31 #[.slice a len cap] w fun e w' => ∃ (T : Tm) (v : Value) (S : Tm) (u : Value), e = .returned (.tuple #[v, u]) ∧ TmIn w' w.heap.size T v ∧ TmIn w' w.heap.size S u ∧ T.size ≤ 1000 ∧ S.size ≤ 1000 ∧ Below w.heap.size w w' := by
  obtain ⟨post, hpost⟩ : ∃ post : Ending → World → Prop, post = fun e w' => ∃ (T : Tm) (v : Value) (S : Tm) (u : Value), e = .returned (.tuple #[v, u]) ∧ TmIn w' w.heap.size T v ∧ TmIn w' w.heap.size S u ∧ T.size ≤ 1000 ∧ S.size ≤ 1000 ∧ Below w.heap.size w w' := ⟨_, rfl⟩
  rw [← hpost]
  have HP : Hid (∀ T v S u w', TmIn w' w.heap.size T v → TmIn w' w.heap.size S u → T.size ≤ 1000 → S.size ≤ 1000 → Below w.heap.size w w' → post (.returned (.tuple #[v, u])) w') := fun T v S u w' h1 h2 h3 h4 h7 => hpost ▸ ⟨T, v, S, u, rfl, h1, h2, h3, h4, h7⟩
  clear hpost
  have hz0 : ((w.alloc (.cells #[.int .i64 0, .int .i64 0, .slice none 0 0] 25)).alloc (.cells #[.int .i64 0, .int .i64 0, .slice none 0 0] 25)).heap.size = w.heap.size + 1 + 1 := by simp
  have hb0 : Below w.heap.size w ((w.alloc (.cells #[.int .i64 0, .int .i64 0, .slice none 0 0] 25)).alloc (.cells #[.int .i64 0, .int .i64 0, .slice none 0 0] 25)) := below2 _ _ _
  have HO := tuck (dSubstTerm_any ((w.alloc (.cells #[.int .i64 0, .int .i64 0, .slice none 0 0] 25)).alloc (.cells #[.int .i64 0, .int .i64 0, .slice none 0 0] 25)) hlen hcap (hby.below hb0))
  have HV : Hid (VarAt w.heap.size 0 0 (.slice none 0 0) ((w.alloc (.cells #[.int .i64 0, .int .i64 0, .slice none 0 0] 25)).alloc (.cells #[.int .i64 0, .int .i64 0, .slice none 0 0] 25))) := (VarAt.new w 0 0 (.slice none 0 0)).below (below1 _ _)
  have HV1 : Hid (VarAt (w.heap.size + 1) 0 0 (.slice none 0 0) ((w.alloc (.cells #[.int .i64 0, .int .i64 0, .slice none 0 0] 25)).alloc (.cells #[.int .i64 0, .int .i64 0, .slice none 0 0] 25))) := var_new1 w (.cells #[.int .i64 0, .int .i64 0, .slice none 0 0] 25) 0 0 (.slice none 0 0)
  clear hby
  go_enter Try.func31, Try.ntmps31
  go_wp2_with fail
  refine HO.out.mono ?_
  rintro e w1 ⟨T, v, x, S, u, rfl, ⟨s, rfl, hin⟩, ⟨s2, rfl, hin2⟩, hsz, hsz2, -, -, hb⟩
  generalize (w.alloc (.cells #[.int .i64 0, .int .i64 0, .slice none 0 0] 25)).alloc (.cells #[.int .i64 0, .int .i64 0, .slice none 0 0] 25) = W0 at *
  rw [hz0] at hin hin2
  obtain ⟨sa, sc, rfl⟩ := hin.form
  obtain ⟨ta, tc, rfl⟩ := hin2.form
  have hz1 : w.heap.size + 1 + 1 ≤ w1.heap.size := by have := hb.size; omega
  have HIN := tuck hin
  have HIN2 := tuck hin2
  have HB := tuck (bAfter hb0 hb)
  replace HV := tuck (HV.out.below hb)
  replace HV1 := tuck (HV1.out.below hb)
  clear hin hin2 hb HO hb0
  obtain ⟨zv, v0, v1, v2, vf⟩ := HV.out.facts
  obtain ⟨zw, w0, w1', w2, wf⟩ := HV1.out.facts
  go_wp2_with fail
  go_region
  · skip
    have f1 := (((HIN.out.set3 (g := w.heap.size) (i := 0) (j := 1) (k := 2) (x := .int .i64 T.kind) (y := .int .i64 T.num) (z := .slice sa T.kids.length sc) (by omega)).set3 (g := w.heap.size + 1) (i := 0) (j := 1) (k := 2) (x := .int .i64 S.kind) (y := .int .i64 S.num) (z := .slice ta S.kids.length tc) (by omega))).below (below2 _ (.cells #[.int .i64 T.kind, .int .i64 T.num, .slice sa T.kids.length sc] 25) (.cells #[.int .i64 S.kind, .int .i64 S.num, .slice ta S.kids.length tc] 25))
    have f2 := (((HIN2.out.set3 (g := w.heap.size) (i := 0) (j := 1) (k := 2) (x := .int .i64 T.kind) (y := .int .i64 T.num) (z := .slice sa T.kids.length sc) (by omega)).set3 (g := w.heap.size + 1) (i := 0) (j := 1) (k := 2) (x := .int .i64 S.kind) (y := .int .i64 S.num) (z := .slice ta S.kids.length tc) (by omega))).below (below2 _ (.cells #[.int .i64 T.kind, .int .i64 T.num, .slice sa T.kids.length sc] 25) (.cells #[.int .i64 S.kind, .int .i64 S.num, .slice ta S.kids.length tc] 25))
    have f3 := bAfter (bSet3 (bSet3 HB.out (g := w.heap.size) (by omega) 0 1 2 (.int .i64 T.kind) (.int .i64 T.num) (.slice sa T.kids.length sc)) (g := w.heap.size + 1) (by omega) 0 1 2 (.int .i64 S.kind) (.int .i64 S.num) (.slice ta S.kids.length tc)) (below2 _ (.cells #[.int .i64 T.kind, .int .i64 T.num, .slice sa T.kids.length sc] 25) (.cells #[.int .i64 S.kind, .int .i64 S.num, .slice ta S.kids.length tc] 25))
    have F1 := tuck (f1.mono (show w.heap.size ≤ _ by omega)).drew
    have F2 := tuck (f2.mono (show w.heap.size ≤ _ by omega)).drew
    have F3 := tuck f3.drew
    clear f1 f2 f3
    go_wp2_with fail
    refine bodyPost_ret (v := .tuple #[.agg #[.int .i64 T.kind, .int .i64 T.num, .slice sa T.kids.length sc], .agg #[.int .i64 S.kind, .int .i64 S.num, .slice ta S.kids.length tc]]) (by simp [results, Try.results31, go_sem, *]) rfl ?_
    exact HP.out T _ S _ _ ⟨_, rfl, F1.out⟩ ⟨_, rfl, F2.out⟩ hsz hsz2 F3.out

end Go.Proofs.Ytmihfbopahoejaa
