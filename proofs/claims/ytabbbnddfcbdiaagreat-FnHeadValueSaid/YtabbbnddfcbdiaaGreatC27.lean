/-
  DrawsU.
-/
import Derived.Test.YtabbbnddfcbdiaaGreatC26
namespace Go.Proofs.YtabbbnddfcbdiaaGreat
open Go.RowKit
theorem Only.ofDrewR {g : Nat} {w w' : World} (h : Only g w.drew w') : Only g w w' := ⟨h.os, h.tape, h.output, h.size, h.block⟩
theorem Rd.drewR {g : Nat} {a : Option Addr} {len cap p : Nat} {w : World} (h : Rd g a len cap p w) : Rd g a len cap p w.drew := h
theorem Bytes.drewR {U : Nat → Int} {a : Option Addr} {b o len : Nat} {w : World} (h : Bytes U a b o len w) : Bytes U a b o len w.drew := h
theorem VarAt.drewR {g : Nat} {k n : Int} {s : Value} {w : World} (h : VarAt g k n s w) : VarAt g k n s w.drew := h
def TmPostR (w : World) (e : Ending) (w' : World) : Prop := ∃ (T : Tm) (v : Value), e = .returned v ∧ TmIn w' w.heap.size T v ∧ T.size ≤ 1000 ∧ Below w.heap.size w w'
set_option maxRecDepth 100000 in
set_option maxHeartbeats 1600000 in
theorem dRedexOf_any {U : Nat → Int} {a : Option Addr} {b o len cap : Nat} (w : World) (hlen : len ≤ 140737488355328) (hcap : len ≤ cap) (hby : Bytes U a b o len w) : Calls Tryz.prog 59 #[.slice a len cap] w (TmPostR w) := by
 have HP : Hid (∀ T v w', TmIn w' w.heap.size T v → T.size ≤ 1000 → Below w.heap.size w w' → TmPostR w (.returned v) w') := fun T v w' h1 h2 h3 => ⟨T, v, rfl, h1, h2, h3⟩
 generalize TmPostR w = post at *
 have hz0 : (w.alloc (.cells #[.int .i64 0, .int .i64 0, .slice none 0 0] 25)).heap.size = w.heap.size + 1 := by simp
 have hb0 : Below w.heap.size w (w.alloc (.cells #[.int .i64 0, .int .i64 0, .slice none 0 0] 25)) := below1 _ _
 have HO := tuck (open_any (w.alloc (.cells #[.int .i64 0, .int .i64 0, .slice none 0 0] 25)) hlen hcap (hby.below hb0))
 have hv0 : VarAt w.heap.size 0 0 (.slice none 0 0) (w.alloc (.cells #[.int .i64 0, .int .i64 0, .slice none 0 0] 25)) := VarAt.new w 0 0 (.slice none 0 0)
 clear hby
 go_enter Tryz.func59, Tryz.ntmps59
 go_wp2_with fail
 refine HO.out.mono ?_
 rintro e w1 ⟨a', len', cap', he, hl, hbl, hrd, hby, hb1, hz⟩
 generalize w.alloc (.cells #[.int .i64 0, .int .i64 0, .slice none 0 0] 25) = W0 at *
 have hgz : w.heap.size < W0.heap.size := by omega
 have HB := tuck (bAfter hb0 hb1)
 have HV := tuck (hv0.below hb1)
 clear hb1
 generalize W0.heap.size = g at *
 subst he
 subst hz0
 have HBW : Hid (0 < len' → b ≠ w.heap.size + 1) := tuck (fun h => Nat.ne_of_lt (hbl h))
 have HRD := tuck hrd
 have HBY := tuck hby
 clear hrd hby HO hbl hv0 hb0
 have hne : w.heap.size ≠ w.heap.size + 1 := by omega
 go_wp2_with fail
 refine (l3draw_any _ hl HBW.out (by omega) HRD.out HBY.out).mono ?_
 rintro e w3 ⟨t, s, p', rfl, hsl, hv, hp', hrd, ho⟩
 obtain ⟨sa, sc, rfl⟩ := hsl.form
 have hsz : sizes t.kids ≤ 900 := by have := hv.2.2; have := t.size_eq; omega
 have HIN := tuck (hsl.mono (Nat.zero_le _))
 replace HB := tuck (Only.below HB.out ho (by omega) HB.out.size)
 replace HBY := tuck (HBY.out.only ho HBW.out)
 replace HV := tuck (HV.out.only ho hne)
 replace HRD := tuck hrd
 clear ho hrd hsl hv
 go_wp2_with fail
 refine (lmut_any t _ _ hl HBW.out (by omega) hsz HRD.out HBY.out ⟨_, rfl, HIN.out⟩).mono ?_
 rintro e w4 ⟨T, v, p2, rfl, ⟨s4, rfl, hin⟩, hsz2, -, -, ho⟩
 obtain ⟨sa4, sc4, rfl⟩ := hin.form
 have hz3 : w.heap.size < w3.heap.size := (HV.out.facts).1
 have HIN4 := tuck hin
 replace HB := tuck (Only.below HB.out ho (by omega) HB.out.size)
 replace HV := tuck (HV.out.only ho hne)
 clear ho hin
 obtain ⟨zv, v0, v1, v2, vf⟩ := HV.out.facts
 go_wp2_with fail
 refine bodyPost_ret (v := .agg #[.int .i64 T.kind, .int .i64 T.num, .slice sa4 T.kids.length sc4]) (by simp [results, Tryz.results59, go_sem, *]) rfl (HP.out T _ _ ⟨_, rfl, (HIN4.out.set3 hz3).mono (Nat.le_of_lt hz3)⟩ hsz2 (bSet3 HB.out (Nat.le_refl _) _ _ _ _ _ _))
theorem dContractTerm_any {U : Nat → Int} {a : Option Addr} {b o len cap : Nat} (w : World) (hlen : len ≤ 140737488355328) (hcap : len ≤ cap) (hby : Bytes U a b o len w) : Calls Tryz.prog 29 #[.slice a len cap] w (TmPostR w) := by
 have hz0 : (w.alloc (.cells #[.int .i64 0, .int .i64 0, .slice none 0 0] 25)).heap.size = w.heap.size + 1 := by simp
 have hb0 : Below w.heap.size w (w.alloc (.cells #[.int .i64 0, .int .i64 0, .slice none 0 0] 25)) := below1 _ _
 have HO := tuck (dRedexOf_any (w.alloc (.cells #[.int .i64 0, .int .i64 0, .slice none 0 0] 25)) hlen hcap (hby.below hb0))
 have HP : Hid (∀ T v w', TmIn w' w.heap.size T v → T.size ≤ 1000 → Below w.heap.size w w' → TmPostR w (.returned v) w') := fun T v w' h1 h2 h3 => ⟨T, v, rfl, h1, h2, h3⟩
 have HV : Hid (VarAt w.heap.size 0 0 (.slice none 0 0) (w.alloc (.cells #[.int .i64 0, .int .i64 0, .slice none 0 0] 25))) := VarAt.new w 0 0 (.slice none 0 0)
 generalize TmPostR w = post at *
 clear hby
 go_enter Tryz.func29, Tryz.ntmps29
 go_wp2_with fail
 refine HO.out.mono ?_
 rintro e w1 ⟨T, v, rfl, ⟨s, rfl, hin⟩, hsz, hb⟩
 generalize w.alloc (.cells #[.int .i64 0, .int .i64 0, .slice none 0 0] 25) = W0 at *
 obtain ⟨sa, sc, rfl⟩ := hin.form
 have HIN := tuck hin
 have HB := tuck (bAfter hb0 hb)
 replace HV := tuck (HV.out.below hb)
 clear hin hb HO hb0
 have hz3 : w.heap.size < W0.heap.size := by omega
 obtain ⟨zv, v0, v1, v2, vf⟩ := HV.out.facts
 go_wp2_with fail
 refine bodyPost_ret (v := .agg #[.int .i64 T.kind, .int .i64 T.num, .slice sa T.kids.length sc]) (by simp [results, Tryz.results29, go_sem, *]) rfl (HP.out T _ _ ⟨_, rfl, (HIN.out.set3 hz3).mono (Nat.le_of_lt hz3)⟩ hsz (bSet3 HB.out (Nat.le_refl _) _ _ _ _ _ _))
theorem dStepTerm_any {U : Nat → Int} {a : Option Addr} {b o len cap : Nat} (w : World) (hlen : len ≤ 140737488355328) (hcap : len ≤ cap) (hby : Bytes U a b o len w) : Calls Tryz.prog 23 #[.slice a len cap] w (TmPostR w) := by
 have hz0 : (w.alloc (.cells #[.int .i64 0, .int .i64 0, .slice none 0 0] 25)).heap.size = w.heap.size + 1 := by simp
 have hb0 : Below w.heap.size w (w.alloc (.cells #[.int .i64 0, .int .i64 0, .slice none 0 0] 25)) := below1 _ _
 have HO := tuck (dRedexOf_any (w.alloc (.cells #[.int .i64 0, .int .i64 0, .slice none 0 0] 25)) hlen hcap (hby.below hb0))
 have HP : Hid (∀ T v w', TmIn w' w.heap.size T v → T.size ≤ 1000 → Below w.heap.size w w' → TmPostR w (.returned v) w') := fun T v w' h1 h2 h3 => ⟨T, v, rfl, h1, h2, h3⟩
 have HV : Hid (VarAt w.heap.size 0 0 (.slice none 0 0) (w.alloc (.cells #[.int .i64 0, .int .i64 0, .slice none 0 0] 25))) := VarAt.new w 0 0 (.slice none 0 0)
 generalize TmPostR w = post at *
 clear hby
 go_enter Tryz.func23, Tryz.ntmps23
 go_wp2_with fail
 refine HO.out.mono ?_
 rintro e w1 ⟨T, v, rfl, ⟨s, rfl, hin⟩, hsz, hb⟩
 generalize w.alloc (.cells #[.int .i64 0, .int .i64 0, .slice none 0 0] 25) = W0 at *
 obtain ⟨sa, sc, rfl⟩ := hin.form
 have HIN := tuck hin
 have HB := tuck (bAfter hb0 hb)
 replace HV := tuck (HV.out.below hb)
 clear hin hb HO hb0
 have hz3 : w.heap.size < W0.heap.size := by omega
 obtain ⟨zv, v0, v1, v2, vf⟩ := HV.out.facts
 go_wp2_with fail
 refine bodyPost_ret (v := .agg #[.int .i64 T.kind, .int .i64 T.num, .slice sa T.kids.length sc]) (by simp [results, Tryz.results23, go_sem, *]) rfl (HP.out T _ _ ⟨_, rfl, (HIN.out.set3 hz3).mono (Nat.le_of_lt hz3)⟩ hsz (bSet3 HB.out (Nat.le_refl _) _ _ _ _ _ _))
theorem dStepInner_any {U : Nat → Int} {a : Option Addr} {b o len cap : Nat} (w : World) (hlen : len ≤ 140737488355328) (hcap : len ≤ cap) (hby : Bytes U a b o len w) : Calls Tryz.prog 26 #[.slice a len cap] w (TmPostR w) := by
 have hz0 : (w.alloc (.cells #[.int .i64 0, .int .i64 0, .slice none 0 0] 25)).heap.size = w.heap.size + 1 := by simp
 have hb0 : Below w.heap.size w (w.alloc (.cells #[.int .i64 0, .int .i64 0, .slice none 0 0] 25)) := below1 _ _
 have HO := tuck (dRedexOf_any (w.alloc (.cells #[.int .i64 0, .int .i64 0, .slice none 0 0] 25)) hlen hcap (hby.below hb0))
 have HP : Hid (∀ T v w', TmIn w' w.heap.size T v → T.size ≤ 1000 → Below w.heap.size w w' → TmPostR w (.returned v) w') := fun T v w' h1 h2 h3 => ⟨T, v, rfl, h1, h2, h3⟩
 have HV : Hid (VarAt w.heap.size 0 0 (.slice none 0 0) (w.alloc (.cells #[.int .i64 0, .int .i64 0, .slice none 0 0] 25))) := VarAt.new w 0 0 (.slice none 0 0)
 generalize TmPostR w = post at *
 clear hby
 go_enter Tryz.func26, Tryz.ntmps26
 go_wp2_with fail
 refine HO.out.mono ?_
 rintro e w1 ⟨T, v, rfl, ⟨s, rfl, hin⟩, hsz, hb⟩
 generalize w.alloc (.cells #[.int .i64 0, .int .i64 0, .slice none 0 0] 25) = W0 at *
 obtain ⟨sa, sc, rfl⟩ := hin.form
 have HIN := tuck hin
 have HB := tuck (bAfter hb0 hb)
 replace HV := tuck (HV.out.below hb)
 clear hin hb HO hb0
 have hz3 : w.heap.size < W0.heap.size := by omega
 obtain ⟨zv, v0, v1, v2, vf⟩ := HV.out.facts
 go_wp2_with fail
 refine bodyPost_ret (v := .agg #[.int .i64 T.kind, .int .i64 T.num, .slice sa T.kids.length sc]) (by simp [results, Tryz.results26, go_sem, *]) rfl (HP.out T _ _ ⟨_, rfl, (HIN.out.set3 hz3).mono (Nat.le_of_lt hz3)⟩ hsz (bSet3 HB.out (Nat.le_refl _) _ _ _ _ _ _))
theorem dDevelopTerm_any {U : Nat → Int} {a : Option Addr} {b o len cap : Nat} (w : World) (hlen : len ≤ 140737488355328) (hcap : len ≤ cap) (hby : Bytes U a b o len w) : Calls Tryz.prog 41 #[.slice a len cap] w (TmPostR w) := by
 have hz0 : (w.alloc (.cells #[.int .i64 0, .int .i64 0, .slice none 0 0] 25)).heap.size = w.heap.size + 1 := by simp
 have hb0 : Below w.heap.size w (w.alloc (.cells #[.int .i64 0, .int .i64 0, .slice none 0 0] 25)) := below1 _ _
 have HO := tuck (dRedexOf_any (w.alloc (.cells #[.int .i64 0, .int .i64 0, .slice none 0 0] 25)) hlen hcap (hby.below hb0))
 have HP : Hid (∀ T v w', TmIn w' w.heap.size T v → T.size ≤ 1000 → Below w.heap.size w w' → TmPostR w (.returned v) w') := fun T v w' h1 h2 h3 => ⟨T, v, rfl, h1, h2, h3⟩
 have HV : Hid (VarAt w.heap.size 0 0 (.slice none 0 0) (w.alloc (.cells #[.int .i64 0, .int .i64 0, .slice none 0 0] 25))) := VarAt.new w 0 0 (.slice none 0 0)
 generalize TmPostR w = post at *
 clear hby
 go_enter Tryz.func41, Tryz.ntmps41
 go_wp2_with fail
 refine HO.out.mono ?_
 rintro e w1 ⟨T, v, rfl, ⟨s, rfl, hin⟩, hsz, hb⟩
 generalize w.alloc (.cells #[.int .i64 0, .int .i64 0, .slice none 0 0] 25) = W0 at *
 obtain ⟨sa, sc, rfl⟩ := hin.form
 have HIN := tuck hin
 have HB := tuck (bAfter hb0 hb)
 replace HV := tuck (HV.out.below hb)
 clear hin hb HO hb0
 have hz3 : w.heap.size < W0.heap.size := by omega
 obtain ⟨zv, v0, v1, v2, vf⟩ := HV.out.facts
 go_wp2_with fail
 refine bodyPost_ret (v := .agg #[.int .i64 T.kind, .int .i64 T.num, .slice sa T.kids.length sc]) (by simp [results, Tryz.results41, go_sem, *]) rfl (HP.out T _ _ ⟨_, rfl, (HIN.out.set3 hz3).mono (Nat.le_of_lt hz3)⟩ hsz (bSet3 HB.out (Nat.le_refl _) _ _ _ _ _ _))
def NormDraw (w : World) (e : Ending) (w' : World) : Prop := ∃ (T : Tm) (v : Value) (x : Int), e = .returned (.tuple #[v, .int .i64 x]) ∧ TmIn w' w.heap.size T v ∧ T.size ≤ 1000 ∧ -1 ≤ x ∧ x ≤ 201 ∧ Below w.heap.size w w'
set_option maxRecDepth 100000 in
set_option maxHeartbeats 1600000 in
theorem dNormalize_any {U : Nat → Int} {a : Option Addr} {b o len cap : Nat} (w : World) (hlen : len ≤ 140737488355328) (hcap : len ≤ cap) (hby : Bytes U a b o len w) : Calls Tryz.prog 15 #[.slice a len cap] w (NormDraw w) := by
 have HP : Hid (∀ T v x w', TmIn w' w.heap.size T v → T.size ≤ 1000 → -1 ≤ x → x ≤ 201 → Below w.heap.size w w' → NormDraw w (.returned (.tuple #[v, .int .i64 x])) w') := fun T v x w' h1 h2 h3 h4 h5 => ⟨T, v, x, rfl, h1, h2, h3, h4, h5⟩
 generalize NormDraw w = post at *
 have hz0 : (w.alloc (.cells #[.int .i64 0, .int .i64 0, .slice none 0 0] 25)).heap.size = w.heap.size + 1 := by simp
 have hb0 : Below w.heap.size w (w.alloc (.cells #[.int .i64 0, .int .i64 0, .slice none 0 0] 25)) := below1 _ _
 have HO := tuck (open_any (w.alloc (.cells #[.int .i64 0, .int .i64 0, .slice none 0 0] 25)) hlen hcap (hby.below hb0))
 have hv0 : VarAt w.heap.size 0 0 (.slice none 0 0) (w.alloc (.cells #[.int .i64 0, .int .i64 0, .slice none 0 0] 25)) := VarAt.new w 0 0 (.slice none 0 0)
 clear hby
 go_enter Tryz.func15, Tryz.ntmps15
 go_wp2_with fail
 refine HO.out.mono ?_
 rintro e w1 ⟨a', len', cap', he, hl, hbl, hrd, hby, hb1, hz⟩
 generalize w.alloc (.cells #[.int .i64 0, .int .i64 0, .slice none 0 0] 25) = W0 at *
 have hgz : w.heap.size < W0.heap.size := by omega
 have HB := tuck (bAfter hb0 hb1)
 have HV := tuck (hv0.below hb1)
 clear hb1
 generalize W0.heap.size = g at *
 subst he
 subst hz0
 have HBW : Hid (0 < len' → b ≠ w.heap.size + 1) := tuck (fun h => Nat.ne_of_lt (hbl h))
 have HRD := tuck hrd
 have HBY := tuck hby
 clear hrd hby HO hbl hv0 hb0
 have hne : w.heap.size ≠ w.heap.size + 1 := by omega
 go_wp2_with fail
 refine (l3draw_any _ hl HBW.out (by omega) HRD.out HBY.out).mono ?_
 rintro e w3 ⟨t, s, p', rfl, hsl, hv, hp', hrd, ho⟩
 obtain ⟨sa, sc, rfl⟩ := hsl.form
 have hsz : sizes t.kids ≤ 900 := by have := hv.2.2; have := t.size_eq; omega
 have HIN := tuck (hsl.mono (Nat.zero_le _))
 replace HB := tuck (Only.below HB.out ho (by omega) HB.out.size)
 replace HBY := tuck (HBY.out.only ho HBW.out)
 replace HV := tuck (HV.out.only ho hne)
 replace HRD := tuck hrd
 clear ho hrd hsl hv
 go_wp2_with fail
 refine (lmut_any t _ _ hl HBW.out (by omega) hsz HRD.out HBY.out ⟨_, rfl, HIN.out⟩).mono ?_
 rintro e w2 ⟨TT, vT, pbT, rfl, ⟨s4, rfl, hin⟩, hszT, hpb, hrd, ho⟩
 obtain ⟨aT, cT, rfl⟩ := hin.form
 have hlr : w.heap.size + 1 < w3.heap.size := HRD.out.facts.1
 have HINT := tuck (hin.mono (show w.heap.size + 2 ≤ _ from hlr))
 have hgeT : w.heap.size + 1 < w2.heap.size := Nat.lt_of_lt_of_le hlr ho.size
 replace HB := tuck (Only.below HB.out ho (by omega) HB.out.size)
 replace HBY := tuck (HBY.out.only ho HBW.out)
 replace HV := tuck (HV.out.only ho hne)
 replace HRD := tuck hrd
 have hpT : pbT ≤ 2000 := by omega
 clear ho hin hrd HIN hsz hlr hpb
 have HT := tuck (VarAt.new w2 TT.kind TT.num (.slice aT TT.kids.length cT))
 have hbx := below1 w2 (.cells #[.int .i64 TT.kind, .int .i64 TT.num, .slice aT TT.kids.length cT] 25)
 replace HINT := tuck (HINT.out.below hbx)
 replace HB := tuck (bAfter HB.out hbx)
 replace HBY := tuck (HBY.out.below hbx)
 replace HV := tuck (HV.out.below hbx)
 replace HRD := tuck (HRD.out.below hbx)
 clear hbx
 have hne2 : w2.heap.size ≠ w.heap.size + 1 := by omega
 have HPL : Hid (∀ W, Rd (w.heap.size + 1) a' len' cap' pbT W → Bytes U a' b o len' W → Calls Tryz.prog 47 #[.pointer (some ⟨w.heap.size + 1, 0, none⟩)] W (FuelPost (w.heap.size + 1) a' len' cap' pbT W)) := fun W h1 h2 => fuel_any W hl (by omega) h1 h2 HBW.out
 obtain ⟨zt, t0, t1, t2, tf⟩ := HT.out.facts
 obtain ⟨zv, v0, v1, v2, vf⟩ := HV.out.facts
 go_wp2_with fail
 generalize hW : w2.alloc (.cells #[.int .i64 TT.kind, .int .i64 TT.num, .slice aT TT.kids.length cT] 25) = W2 at *
 generalize w2.heap.size = gt at *
 go_region_with (go_at_call 47; (refine (HPL.out _ HRD.out.drewR HBY.out.drewR).mono ?_; rintro e w5 ⟨y, rfl, hy0, hy1, -, ho5⟩; obtain ⟨zt', t0', t1', t2', tf'⟩ := (HT.out.drewR.only ho5 hne2).facts; obtain ⟨zv', v0', v1', v2', vf'⟩ := (HV.out.drewR.only ho5 hne).facts))
 all_goals clear HPL HBY HRD HBW HV HT
 all_goals (have HB5 := tuck (Only.below HB.out (Only.ofDrewR ho5) (by omega) HB.out.size); have HI5 := tuck (HINT.out.onlyR2 (Only.ofDrewR ho5) (by omega)); clear HB HINT ho5)
 all_goals go_wp2_with fail
 all_goals refine bodyPost_ret (v := .tuple #[.agg #[.int .i64 TT.kind, .int .i64 TT.num, .slice aT TT.kids.length cT], .int .i64 y]) (by simp [results, Tryz.results15, go_sem, *]) rfl (HP.out TT _ y _ ⟨_, rfl, (HI5.out.set3 (by omega)).mono (by omega)⟩ hszT hy0 hy1 (bSet3 HB5.out (Nat.le_refl _) _ _ _ _ _ _))
theorem dNormalizeInner_any {U : Nat → Int} {a : Option Addr} {b o len cap : Nat} (w : World) (hlen : len ≤ 140737488355328) (hcap : len ≤ cap) (hby : Bytes U a b o len w) : Calls Tryz.prog 37 #[.slice a len cap] w (NormDraw w) := by
 have hz0 : (w.alloc (.cells #[.int .i64 0, .int .i64 0, .slice none 0 0] 25)).heap.size = w.heap.size + 1 := by simp
 have hb0 : Below w.heap.size w (w.alloc (.cells #[.int .i64 0, .int .i64 0, .slice none 0 0] 25)) := below1 _ _
 have HO := tuck (dNormalize_any (w.alloc (.cells #[.int .i64 0, .int .i64 0, .slice none 0 0] 25)) hlen hcap (hby.below hb0))
 have HP : Hid (∀ T v x w', TmIn w' w.heap.size T v → T.size ≤ 1000 → -1 ≤ x → x ≤ 201 → Below w.heap.size w w' → NormDraw w (.returned (.tuple #[v, .int .i64 x])) w') := fun T v x w' h1 h2 h3 h4 h5 => ⟨T, v, x, rfl, h1, h2, h3, h4, h5⟩
 have HV : Hid (VarAt w.heap.size 0 0 (.slice none 0 0) (w.alloc (.cells #[.int .i64 0, .int .i64 0, .slice none 0 0] 25))) := VarAt.new w 0 0 (.slice none 0 0)
 generalize NormDraw w = post at *
 clear hby
 go_enter Tryz.func37, Tryz.ntmps37
 go_wp2_with fail
 refine HO.out.mono ?_
 rintro e w1 ⟨T, v, x, rfl, ⟨s, rfl, hin⟩, hsz, hx0, hx1, hb⟩
 generalize w.alloc (.cells #[.int .i64 0, .int .i64 0, .slice none 0 0] 25) = W0 at *
 obtain ⟨sa, sc, rfl⟩ := hin.form
 have HIN := tuck hin
 have HB := tuck (bAfter hb0 hb)
 replace HV := tuck (HV.out.below hb)
 clear hin hb HO hb0
 have hz3 : w.heap.size < W0.heap.size := by omega
 obtain ⟨zv, v0, v1, v2, vf⟩ := HV.out.facts
 go_wp2_with fail
 refine bodyPost_ret (v := .tuple #[.agg #[.int .i64 T.kind, .int .i64 T.num, .slice sa T.kids.length sc], .int .i64 x]) (by simp [results, Tryz.results37, go_sem, *]) rfl (HP.out T _ x _ ⟨_, rfl, (HIN.out.set3 hz3).mono (Nat.le_of_lt hz3)⟩ hsz hx0 hx1 (bSet3 HB.out (Nat.le_refl _) _ _ _ _ _ _))
theorem dHeadNormal_any {U : Nat → Int} {a : Option Addr} {b o len cap : Nat} (w : World) (hlen : len ≤ 140737488355328) (hcap : len ≤ cap) (hby : Bytes U a b o len w) : Calls Tryz.prog 34 #[.slice a len cap] w (NormDraw w) := by
 have hz0 : (w.alloc (.cells #[.int .i64 0, .int .i64 0, .slice none 0 0] 25)).heap.size = w.heap.size + 1 := by simp
 have hb0 : Below w.heap.size w (w.alloc (.cells #[.int .i64 0, .int .i64 0, .slice none 0 0] 25)) := below1 _ _
 have HO := tuck (dNormalize_any (w.alloc (.cells #[.int .i64 0, .int .i64 0, .slice none 0 0] 25)) hlen hcap (hby.below hb0))
 have HP : Hid (∀ T v x w', TmIn w' w.heap.size T v → T.size ≤ 1000 → -1 ≤ x → x ≤ 201 → Below w.heap.size w w' → NormDraw w (.returned (.tuple #[v, .int .i64 x])) w') := fun T v x w' h1 h2 h3 h4 h5 => ⟨T, v, x, rfl, h1, h2, h3, h4, h5⟩
 have HV : Hid (VarAt w.heap.size 0 0 (.slice none 0 0) (w.alloc (.cells #[.int .i64 0, .int .i64 0, .slice none 0 0] 25))) := VarAt.new w 0 0 (.slice none 0 0)
 generalize NormDraw w = post at *
 clear hby
 go_enter Tryz.func34, Tryz.ntmps34
 go_wp2_with fail
 refine HO.out.mono ?_
 rintro e w1 ⟨T, v, x, rfl, ⟨s, rfl, hin⟩, hsz, hx0, hx1, hb⟩
 generalize w.alloc (.cells #[.int .i64 0, .int .i64 0, .slice none 0 0] 25) = W0 at *
 obtain ⟨sa, sc, rfl⟩ := hin.form
 have HIN := tuck hin
 have HB := tuck (bAfter hb0 hb)
 replace HV := tuck (HV.out.below hb)
 clear hin hb HO hb0
 have hz3 : w.heap.size < W0.heap.size := by omega
 obtain ⟨zv, v0, v1, v2, vf⟩ := HV.out.facts
 go_wp2_with fail
 refine bodyPost_ret (v := .tuple #[.agg #[.int .i64 T.kind, .int .i64 T.num, .slice sa T.kids.length sc], .int .i64 x]) (by simp [results, Tryz.results34, go_sem, *]) rfl (HP.out T _ x _ ⟨_, rfl, (HIN.out.set3 hz3).mono (Nat.le_of_lt hz3)⟩ hsz hx0 hx1 (bSet3 HB.out (Nat.le_refl _) _ _ _ _ _ _))
theorem dReduceSteps_any {U : Nat → Int} {a : Option Addr} {b o len cap : Nat} (w : World) (hlen : len ≤ 140737488355328) (hcap : len ≤ cap) (hby : Bytes U a b o len w) : Calls Tryz.prog 38 #[.slice a len cap] w (NormDraw w) := by
 have hz0 : (w.alloc (.cells #[.int .i64 0, .int .i64 0, .slice none 0 0] 25)).heap.size = w.heap.size + 1 := by simp
 have hb0 : Below w.heap.size w (w.alloc (.cells #[.int .i64 0, .int .i64 0, .slice none 0 0] 25)) := below1 _ _
 have HO := tuck (dNormalize_any (w.alloc (.cells #[.int .i64 0, .int .i64 0, .slice none 0 0] 25)) hlen hcap (hby.below hb0))
 have HP : Hid (∀ T v x w', TmIn w' w.heap.size T v → T.size ≤ 1000 → -1 ≤ x → x ≤ 201 → Below w.heap.size w w' → NormDraw w (.returned (.tuple #[v, .int .i64 x])) w') := fun T v x w' h1 h2 h3 h4 h5 => ⟨T, v, x, rfl, h1, h2, h3, h4, h5⟩
 have HV : Hid (VarAt w.heap.size 0 0 (.slice none 0 0) (w.alloc (.cells #[.int .i64 0, .int .i64 0, .slice none 0 0] 25))) := VarAt.new w 0 0 (.slice none 0 0)
 generalize NormDraw w = post at *
 clear hby
 go_enter Tryz.func38, Tryz.ntmps38
 go_wp2_with fail
 refine HO.out.mono ?_
 rintro e w1 ⟨T, v, x, rfl, ⟨s, rfl, hin⟩, hsz, hx0, hx1, hb⟩
 generalize w.alloc (.cells #[.int .i64 0, .int .i64 0, .slice none 0 0] 25) = W0 at *
 obtain ⟨sa, sc, rfl⟩ := hin.form
 have HIN := tuck hin
 have HB := tuck (bAfter hb0 hb)
 replace HV := tuck (HV.out.below hb)
 clear hin hb HO hb0
 have hz3 : w.heap.size < W0.heap.size := by omega
 obtain ⟨zv, v0, v1, v2, vf⟩ := HV.out.facts
 go_wp2_with fail
 refine bodyPost_ret (v := .tuple #[.agg #[.int .i64 T.kind, .int .i64 T.num, .slice sa T.kids.length sc], .int .i64 x]) (by simp [results, Tryz.results38, go_sem, *]) rfl (HP.out T _ x _ ⟨_, rfl, (HIN.out.set3 hz3).mono (Nat.le_of_lt hz3)⟩ hsz hx0 hx1 (bSet3 HB.out (Nat.le_refl _) _ _ _ _ _ _))
end Go.Proofs.YtabbbnddfcbdiaaGreat
