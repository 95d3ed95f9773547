/-
  DevD, DrawsU.
-/
import Derived.Test.YtjdmfegdgpbkgaaGreatS49
import Derived.Test.YtjdmfegdgpbkgaaGreatS50
namespace Go.Proofs.YtjdmfegdgpbkgaaGreat
open Go.RowKit
def TmPostR (w : World) (e : Ending) (w' : World) : Prop := ∃ (T : Tm) (v : Value), e = .returned v ∧ TmIn w' w.heap.size T v ∧ T.size ≤ 1000 ∧ Below w.heap.size w w'
set_option maxRecDepth 100000 in
set_option maxHeartbeats 1600000 in
theorem dRedexOf_any {U : Nat → Int} {a : Option Addr} {b o len cap : Nat} (w : World) (hlen : len ≤ 140737488355328) (hcap : len ≤ cap) (hby : Bytes U a b o len w) : Calls Tryz.prog 13 #[.slice a len cap] w (TmPostR w) := by
 have HP : Hid (∀ T v w', TmIn w' w.heap.size T v → T.size ≤ 1000 → Below w.heap.size w w' → TmPostR w (.returned v) w') := fun T v w' h1 h2 h3 => ⟨T, v, rfl, h1, h2, h3⟩
 generalize TmPostR w = post at *
 have hz0 : (w.alloc (.cells #[.int .i64 0, .int .i64 0, .slice none 0 0] 25)).heap.size = w.heap.size + 1 := by simp
 have hb0 : Below w.heap.size w (w.alloc (.cells #[.int .i64 0, .int .i64 0, .slice none 0 0] 25)) := below1 _ _
 have HO := tuck (open_any (w.alloc (.cells #[.int .i64 0, .int .i64 0, .slice none 0 0] 25)) hlen hcap (hby.below hb0))
 have hv0 : VarAt w.heap.size 0 0 (.slice none 0 0) (w.alloc (.cells #[.int .i64 0, .int .i64 0, .slice none 0 0] 25)) := VarAt.new w 0 0 (.slice none 0 0)
 clear hby
 go_enter Tryz.func13, Tryz.ntmps13
 go_wp2_with fail
 refine HO.out.mono ?_
 rintro e w1 ⟨a', len', cap', he, hl, hbl, hrd, hby, hb1, hz⟩
 generalize w.alloc (.cells #[.int .i64 0, .int .i64 0, .slice none 0 0] 25) = W0 at *
 have hgz : w.heap.size < W0.heap.size := by omega
 have HB := tuck (bAfter hb0 hb1)
 have HV := tuck (hv0.below hb1)
 clear hb1
 generalize W0.heap.size = g at *
 subst he
 subst hz0
 have HBW : Hid (0 < len' → b ≠ w.heap.size + 1) := tuck (fun h => Nat.ne_of_lt (hbl h))
 have HRD := tuck hrd
 have HBY := tuck hby
 clear hrd hby HO hbl hv0 hb0
 have hne : w.heap.size ≠ w.heap.size + 1 := by omega
 go_wp2_with fail
 refine (l3draw_any _ hl HBW.out (by omega) HRD.out HBY.out).mono ?_
 rintro e w3 ⟨t, s, p', rfl, hsl, hv, hp', hrd, ho⟩
 obtain ⟨sa, sc, rfl⟩ := hsl.form
 have hsz : sizes t.kids ≤ 900 := by have := hv.2.2; have := t.size_eq; omega
 have HIN := tuck (hsl.mono (Nat.zero_le _))
 replace HB := tuck (Only.below HB.out ho (by omega) HB.out.size)
 replace HBY := tuck (HBY.out.only ho HBW.out)
 replace HV := tuck (HV.out.only ho hne)
 replace HRD := tuck hrd
 clear ho hrd hsl hv
 go_wp2_with fail
 refine (lmut_any t _ _ hl HBW.out (by omega) hsz HRD.out HBY.out ⟨_, rfl, HIN.out⟩).mono ?_
 rintro e w4 ⟨T, v, p2, rfl, ⟨s4, rfl, hin⟩, hsz2, -, -, ho⟩
 obtain ⟨sa4, sc4, rfl⟩ := hin.form
 have hz3 : w.heap.size < w3.heap.size := (HV.out.facts).1
 have HIN4 := tuck hin
 replace HB := tuck (Only.below HB.out ho (by omega) HB.out.size)
 replace HV := tuck (HV.out.only ho hne)
 clear ho hin
 obtain ⟨zv, v0, v1, v2, vf⟩ := HV.out.facts
 go_wp2_with fail
 refine bodyPost_ret (v := .agg #[.int .i64 T.kind, .int .i64 T.num, .slice sa4 T.kids.length sc4]) (by simp [results, Tryz.results13, go_sem, *]) rfl (HP.out T _ _ ⟨_, rfl, (HIN4.out.set3 hz3).mono (Nat.le_of_lt hz3)⟩ hsz2 (bSet3 HB.out (Nat.le_refl _) _ _ _ _ _ _))
theorem dDevelopTerm_any {U : Nat → Int} {a : Option Addr} {b o len cap : Nat} (w : World) (hlen : len ≤ 140737488355328) (hcap : len ≤ cap) (hby : Bytes U a b o len w) : Calls Tryz.prog 5 #[.slice a len cap] w (TmPostR w) := by
 have hz0 : (w.alloc (.cells #[.int .i64 0, .int .i64 0, .slice none 0 0] 25)).heap.size = w.heap.size + 1 := by simp
 have hb0 : Below w.heap.size w (w.alloc (.cells #[.int .i64 0, .int .i64 0, .slice none 0 0] 25)) := below1 _ _
 have HO := tuck (dRedexOf_any (w.alloc (.cells #[.int .i64 0, .int .i64 0, .slice none 0 0] 25)) hlen hcap (hby.below hb0))
 have HP : Hid (∀ T v w', TmIn w' w.heap.size T v → T.size ≤ 1000 → Below w.heap.size w w' → TmPostR w (.returned v) w') := fun T v w' h1 h2 h3 => ⟨T, v, rfl, h1, h2, h3⟩
 have HV : Hid (VarAt w.heap.size 0 0 (.slice none 0 0) (w.alloc (.cells #[.int .i64 0, .int .i64 0, .slice none 0 0] 25))) := VarAt.new w 0 0 (.slice none 0 0)
 generalize TmPostR w = post at *
 clear hby
 go_enter Tryz.func5, Tryz.ntmps5
 go_wp2_with fail
 refine HO.out.mono ?_
 rintro e w1 ⟨T, v, rfl, ⟨s, rfl, hin⟩, hsz, hb⟩
 generalize w.alloc (.cells #[.int .i64 0, .int .i64 0, .slice none 0 0] 25) = W0 at *
 obtain ⟨sa, sc, rfl⟩ := hin.form
 have HIN := tuck hin
 have HB := tuck (bAfter hb0 hb)
 replace HV := tuck (HV.out.below hb)
 clear hin hb HO hb0
 have hz3 : w.heap.size < W0.heap.size := by omega
 obtain ⟨zv, v0, v1, v2, vf⟩ := HV.out.facts
 go_wp2_with fail
 refine bodyPost_ret (v := .agg #[.int .i64 T.kind, .int .i64 T.num, .slice sa T.kids.length sc]) (by simp [results, Tryz.results5, go_sem, *]) rfl (HP.out T _ _ ⟨_, rfl, (HIN.out.set3 hz3).mono (Nat.le_of_lt hz3)⟩ hsz (bSet3 HB.out (Nat.le_refl _) _ _ _ _ _ _))
end Go.Proofs.YtjdmfegdgpbkgaaGreat
namespace Go.Proofs.YtjdmfegdgpbkgaaGreat
open Go.RowKit
set_option maxRecDepth 100000 in
theorem developI_any (t : Tm) (w : World) (v : Value) (h : TmIn w 0 t v) : Calls Tryz.prog 6 #[v] w (ReplPost w (DevOk t) t.dev) := by
 obtain ⟨s, rfl, hs⟩ := h
 obtain ⟨a, c, rfl⟩ := hs.form
 have hb2 := below2 w (.cells #[.int .i64 t.kind, .int .i64 t.num, .slice a t.kids.length c] 25) (.cells #[.int .i64 0, .int .i64 0, .slice none 0 0] 25)
 have HV0 := tuck ((VarAt.new w t.kind t.num (.slice a t.kids.length c)).below (below1 _ (.cells #[.int .i64 0, .int .i64 0, .slice none 0 0] 25)))
 have HV1 := tuck (var_new1 w (.cells #[.int .i64 t.kind, .int .i64 t.num, .slice a t.kids.length c] 25) 0 0 (.slice none 0 0))
 have HVAL := tuck (validI_any t _ _ ⟨_, rfl, hs.below hb2⟩)
 have HB2 := tuck hb2
 have HS := tuck hs
 have HN : Hid (¬ DevOk t → ∀ w', Below w.heap.size w w' → ReplPost w (DevOk t) t.dev (.returned (.tuple #[.agg #[.int .i64 0, .int .i64 0, .slice none 0 0], .bool false])) w') := tuck fun h w' hb => ReplPost.no h hb
 have HY : Hid (DevOk t → ∀ w' s F, Below w.heap.size w w' → SlOwn w' t.dev.kids s F → F.Nodup → (∀ g ∈ F, w.heap.size ≤ g ∧ g < w'.heap.size) → ReplPost w (DevOk t) t.dev (.returned (.tuple #[.agg #[.int .i64 t.dev.kind, .int .i64 t.dev.num, s], .bool true])) w') := tuck fun h w' s F h1 h2 h3 h4 => ReplPost.yes h h1 h2 h3 h4
 clear hb2 hs
 generalize hpost : ReplPost w (DevOk t) t.dev = post at *
 by_cases hv : t.Valid
 ·rw [tr_of hv] at HVAL
  have HCON : Hid (∀ w1, Below w.heap.size w w1 → Calls Tryz.prog 15 #[.agg #[.int .i64 t.kind, .int .i64 t.num, .slice a t.kids.length c], .func (.func 16) #[] #[]] w1 (FoldPost (fun _ => False) w1 t.devo)) := tuck fun w1 h => by
   have h2 := fold_any t.kids t.kind t.num w1 (fun _ => False) _ (by rw [Tm.eta]; exact hv) (fun _ h => h.elim) (SlX.of_sl (HS.out.below h) (fun _ h => h.elim))
   rwa [Tm.eta] at h2
  by_cases hc : t.devo.isSome = true
  ·replace HY := tuck (HY.out ⟨hv, hc⟩)
   have hsz := (valid_bounds (dev_valid ⟨hv, hc⟩)).1
   obtain ⟨TT, hTT⟩ := Option.isSome_iff_exists.1 hc
   have hdv := dev_of hTT
   have HCL : Hid (∀ (w1 : World) (s : Value), SlX w1 (fun _ => False) t.dev.kids s → Calls Tryz.prog 17 #[.agg #[.int .i64 t.dev.kind, .int .i64 t.dev.num, s]] w1 (MadePost w1 t.dev)) := tuck fun w1 s h => by
    have h2 := cloneI_any t.dev.kids t.dev.kind t.dev.num w1 s (by omega) h.sl
    rwa [Tm.eta] at h2
   clear HN hv hsz hpost HS
   go_enter Tryz.func6, Tryz.ntmps6
   go_wp2_with fail
   refine HVAL.out.mono ?_
   rintro e w1 ⟨rfl, hb1⟩
   obtain ⟨z0, a0, a1, a2, -⟩ := (HV0.out.below hb1).facts
   obtain ⟨z1, r0, r1, r2, rf⟩ := (HV1.out.below hb1).facts
   have HB1 := tuck (bAfter HB2.out hb1)
   clear hb1 HVAL
   go_wp2_with fail
   refine (HCON.out _ HB1.out).mono ?_
   rintro e w2 hpost2
   obtain ⟨hb2, U, us, rfl, hsU, hU⟩ := hpost2
   obtain ⟨ua, uc, rfl⟩ := hsU.form
   replace r0 := (hb2.cell (p := ⟨w.heap.size + 1, 0, none⟩) z1).trans r0
   replace r1 := (hb2.cell (p := ⟨w.heap.size + 1, 1, none⟩) z1).trans r1
   replace r2 := (hb2.cell (p := ⟨w.heap.size + 1, 2, none⟩) z1).trans r2
   have rf2 : ∀ i, w2.frozen? ⟨w.heap.size + 1, i, none⟩ = false := fun i => (hb2.frozen (p := ⟨w.heap.size + 1, i, none⟩) z1).trans (rf i)
   have z2 : w.heap.size + 1 < w2.heap.size := Nat.lt_of_lt_of_le z1 hb2.size
   have HB3 := tuck (bAfter HB1.out hb2)
   have hUe : U = t.dev := (hU TT hTT).trans hdv.symm
   subst hUe
   rw [hTT]
   simp only [Option.isSome_some]
   have HSU := tuck hsU
   clear hU hb2 hsU rf HCON hc hTT hdv
   generalize t.dev = T at *
   go_wp2_with fail
   have hbx := below1 w2 (.cells #[.int .i64 T.kind, .int .i64 T.num, .slice ua T.kids.length uc] 25)
   refine (HCL.out _ _ (HSU.out.below hbx)).mono ?_
   rintro e w3 ⟨hb3, tv, rfl, sv, F, rfl, hs3, hn3, hF3⟩
   obtain ⟨sa, sc, rfl⟩ := hs3.form
   have hb23 := bAfter hbx hb3
   replace r0 := (hb23.cell (p := ⟨w.heap.size + 1, 0, none⟩) z2).trans r0
   replace r1 := (hb23.cell (p := ⟨w.heap.size + 1, 1, none⟩) z2).trans r1
   replace r2 := (hb23.cell (p := ⟨w.heap.size + 1, 2, none⟩) z2).trans r2
   have rf3 : ∀ i, w3.frozen? ⟨w.heap.size + 1, i, none⟩ = false := fun i => (hb23.frozen (p := ⟨w.heap.size + 1, i, none⟩) z2).trans (rf2 i)
   have HB4 := tuck (bAfter HB3.out hb23)
   have HS3 := tuck hs3
   have HN3 := tuck hn3
   have hle : w2.heap.size ≤ (w2.alloc (.cells #[.int .i64 T.kind, .int .i64 T.num, .slice ua T.kids.length uc] 25)).heap.size := hbx.size
   have HF3 : Hid (∀ g ∈ F, w.heap.size + 1 < g ∧ g < w3.heap.size) := tuck fun g hg => ⟨Nat.lt_of_lt_of_le z2 (Nat.le_trans hle (hF3 g hg).1), (hF3 g hg).2⟩
   clear hs3 hn3 hF3 hb23 hb3 hbx hle rf2
   go_wp2_with fail
   refine bodyPost_ret (v := .tuple #[.agg #[.int .i64 T.kind, .int .i64 T.num, .slice sa T.kids.length sc], .bool true]) (by simp [results, Tryz.results6, go_sem, *]) rfl (HY.out _ _ F ?_ ?_ HN3.out fun g hg => ?_)
   ·exact bSet3 HB4.out (Nat.le_succ _) _ _ _ _ _ _
   ·exact HS3.out.set3 (fun h => by have := (HF3.out _ h).1; omega) _ _ _ _ _ _
   ·rw [size_set3]
    have := HF3.out g hg
    exact ⟨by omega, this.2⟩
  ·replace HN := tuck (HN.out (fun h => hc h.2))
   clear HY hv hpost HS
   go_enter Tryz.func6, Tryz.ntmps6
   go_wp2_with fail
   refine HVAL.out.mono ?_
   rintro e w1 ⟨rfl, hb1⟩
   obtain ⟨z0, a0, a1, a2, -⟩ := (HV0.out.below hb1).facts
   obtain ⟨z1, r0, r1, r2, rf⟩ := (HV1.out.below hb1).facts
   have HB1 := tuck (bAfter HB2.out hb1)
   clear hb1 HVAL
   go_wp2_with fail
   refine (HCON.out _ HB1.out).mono ?_
   rintro e w2 hpost2
   obtain ⟨hb2, U, us, rfl, hsU, hU⟩ := hpost2
   obtain ⟨ua, uc, rfl⟩ := hsU.form
   replace r0 := (hb2.cell (p := ⟨w.heap.size + 1, 0, none⟩) z1).trans r0
   replace r1 := (hb2.cell (p := ⟨w.heap.size + 1, 1, none⟩) z1).trans r1
   replace r2 := (hb2.cell (p := ⟨w.heap.size + 1, 2, none⟩) z1).trans r2
   have rf2 : ∀ i, w2.frozen? ⟨w.heap.size + 1, i, none⟩ = false := fun i => (hb2.frozen (p := ⟨w.heap.size + 1, i, none⟩) z1).trans (rf i)
   have z2 : w.heap.size + 1 < w2.heap.size := Nat.lt_of_lt_of_le z1 hb2.size
   have HB3 := tuck (bAfter HB1.out hb2)
   rw [show t.devo.isSome = false by simpa using hc]
   clear hU hb2 hsU rf HCON hc
   go_wp2_with fail
   refine bodyPost_ret (v := .tuple #[.agg #[.int .i64 0, .int .i64 0, .slice none 0 0], .bool false]) (by simp [results, Tryz.results6, go_sem, *]) rfl (HN.out _ ?_)
   exact bAfter (bSet3 HB3.out (Nat.le_succ _) _ _ _ _ _ _) (below1 _ _)
 ·rw [tr_not hv] at HVAL
  replace HN := tuck (HN.out (fun h => hv h.1))
  clear HY hv hpost HS
  go_enter Tryz.func6, Tryz.ntmps6
  go_wp2_with fail
  refine HVAL.out.mono ?_
  rintro e w1 ⟨rfl, hb1⟩
  obtain ⟨z0, a0, a1, a2, -⟩ := (HV0.out.below hb1).facts
  obtain ⟨z1, r0, r1, r2, rf⟩ := (HV1.out.below hb1).facts
  have HB1 := tuck (bAfter HB2.out hb1)
  clear hb1 HVAL
  go_wp2_with fail
  refine bodyPost_ret (v := .tuple #[.agg #[.int .i64 0, .int .i64 0, .slice none 0 0], .bool false]) (by simp [results, Tryz.results6, go_sem, *]) rfl (HN.out _ ?_)
  exact bSet3 HB1.out (Nat.le_succ _) _ _ _ _ _ _
end Go.Proofs.YtjdmfegdgpbkgaaGreat
