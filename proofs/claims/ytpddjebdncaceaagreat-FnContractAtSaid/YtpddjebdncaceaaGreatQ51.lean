/-
  PthD, PthC.
-/
import Derived.Test.YtpddjebdncaceaaGreatQ48
import Derived.Test.YtpddjebdncaceaaGreatQ50
namespace Go.Proofs.YtpddjebdncaceaaGreat
open Go.RowKit
def PathDraw (w : World) (e : Ending) (w' : World) : Prop := ∃ (T : Tm) (v : Value) (N : Int → Int) (n vb vo vc : Nat), e = .returned (.tuple #[v, .slice (some ⟨vb, vo, none⟩) n vc]) ∧ TmIn w' w.heap.size T v ∧ IntsC w' w.heap.size N n (.slice (some ⟨vb, vo, none⟩) n vc) ∧ n ≤ 1048576 ∧ T.size ≤ 1000 ∧ Below w.heap.size w w'
theorem IntsC.keep {w w' : World} {B : Nat} {N : Int → Int} {n : Nat} {v : Value} (h : IntsC w B N n v) (hk : ∀ b, B ≤ b → b < w.heap.size → b < w'.heap.size ∧ ∀ o, w'.cell? ⟨b, o, none⟩ = w.cell? ⟨b, o, none⟩) : IntsC w' B N n v := by
 obtain ⟨⟨a, cap, b, o, rfl, h1, h2⟩, h3⟩ := h
 refine ⟨⟨a, cap, b, o, rfl, fun h0 => ?_, fun i hi => ?_⟩, h3⟩
 ·obtain ⟨e1, e2, e3⟩ := h1 h0
  exact ⟨e1, e2, (hk b e2 e3).1⟩
 ·obtain ⟨e1, e2, e3⟩ := h1 (by omega)
  rw [(hk b e2 e3).2]
  exact h2 i hi
theorem IntsC.set3 {w : World} {B g : Nat} {N : Int → Int} {n : Nat} {v x y z : Value} (h : IntsC w B N n v) (hg : g < B) : IntsC (((w.setCell ⟨g, 0, none⟩ x).setCell ⟨g, 1, none⟩ y).setCell ⟨g, 2, none⟩ z) B N n v :=
 h.keep fun b hb hz => ⟨by simpa [World.setCell] using hz, fun o => by
  rw [World.cell?_of_block (a := ⟨b, o, none⟩) (Below.heap_setCell _ _ _ b (by show b ≠ g; omega)), World.cell?_of_block (a := ⟨b, o, none⟩) (Below.heap_setCell _ _ _ b (by show b ≠ g; omega)), World.cell?_of_block (a := ⟨b, o, none⟩) (Below.heap_setCell _ _ _ b (by show b ≠ g; omega))]⟩
set_option maxRecDepth 100000 in
set_option maxHeartbeats 1600000 in
theorem dTermAt_any {U : Nat → Int} {a : Option Addr} {b o len cap : Nat} (w : World) (hlen : len ≤ 140737488355328) (hcap : len ≤ cap) (hby : Bytes U a b o len w) : Calls Tryz.prog 42 #[.slice a len cap] w (PathDraw w) := by
 have HP : Hid (∀ T v N n vb vo vc w', TmIn w' w.heap.size T v → IntsC w' w.heap.size N n (.slice (some ⟨vb, vo, none⟩) n vc) → n ≤ 1048576 → T.size ≤ 1000 → Below w.heap.size w w' → PathDraw w (.returned (.tuple #[v, .slice (some ⟨vb, vo, none⟩) n vc])) w') := fun T v N n vb vo vc w' h1 h2 h3 h4 h5 => ⟨T, v, N, n, vb, vo, vc, rfl, h1, h2, h3, h4, h5⟩
 generalize PathDraw w = post at *
 have hz0 : (w.alloc (.cells #[.int .i64 0, .int .i64 0, .slice none 0 0] 34)).heap.size = w.heap.size + 1 := by simp
 have hb0 : Below w.heap.size w (w.alloc (.cells #[.int .i64 0, .int .i64 0, .slice none 0 0] 34)) := below1 _ _
 have HO := tuck (open_any (w.alloc (.cells #[.int .i64 0, .int .i64 0, .slice none 0 0] 34)) hlen hcap (hby.below hb0))
 have hv0 : VarAt w.heap.size 0 0 (.slice none 0 0) (w.alloc (.cells #[.int .i64 0, .int .i64 0, .slice none 0 0] 34)) := VarAt.new w 0 0 (.slice none 0 0)
 clear hby
 go_enter Tryz.func42, Tryz.ntmps42
 go_wp2_with fail
 refine HO.out.mono ?_
 rintro e w1 ⟨a', len', cap', he, hl, hbl, hrd, hby, hb1, hz⟩
 generalize w.alloc (.cells #[.int .i64 0, .int .i64 0, .slice none 0 0] 34) = W0 at *
 have hgz : w.heap.size < W0.heap.size := by omega
 have HB := tuck (bAfter hb0 hb1)
 have HV := tuck (hv0.below hb1)
 clear hb1
 generalize W0.heap.size = g at *
 subst he
 subst hz0
 have HBW : Hid (0 < len' → b ≠ w.heap.size + 1) := tuck (fun h => Nat.ne_of_lt (hbl h))
 have HRD := tuck hrd
 have HBY := tuck hby
 clear hrd hby HO hbl hv0 hb0
 have hne : w.heap.size ≠ w.heap.size + 1 := by omega
 go_wp2_with fail
 refine (l3draw_any _ hl HBW.out (by omega) HRD.out HBY.out).mono ?_
 rintro e w3 ⟨t, s, p', rfl, hsl, hv, hp', hrd, ho⟩
 obtain ⟨sa, sc, rfl⟩ := hsl.form
 have hsz : sizes t.kids ≤ 900 := by have := hv.2.2; have := t.size_eq; omega
 have HIN := tuck (hsl.mono (Nat.zero_le _))
 replace HB := tuck (Only.below HB.out ho (by omega) HB.out.size)
 replace HBY := tuck (HBY.out.only ho HBW.out)
 replace HV := tuck (HV.out.only ho hne)
 replace HRD := tuck hrd
 clear ho hrd hsl hv
 go_wp2_with fail
 refine (lmut_any t _ _ hl HBW.out (by omega) hsz HRD.out HBY.out ⟨_, rfl, HIN.out⟩).mono ?_
 rintro e w2 ⟨TT, vT, pbT, rfl, ⟨s4, rfl, hin⟩, hszT, hpb, hrd, ho⟩
 obtain ⟨aT, cT, rfl⟩ := hin.form
 have hlr : w.heap.size + 1 < w3.heap.size := HRD.out.facts.1
 have HINT := tuck (hin.mono (show w.heap.size + 2 ≤ _ from hlr))
 have hgeT : w.heap.size + 1 < w2.heap.size := Nat.lt_of_lt_of_le hlr ho.size
 replace HB := tuck (Only.below HB.out ho (by omega) HB.out.size)
 replace HBY := tuck (HBY.out.only ho HBW.out)
 replace HV := tuck (HV.out.only ho hne)
 replace HRD := tuck hrd
 have hpT : pbT ≤ 70000 := by omega
 clear ho hin hrd HIN hsz hlr hpb
 have HT := tuck (VarAt.new w2 TT.kind TT.num (.slice aT TT.kids.length cT))
 have hbx := below1 w2 (.cells #[.int .i64 TT.kind, .int .i64 TT.num, .slice aT TT.kids.length cT] 34)
 replace HINT := tuck (HINT.out.below hbx)
 replace HB := tuck (bAfter HB.out hbx)
 replace HBY := tuck (HBY.out.below hbx)
 replace HV := tuck (HV.out.below hbx)
 replace HRD := tuck (HRD.out.below hbx)
 clear hbx
 have hne2 : w2.heap.size ≠ w.heap.size + 1 := by omega
 have HPL : Hid (∀ W, Rd (w.heap.size + 1) a' len' cap' pbT W → Bytes U a' b o len' W → SlIn W 0 TT.kids (.slice aT TT.kids.length cT) → Calls Tryz.prog 78 #[.pointer (some ⟨w.heap.size + 1, 0, none⟩), .agg #[.int .i64 TT.kind, .int .i64 TT.num, .slice aT TT.kids.length cT]] W (PathPost (w.heap.size + 1) a' len' cap' pbT W)) := fun W h1 h2 h3 => l8path_any TT W _ hl HBW.out (by omega) h1 h2 ⟨_, rfl, h3⟩
 obtain ⟨zt, t0, t1, t2, tf⟩ := HT.out.facts
 obtain ⟨zv, v0, v1, v2, vf⟩ := HV.out.facts
 go_wp2_with fail
 generalize hW : w2.alloc (.cells #[.int .i64 TT.kind, .int .i64 TT.num, .slice aT TT.kids.length cT] 34) = W2 at *
 generalize w2.heap.size = gt at *
 have HZR : Hid (w.heap.size + 1 < W2.heap.size) := tuck HRD.out.facts.1
 go_region_with (go_at_call 78; (refine (HPL.out _ HRD.out.drewR HBY.out.drewR ((HINT.out.mono (Nat.zero_le _)).below (Below.refl _ _).drew)).mono ?_; rintro e w5 ⟨N, n, p5, vb, vo, vc, rfl, hi5, hn5, -, -, ho5⟩; obtain ⟨zt', t0', t1', t2', tf'⟩ := (HT.out.drewR.only ho5 hne2).facts; obtain ⟨zv', v0', v1', v2', vf'⟩ := (HV.out.drewR.only ho5 hne).facts))
 all_goals clear HPL HBY HRD HBW HV HT
 all_goals (have hzr : w.heap.size + 1 < W2.drew.heap.size := HZR.out; have HB5 := tuck (Only.below HB.out (Only.ofDrewR ho5) (by omega) HB.out.size); have HI5 := tuck (HINT.out.onlyR2 (Only.ofDrewR ho5) (by omega)); have HN5 := tuck (hi5.mono (show w.heap.size + 1 ≤ _ by omega)); clear HB HINT ho5 hi5)
 all_goals go_wp2_with fail
 all_goals refine bodyPost_ret (v := .tuple #[.agg #[.int .i64 TT.kind, .int .i64 TT.num, .slice aT TT.kids.length cT], .slice (some ⟨vb, vo, none⟩) n vc]) (by simp [results, Tryz.results42, go_sem, *]) rfl (HP.out TT _ N n vb vo vc _ ⟨_, rfl, (HI5.out.set3 (by omega)).mono (by omega)⟩ ((HN5.out.set3 (by omega)).mono (by omega)) hn5 hszT (bSet3 HB5.out (Nat.le_refl _) _ _ _ _ _ _))
end Go.Proofs.YtpddjebdncaceaaGreat
namespace Go.Proofs.YtpddjebdncaceaaGreat
open Go.RowKit
set_option linter.unusedVariables false
set_option linter.unusedSimpArgs false
set_option maxRecDepth 100000 in
set_option maxHeartbeats 1600000 in
theorem dContractAt_any {U : Nat → Int} {a : Option Addr} {b o len cap : Nat} (w : World) (hlen : len ≤ 140737488355328) (hcap : len ≤ cap) (hby : Bytes U a b o len w) : Calls Tryz.prog 19 #[.slice a len cap] w (PathDraw w) := by
 have HP : Hid (∀ T v N n vb vo vc w', TmIn w' w.heap.size T v → IntsC w' w.heap.size N n (.slice (some ⟨vb, vo, none⟩) n vc) → n ≤ 1048576 → T.size ≤ 1000 → Below w.heap.size w w' → PathDraw w (.returned (.tuple #[v, .slice (some ⟨vb, vo, none⟩) n vc])) w') := tuck fun T v N n vb vo vc w' h1 h2 h3 h4 h5 => ⟨T, v, N, n, vb, vo, vc, rfl, h1, h2, h3, h4, h5⟩
 generalize PathDraw w = post at *
 have hb0 := below1 w (.cells #[.int .i64 0, .int .i64 0, .slice none 0 0] 34)
 have HD := tuck (dTermAt_any (w.alloc (.cells #[.int .i64 0, .int .i64 0, .slice none 0 0] 34)) hlen hcap (hby.below hb0))
 have HB := tuck hb0
 have HV := tuck (VarAt.new w 0 0 (.slice none 0 0))
 have hz : (w.alloc (.cells #[.int .i64 0, .int .i64 0, .slice none 0 0] 34)).heap.size = w.heap.size + 1 := by simp
 have HZ := tuck hz
 clear hby hb0 hz
 go_enter Tryz.func19, Tryz.ntmps19
 go_wp2_with fail
 generalize w.alloc (.cells #[.int .i64 0, .int .i64 0, .slice none 0 0] 34) = W0 at *
 refine HD.out.mono ?_
 rintro e w1 ⟨T, v, N, n, vb, vo, vc, rfl, ⟨s, rfl, hin⟩, hil, hn9, hsz, hb⟩
 obtain ⟨aV, cV, rfl⟩ := hin.form
 replace HB := tuck (bAfter HB.out hb)
 replace HV := tuck (HV.out.below hb)
 rw [HZ.out] at hin hil
 have HIN := tuck hin
 have HIL := tuck hil
 have HN := tuck hn9
 have HSZ := tuck hsz
 clear hin hil hn9 hsz hb HD
 obtain ⟨z0, k0, k1, k2, kf⟩ := HV.out.facts
 go_wp2_with fail
 refine bodyPost_ret (v := .tuple #[.agg #[.int .i64 T.kind, .int .i64 T.num, .slice aV T.kids.length cV], .slice (some ⟨vb, vo, none⟩) n vc]) (by simp [results, Tryz.results19, go_sem, *]) rfl (HP.out T _ N n vb vo vc _ ⟨_, rfl, (HIN.out.set3 (Nat.lt_succ_self _)).mono (Nat.le_succ _)⟩ ((HIL.out.set3 (Nat.lt_succ_self _)).mono (Nat.le_succ _)) HN.out HSZ.out (bSet3 HB.out (Nat.le_refl _) _ _ _ _ _ _))
end Go.Proofs.YtpddjebdncaceaaGreat
