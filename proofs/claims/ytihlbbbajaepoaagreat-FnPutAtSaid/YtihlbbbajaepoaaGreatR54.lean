/-
  PthD, PthE.
-/
import Derived.Test.YtihlbbbajaepoaaGreatR52
import Derived.Test.YtihlbbbajaepoaaGreatR53
namespace Go.Proofs.YtihlbbbajaepoaaGreat
open Go.RowKit
theorem IntsC.keep {w w' : World} {B : Nat} {N : Int → Int} {n : Nat} {v : Value} (h : IntsC w B N n v) (hk : ∀ b, B ≤ b → b < w.heap.size → b < w'.heap.size ∧ ∀ o, w'.cell? ⟨b, o, none⟩ = w.cell? ⟨b, o, none⟩) : IntsC w' B N n v := by
 obtain ⟨⟨a, cap, b, o, rfl, h1, h2⟩, h3⟩ := h
 refine ⟨⟨a, cap, b, o, rfl, fun h0 => ?_, fun i hi => ?_⟩, h3⟩
 ·obtain ⟨e1, e2, e3⟩ := h1 h0
  exact ⟨e1, e2, (hk b e2 e3).1⟩
 ·obtain ⟨e1, e2, e3⟩ := h1 (by omega)
  rw [(hk b e2 e3).2]
  exact h2 i hi
theorem IntsC.set3 {w : World} {B g : Nat} {N : Int → Int} {n : Nat} {v x y z : Value} (h : IntsC w B N n v) (hg : g < B) : IntsC (((w.setCell ⟨g, 0, none⟩ x).setCell ⟨g, 1, none⟩ y).setCell ⟨g, 2, none⟩ z) B N n v :=
 h.keep fun b hb hz => ⟨by simpa [World.setCell] using hz, fun o => by
  rw [World.cell?_of_block (a := ⟨b, o, none⟩) (Below.heap_setCell _ _ _ b (by show b ≠ g; omega)), World.cell?_of_block (a := ⟨b, o, none⟩) (Below.heap_setCell _ _ _ b (by show b ≠ g; omega)), World.cell?_of_block (a := ⟨b, o, none⟩) (Below.heap_setCell _ _ _ b (by show b ≠ g; omega))]⟩
end Go.Proofs.YtihlbbbajaepoaaGreat
namespace Go.Proofs.YtihlbbbajaepoaaGreat
open Go.RowKit
def PutDraw (w : World) (e : Ending) (w' : World) : Prop := ∃ (T : Tm) (v : Value) (N : Int → Int) (n vb vo vc : Nat) (S : Tm) (u : Value), e = .returned (.tuple #[v, .slice (some ⟨vb, vo, none⟩) n vc, u]) ∧ TmIn w' w.heap.size T v ∧ IntsC w' w.heap.size N n (.slice (some ⟨vb, vo, none⟩) n vc) ∧ TmIn w' w.heap.size S u ∧ n ≤ 1048576 ∧ T.size ≤ 1000 ∧ S.size ≤ 1000 ∧ Below w.heap.size w w'
theorem IntsC.onlyE {g B : Nat} {w w' : World} {N : Int → Int} {n : Nat} {v : Value} (h : IntsC w B N n v) (ho : Only g w w') (hg : g < B) : IntsC w' B N n v :=
 h.keep fun b hb hz => ⟨Nat.lt_of_lt_of_le hz ho.size, fun o => ho.cell (p := ⟨b, o, none⟩) hz (by show b ≠ g; omega)⟩
set_option maxRecDepth 100000 in
set_option maxHeartbeats 4000000 in
theorem dPutAt_any {U : Nat → Int} {a : Option Addr} {b o len cap : Nat} (w : World) (hlen : len ≤ 140737488355328) (hcap : len ≤ cap) (hby : Bytes U a b o len w) : Calls Tryz.prog 27 #[.slice a len cap] w (PutDraw w) := by
 have HP : Hid (∀ T v N n vb vo vc S u w', TmIn w' w.heap.size T v → IntsC w' w.heap.size N n (.slice (some ⟨vb, vo, none⟩) n vc) → TmIn w' w.heap.size S u → n ≤ 1048576 → T.size ≤ 1000 → S.size ≤ 1000 → Below w.heap.size w w' → PutDraw w (.returned (.tuple #[v, .slice (some ⟨vb, vo, none⟩) n vc, u])) w') := fun T v N n vb vo vc S u w' h1 h2 h3 h4 h5 h6 h7 => ⟨T, v, N, n, vb, vo, vc, S, u, rfl, h1, h2, h3, h4, h5, h6, h7⟩
 generalize PutDraw w = post at *
 have hz0 : ((w.alloc (.cells #[.int .i64 0, .int .i64 0, .slice none 0 0] 34)).alloc (.cells #[.int .i64 0, .int .i64 0, .slice none 0 0] 34)).heap.size = w.heap.size + 2 := by simp
 have hb0 : Below w.heap.size w ((w.alloc (.cells #[.int .i64 0, .int .i64 0, .slice none 0 0] 34)).alloc (.cells #[.int .i64 0, .int .i64 0, .slice none 0 0] 34)) := below2 _ _ _
 have HO := tuck (open_any ((w.alloc (.cells #[.int .i64 0, .int .i64 0, .slice none 0 0] 34)).alloc (.cells #[.int .i64 0, .int .i64 0, .slice none 0 0] 34)) hlen hcap (hby.below hb0))
 have hv0 : VarAt w.heap.size 0 0 (.slice none 0 0) ((w.alloc (.cells #[.int .i64 0, .int .i64 0, .slice none 0 0] 34)).alloc (.cells #[.int .i64 0, .int .i64 0, .slice none 0 0] 34)) := (VarAt.new w 0 0 (.slice none 0 0)).below (below1 _ _)
 have hv1 : VarAt (w.heap.size + 1) 0 0 (.slice none 0 0) ((w.alloc (.cells #[.int .i64 0, .int .i64 0, .slice none 0 0] 34)).alloc (.cells #[.int .i64 0, .int .i64 0, .slice none 0 0] 34)) := var_new1 w (.cells #[.int .i64 0, .int .i64 0, .slice none 0 0] 34) 0 0 (.slice none 0 0)
 clear hby
 go_enter Tryz.func27, Tryz.ntmps27
 go_wp2_with fail
 refine HO.out.mono ?_
 rintro e w1 ⟨a', len', cap', he, hl, hbl, hrd, hby, hb1, hz⟩
 generalize ((w.alloc (.cells #[.int .i64 0, .int .i64 0, .slice none 0 0] 34)).alloc (.cells #[.int .i64 0, .int .i64 0, .slice none 0 0] 34)) = W0 at *
 have hgz : w.heap.size + 1 < W0.heap.size := by omega
 have HB := tuck (bAfter hb0 hb1)
 have HV := tuck (hv0.below hb1)
 have HU := tuck (hv1.below hb1)
 clear hb1
 generalize W0.heap.size = g at *
 subst he
 subst hz0
 have HBW : Hid (0 < len' → b ≠ w.heap.size + 2) := tuck (fun h => Nat.ne_of_lt (hbl h))
 have HRD := tuck hrd
 have HBY := tuck hby
 clear hrd hby HO hbl hv0 hv1 hb0
 have hne : w.heap.size ≠ w.heap.size + 2 := by omega
 have hne1 : w.heap.size + 1 ≠ w.heap.size + 2 := by omega
 go_wp2_with fail
 refine (l3draw_any _ hl HBW.out (by omega) HRD.out HBY.out).mono ?_
 rintro e w3 ⟨t, s, p', rfl, hsl, hv, hp', hrd, ho⟩
 obtain ⟨sa, sc, rfl⟩ := hsl.form
 have hsz : sizes t.kids ≤ 900 := by have := hv.2.2; have := t.size_eq; omega
 have HIN := tuck (hsl.mono (Nat.zero_le _))
 replace HB := tuck (Only.below HB.out ho (by omega) HB.out.size)
 replace HBY := tuck (HBY.out.only ho HBW.out)
 replace HV := tuck (HV.out.only ho hne)
 replace HU := tuck (HU.out.only ho hne1)
 replace HRD := tuck hrd
 clear ho hrd hsl hv
 go_wp2_with fail
 refine (lmut_any t _ _ hl HBW.out (by omega) hsz HRD.out HBY.out ⟨_, rfl, HIN.out⟩).mono ?_
 rintro e w2 ⟨TT, vT, pbT, rfl, ⟨s4, rfl, hin⟩, hszT, hpb, hrd, ho⟩
 obtain ⟨aT, cT, rfl⟩ := hin.form
 have hlr : w.heap.size + 2 < w3.heap.size := HRD.out.facts.1
 have HINT := tuck (hin.mono (show w.heap.size + 3 ≤ _ from hlr))
 have hgeT : w.heap.size + 2 < w2.heap.size := Nat.lt_of_lt_of_le hlr ho.size
 replace HB := tuck (Only.below HB.out ho (by omega) HB.out.size)
 replace HBY := tuck (HBY.out.only ho HBW.out)
 replace HV := tuck (HV.out.only ho hne)
 replace HU := tuck (HU.out.only ho hne1)
 replace HRD := tuck hrd
 have hpT : pbT ≤ 60000 := by omega
 clear ho hin hrd HIN hsz hlr hpb
 have HT := tuck (VarAt.new w2 TT.kind TT.num (.slice aT TT.kids.length cT))
 have hbx := below1 w2 (.cells #[.int .i64 TT.kind, .int .i64 TT.num, .slice aT TT.kids.length cT] 34)
 replace HINT := tuck (HINT.out.below hbx)
 replace HB := tuck (bAfter HB.out hbx)
 replace HBY := tuck (HBY.out.below hbx)
 replace HV := tuck (HV.out.below hbx)
 replace HU := tuck (HU.out.below hbx)
 replace HRD := tuck (HRD.out.below hbx)
 clear hbx
 have hne2 : w2.heap.size ≠ w.heap.size + 2 := by omega
 obtain ⟨zt, t0, t1, t2, tf⟩ := HT.out.facts
 go_wp2_with fail
 generalize w2.alloc (.cells #[.int .i64 TT.kind, .int .i64 TT.num, .slice aT TT.kids.length cT] 34) = W2 at *
 generalize w2.heap.size = gt at *
 have hzr : w.heap.size + 2 < W2.heap.size := HRD.out.facts.1
 refine (l8path_any TT W2 _ hl HBW.out (by omega) HRD.out HBY.out ⟨_, rfl, HINT.out.mono (Nat.zero_le _)⟩).mono ?_
 rintro e w5 ⟨N, n, p5, vb, vo, vc, rfl, hi5, hn5, hp5, hrd, ho⟩
 clear zt t0 t1 t2 tf
 have HN5 := tuck (hi5.mono (show w.heap.size + 3 ≤ _ from hzr))
 replace HB := tuck (Only.below HB.out ho (by omega) HB.out.size)
 replace HBY := tuck (HBY.out.only ho HBW.out)
 replace HV := tuck (HV.out.only ho hne)
 replace HU := tuck (HU.out.only ho hne1)
 replace HT := tuck (HT.out.only ho hne2)
 replace HINT := tuck (HINT.out.onlyR2 ho (by omega))
 have hzr5 : w.heap.size + 2 < w5.heap.size := Nat.lt_of_lt_of_le hzr ho.size
 replace HRD := tuck hrd
 clear ho hrd hi5
 obtain ⟨zt, t0, t1, t2, tf⟩ := HT.out.facts
 obtain ⟨zv, v0, v1, v2, vf⟩ := HV.out.facts
 obtain ⟨zu, u0, u1, u2, uf⟩ := HU.out.facts
 have hp6 : p5 ≤ 70000 := by omega
 have HAN : Hid (∀ W, Rd (w.heap.size + 2) a' len' cap' p5 W → Bytes U a' b o len' W → Calls Tryz.prog 67 #[.pointer (some ⟨w.heap.size + 2, 0, none⟩)] W (AnyPost (w.heap.size + 2) a' len' cap' p5 W)) := tuck fun W h1 h2 => lany_any W hl HBW.out (by omega) h1 h2
 go_wp2_with fail
 clear t0 t1 t2 v0 v1 v2 u0 u1 u2 zv vf zu uf
 obtain ⟨zt, t0, t1, t2, tf⟩ := HT.out.facts
 go_region_with (first | (go_at_call 67; (refine (HAN.out _ HRD.out.drewR HBY.out.drewR).mono ?_; rintro e w6 ⟨S0, s0, F0, p6, rfl, hso, -, hF, hvS, hp6', hrd6, ho6⟩; obtain ⟨s0a, s0c, rfl⟩ := hso.form; obtain ⟨zt', t0', t1', t2', tf'⟩ := (HT.out.drewR.only ho6 hne2).facts; have HRD6 := tuck hrd6; have HBY6 := tuck (HBY.out.drewR.only ho6 HBW.out); have HS6 := tuck (hso.sl (B := 0) (fun _ _ => Nat.zero_le _)); have HO6 := tuck (Only.ofDrewR ho6); have hsz6 : sizes S0.kids ≤ 900 := (by have h1 := hvS.2.2; have h2 := S0.size_eq; omega); clear hrd6 ho6 hso hF hvS)) | (go_at_call 57; (refine (lmut_any S0 _ _ hl HBW.out (by omega) hsz6 HRD6.out HBY6.out ⟨_, rfl, HS6.out⟩).mono ?_; rintro e w7 ⟨S, vS, p7, rfl, ⟨sS, rfl, hin7⟩, hszS, -, -, ho7⟩; obtain ⟨aS, cS, rfl⟩ := hin7.form; have HO7 := tuck (HO6.out.trans ho7); have HIN7 := tuck hin7; obtain ⟨zt7, t07, t17, t27, tf7⟩ := (HT.out.only HO7.out hne2).facts; obtain ⟨zv7, v07, v17, v27, vf7⟩ := (HV.out.only HO7.out hne).facts; obtain ⟨zu7, u07, u17, u27, uf7⟩ := (HU.out.only HO7.out hne1).facts; clear ho7 hin7)))
 all_goals (have hz6 : w.heap.size + 3 ≤ w6.heap.size := Nat.le_trans hzr5 HO6.out.size; have HB7 := tuck (Only.below HB.out HO7.out (by omega) HB.out.size); have HI7 := tuck (HINT.out.onlyR2 HO7.out (by omega)); have HN7 := tuck (HN5.out.onlyE HO7.out (by omega)); have HS7 := tuck (HIN7.out.mono hz6); clear HB HINT HN5 HIN7 HO6 HO7 HRD HBY HRD6 HBY6 HS6 HAN HT HV HU)
 all_goals go_wp2_with fail
 all_goals refine bodyPost_ret (v := .tuple #[.agg #[.int .i64 TT.kind, .int .i64 TT.num, .slice aT TT.kids.length cT], .slice (some ⟨vb, vo, none⟩) n vc, .agg #[.int .i64 S.kind, .int .i64 S.num, .slice aS S.kids.length cS]]) (by simp [results, Tryz.results27, go_sem, *]) rfl (HP.out TT _ N n vb vo vc S _ _ ⟨_, rfl, ((HI7.out.set3 (by omega)).set3 (by omega)).mono (by omega)⟩ (((HN7.out.set3 (by omega)).set3 (by omega)).mono (by omega)) ⟨_, rfl, ((HS7.out.set3 (by omega)).set3 (by omega)).mono (by omega)⟩ hn5 hszT hszS (bSet3 (bSet3 HB7.out (Nat.le_refl _) _ _ _ _ _ _) (Nat.le_succ _) _ _ _ _ _ _))
end Go.Proofs.YtihlbbbajaepoaaGreat
