/-
  DrawTermSame: a valid term and some term.
-/
import Derived.Test.YtohlpjfhhbcebaaDrawsA
namespace Go.Proofs.Ytohlpjfhhbcebaa
open Go.RowKit

/-- A valid term and another one. -/
def SameDraw (w : World) (e : Ending) (w' : World) : Prop := ∃ (T : Tm) (v : Value) (S : Tm) (u : Value), e = .returned (.tuple #[v, u]) ∧ TmIn w' 0 T v ∧ TmIn w' 0 S u ∧ T.Valid ∧ S.size ≤ 1000 ∧ Below w.heap.size w w'

theorem SlIn.onlyS {g B : Nat} {w w' : World} {l : List Tm} {v : Value} (h : SlIn w B l v) (ho : Only g w w') (hg : g < B) : SlIn w' B l v :=
  h.keep fun p hp hz => ho.cell hz (by omega)
theorem Only.ofDrew' {g : Nat} {w w' : World} (h : Only g w.drew w') : Only g w w' := ⟨h.os, h.tape, h.output, h.size, h.block⟩
theorem Rd.drew' {g : Nat} {a : Option Addr} {len cap p : Nat} {w : World} (h : Rd g a len cap p w) : Rd g a len cap p w.drew := h
theorem Bytes.drew' {U : Nat → Int} {a : Option Addr} {b o len : Nat} {w : World} (h : Bytes U a b o len w) : Bytes U a b o len w.drew := h
theorem VarAt.drew' {g : Nat} {k n : Int} {s : Value} {w : World} (h : VarAt g k n s w) : VarAt g k n s w.drew := h
theorem SlIn.drew' {w : World} {B : Nat} {l : List Tm} {v : Value} (h : SlIn w B l v) : SlIn w.drew B l v := h.keep fun _ _ _ => rfl

set_option maxRecDepth 100000 in
set_option maxHeartbeats 3200000 in
theorem dTermSame_any {U : Nat → Int} {a : Option Addr} {b o len cap : Nat} (w : World) (hlen : len ≤ 140737488355328) (hcap : len ≤ cap) (hby : Bytes U a b o len w) : Calls Try.prog 46 #[.slice a len cap] w (SameDraw w) := by
  have HP : Hid (∀ T v S u w', TmIn w' 0 T v → TmIn w' 0 S u → T.Valid → S.size ≤ 1000 → Below w.heap.size w w' → SameDraw w (.returned (.tuple #[v, u])) w') := fun T v S u w' h1 h2 h3 h4 h7 => ⟨T, v, S, u, rfl, h1, h2, h3, h4, h7⟩
  generalize SameDraw w = post at *
  have hz0 : ((w.alloc (.cells #[.int .i64 0, .int .i64 0, .slice none 0 0] 29)).alloc (.cells #[.int .i64 0, .int .i64 0, .slice none 0 0] 29)).heap.size = w.heap.size + 1 + 1 := by simp
  have hb0 : Below w.heap.size w ((w.alloc (.cells #[.int .i64 0, .int .i64 0, .slice none 0 0] 29)).alloc (.cells #[.int .i64 0, .int .i64 0, .slice none 0 0] 29)) := below2 _ _ _
  have HO := tuck (open_any ((w.alloc (.cells #[.int .i64 0, .int .i64 0, .slice none 0 0] 29)).alloc (.cells #[.int .i64 0, .int .i64 0, .slice none 0 0] 29)) hlen hcap (hby.below hb0))
  have hv0 : VarAt w.heap.size 0 0 (.slice none 0 0) ((w.alloc (.cells #[.int .i64 0, .int .i64 0, .slice none 0 0] 29)).alloc (.cells #[.int .i64 0, .int .i64 0, .slice none 0 0] 29)) := (VarAt.new w 0 0 (.slice none 0 0)).below (below1 _ _)
  have hv1 : VarAt (w.heap.size + 1) 0 0 (.slice none 0 0) ((w.alloc (.cells #[.int .i64 0, .int .i64 0, .slice none 0 0] 29)).alloc (.cells #[.int .i64 0, .int .i64 0, .slice none 0 0] 29)) := var_new1 w (.cells #[.int .i64 0, .int .i64 0, .slice none 0 0] 29) 0 0 (.slice none 0 0)
  clear hby
  go_enter Try.func46, Try.ntmps46
  go_wp2_with fail
  refine HO.out.mono ?_
  rintro e w1 ⟨a', len', cap', he, hl, hbl, hrd, hby, hb1, hz⟩
  generalize (w.alloc (.cells #[.int .i64 0, .int .i64 0, .slice none 0 0] 29)).alloc (.cells #[.int .i64 0, .int .i64 0, .slice none 0 0] 29) = W0 at *
  have hgz : w.heap.size < W0.heap.size := by omega
  have HB := tuck (bAfter hb0 hb1)
  have HV := tuck (hv0.below hb1)
  have HV1 := tuck (hv1.below hb1)
  clear hb1
  generalize W0.heap.size = g at *
  subst he
  subst hz0
  have HBW : Hid (0 < len' → b ≠ w.heap.size + 1 + 1) := tuck (fun h => Nat.ne_of_lt (hbl h))
  have HRD := tuck hrd
  have HBY := tuck hby
  clear hrd hby HO hbl hv0 hv1 hb0
  have hne : w.heap.size ≠ w.heap.size + 1 + 1 := by omega
  have hne1 : w.heap.size + 1 ≠ w.heap.size + 1 + 1 := by omega
  go_wp2_with fail
  refine (lany_any _ hl HBW.out (by omega) HRD.out HBY.out).mono ?_
  rintro e w2 ⟨T, sT, FT, pa, rfl, hso, -, hF, hv, hp', hrd, ho⟩
  obtain ⟨aT, cT, rfl⟩ := hso.form
  have hz2 : w.heap.size + 1 + 1 < w2.heap.size := Nat.lt_of_lt_of_le hz ho.size
  have HINT := tuck ((hso.sl (B := w1.heap.size) (fun x hx => (hF x hx).1)).mono (show w.heap.size + 1 + 1 + 1 ≤ _ from hz))
  have HTV : Hid T.Valid := tuck hv
  have HT := tuck (VarAt.new w2 T.kind T.num (.slice aT T.kids.length cT))
  have hbx := below1 w2 (.cells #[.int .i64 T.kind, .int .i64 T.num, .slice aT T.kids.length cT] 29)
  replace HB := tuck (bAfter (Only.below HB.out ho (by omega) HB.out.size) hbx)
  replace HBY := tuck ((HBY.out.only ho HBW.out).below hbx)
  replace HV := tuck ((HV.out.only ho hne).below hbx)
  replace HV1 := tuck ((HV1.out.only ho hne1).below hbx)
  replace HRD := tuck (Rd.below hrd hbx)
  replace HINT := tuck (HINT.out.below hbx)
  have hpa : pa ≤ 1876 := by omega
  clear ho hrd hso hF hv hp' hbx
  have hneT : w2.heap.size ≠ w.heap.size + 1 + 1 := by omega
  go_wp2_with fail
  generalize w2.alloc (.cells #[.int .i64 T.kind, .int .i64 T.num, .slice aT T.kids.length cT] 29) = W2 at *
  generalize w2.heap.size = gT at *
  refine (pick_any (n := 2) _ hl (by omega) (by omega) (by omega) HRD.out HBY.out HBW.out).mono ?_
  rintro e w4 ⟨x, rfl, hx0, hx1, hrd, ho⟩
  replace HINT := tuck (HINT.out.onlyS ho (by omega))
  replace HB := tuck (Only.below HB.out ho (by omega) HB.out.size)
  replace HBY := tuck (HBY.out.only ho HBW.out)
  replace HV := tuck (HV.out.only ho hne)
  replace HV1 := tuck (HV1.out.only ho hne1)
  replace HT := tuck (HT.out.only ho hneT)
  replace HRD := tuck hrd
  clear ho hrd
  have hz4 : w.heap.size + 1 + 1 < w4.heap.size := HRD.out.facts.1
  by_cases hx : x = 0
  · have hx' : (x == 0) = true := by simpa using hx
    have HAN : Hid (∀ W, Rd (w.heap.size + 1 + 1) a' len' cap' (pa + 1) W → Bytes U a' b o len' W → Calls Try.prog 82 #[.pointer (some ⟨w.heap.size + 1 + 1, 0, none⟩)] W (AnyPost (w.heap.size + 1 + 1) a' len' cap' (pa + 1) W)) := fun W h1 h2 => lany_any W hl HBW.out (by omega) h1 h2
    obtain ⟨zt, t0, t1, t2, tf⟩ := HT.out.facts
    obtain ⟨zv, v0, v1, v2, vf⟩ := HV.out.facts
    obtain ⟨zw, v10, v11, v12, v1f⟩ := HV1.out.facts
    go_wp2_with fail
    go_region_with (go_at_call 82; refine (HAN.out _ HRD.out.drew' HBY.out.drew').mono ?_; rintro e w5 ⟨S, sS, FS, pb, rfl, hso, -, hF, hvS, -, -, ho5⟩; obtain ⟨aS, cS, rfl⟩ := hso.form; obtain ⟨zt', t0', t1', t2', tf'⟩ := (HT.out.drew'.only ho5 hneT).facts; obtain ⟨zv', v0', v1', v2', vf'⟩ := (HV.out.drew'.only ho5 hne).facts; obtain ⟨zw', w0', w1', w2', wf'⟩ := (HV1.out.drew'.only ho5 hne1).facts)
    all_goals clear HAN HBY HRD HBW HV HV1 HT
    all_goals (have HB5 := tuck (Only.below HB.out (Only.ofDrew' ho5) (by omega) HB.out.size); have HIT5 := tuck (HINT.out.onlyS (Only.ofDrew' ho5) (by omega)); have HIS5 := tuck ((hso.sl (B := w4.heap.size) (fun x hx => (hF x hx).1)).mono (show w.heap.size + 1 + 1 + 1 ≤ _ from hz4)); have hszS : S.size ≤ 1000 := Nat.le_trans hvS.2.2 (by omega); clear HB HINT ho5 hso hF hvS)
    all_goals go_wp2_with fail
    all_goals refine bodyPost_ret (v := .tuple #[.agg #[.int .i64 T.kind, .int .i64 T.num, .slice aT T.kids.length cT], .agg #[.int .i64 S.kind, .int .i64 S.num, .slice aS S.kids.length cS]]) (by simp [results, Try.results46, go_sem, *]) rfl (HP.out T _ S _ _ ⟨_, rfl, ((HIT5.out.set3 (by omega)).set3 (by omega)).mono (Nat.zero_le _)⟩ ⟨_, rfl, ((HIS5.out.set3 (by omega)).set3 (by omega)).mono (Nat.zero_le _)⟩ HTV.out hszS (bSet3 (bSet3 HB5.out (by omega) _ _ _ _ _ _) (by omega) _ _ _ _ _ _))
  · have hx' : (x == 0) = false := by simpa using hx
    have hszT : sizes T.kids ≤ 500 := by have := HTV.out.2.2; have := T.size_eq; omega
    have HMU : Hid (∀ (W : World) (t : Tm) (v : Value) (p : Nat), p ≤ 80000 → sizes t.kids ≤ 900 → Rd (w.heap.size + 1 + 1) a' len' cap' p W → Bytes U a' b o len' W → TmIn W 0 t v → Calls Try.prog 81 #[.pointer (some ⟨w.heap.size + 1 + 1, 0, none⟩), v] W (MutPostS (w.heap.size + 1 + 1) a' len' cap' p (sizes t.kids) W)) := fun W t v p hp hs h1 h2 h3 => lmutS_any t W v hl HBW.out (by omega) hs h1 h2 h3
    obtain ⟨zt, t0, t1, t2, tf⟩ := HT.out.facts
    obtain ⟨zv, v0, v1, v2, vf⟩ := HV.out.facts
    obtain ⟨zw, v10, v11, v12, v1f⟩ := HV1.out.facts
    go_wp2_with fail
    go_region_with (first | (go_at_call 81; refine (HMU.out _ R _ pb (by omega) (by have := R.size_eq; omega) HRD5 HBY5 ⟨_, rfl, hinR⟩).mono ?_; rintro e w6 ⟨S, u6, pc, rfl, ⟨s6, rfl, hinS⟩, hszS', -, -, ho6⟩; have hRe := R.size_eq; obtain ⟨aS, cS, rfl⟩ := hinS.form; have hv6 := HV5.only ho6 hne; have hv16 := HV15.only ho6 hne1; have ht6 := HT5.only ho6 hneT; obtain ⟨zt6, t06, t16, t26, tf6⟩ := ht6.facts; obtain ⟨zv6, v06, v16, v26, vf6⟩ := hv6.facts; obtain ⟨zw6, w06, w16, w26, wf6⟩ := hv16.facts) | (go_at_call 81; refine (HMU.out _ T _ (pa + 1) (by omega) (by omega) HRD.out.drew' HBY.out.drew' ⟨_, rfl, (HINT.out.drew'.mono (Nat.zero_le _))⟩).mono ?_; rintro e w5 ⟨R, u5, pb, rfl, ⟨s5, rfl, hinR0⟩, hszR, hpb, hrd5, ho5⟩; obtain ⟨aR, cR, rfl⟩ := hinR0.form; have hinR := hinR0.mono (Nat.zero_le _); have HRD5 := hrd5; have HBY5 := HBY.out.drew'.only ho5 HBW.out; have HV5 := HV.out.drew'.only ho5 hne; have HV15 := HV1.out.drew'.only ho5 hne1; have HT5 := HT.out.drew'.only ho5 hneT; have hz5 : w.heap.size + 1 + 1 < w5.heap.size := hrd5.facts.1; obtain ⟨zt', t0', t1', t2', tf'⟩ := HT5.facts; obtain ⟨zv', v0', v1', v2', vf'⟩ := HV5.facts; obtain ⟨zw', w0', w1', w2', wf'⟩ := HV15.facts))
    all_goals clear HMU HBY HRD HBW HV HV1 HT
    all_goals (have ho7 := (Only.ofDrew' ho5).trans ho6; have HB5 := tuck (Only.below HB.out ho7 (by omega) HB.out.size); have HIT5 := tuck (HINT.out.onlyS ho7 (by omega)); have HIS5 := tuck (hinS.mono (show w.heap.size + 1 + 1 + 1 ≤ _ from hz5)); have hszS : S.size ≤ 1000 := Nat.le_trans hszS' (by omega); clear HB HINT)
    all_goals clear ho5 ho6 ho7 hinR hinR0 hinS HRD5 HBY5 hrd5 HV5 HV15 HT5 hv6 hv16 ht6
    all_goals go_wp2_with fail
    all_goals refine bodyPost_ret (v := .tuple #[.agg #[.int .i64 T.kind, .int .i64 T.num, .slice aT T.kids.length cT], .agg #[.int .i64 S.kind, .int .i64 S.num, .slice aS S.kids.length cS]]) (by simp [results, Try.results46, go_sem, *]) rfl (HP.out T _ S _ _ ⟨_, rfl, ((HIT5.out.set3 (by omega)).set3 (by omega)).mono (Nat.zero_le _)⟩ ⟨_, rfl, ((HIS5.out.set3 (by omega)).set3 (by omega)).mono (Nat.zero_le _)⟩ HTV.out hszS (bSet3 (bSet3 HB5.out (by omega) _ _ _ _ _ _) (by omega) _ _ _ _ _ _))

end Go.Proofs.Ytohlpjfhhbcebaa
