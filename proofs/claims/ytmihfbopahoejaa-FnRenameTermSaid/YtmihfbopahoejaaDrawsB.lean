/-
  spec.l2Place, DrawShiftTerm.
-/
import Derived.Test.YtmihfbopahoejaaDrawsA
namespace Go.Proofs.Ytmihfbopahoejaa
open Go.RowKit

theorem SlIn.onlyR {g B : Nat} {w w' : World} {l : List Tm} {v : Value} (h : SlIn w B l v) (ho : Only g w w') (hg : g < B) : SlIn w' B l v :=
  h.keep fun p hp hz => ho.cell hz (by omega)
theorem Only.ofDrew {g : Nat} {w w' : World} (h : Only g w.drew w') : Only g w w' := ⟨h.os, h.tape, h.output, h.size, h.block⟩
theorem Rd.drew {g : Nat} {a : Option Addr} {len cap p : Nat} {w : World} (h : Rd g a len cap p w) : Rd g a len cap p w.drew := h
theorem Bytes.drew {U : Nat → Int} {a : Option Addr} {b o len : Nat} {w : World} (h : Bytes U a b o len w) : Bytes U a b o len w.drew := h
theorem VarAt.drew {g : Nat} {k n : Int} {s : Value} {w : World} (h : VarAt g k n s w) : VarAt g k n s w.drew := h

def PlacePost (g : Nat) (a : Option Addr) (len cap p : Nat) (w : World) (e : Ending) (w' : World) : Prop := ∃ x : Int, e = .returned (.int .i64 x) ∧ -1 ≤ x ∧ x ≤ 21 ∧ Rd g a len cap (p + 1) w' ∧ Only g w w'

theorem place_any {U : Nat → Int} {g : Nat} {a : Option Addr} {b o len cap p : Nat} (w : World) (hlen : len ≤ 2000) (hp : p ≤ 1000000) (hrd : Rd g a len cap p w) (hby : Bytes U a b o len w) (hbg : 0 < len → b ≠ g) :
    Calls Try.prog 43 #[.pointer (some ⟨g, 0, none⟩)] w (PlacePost g a len cap p w) := by
  have HP : Hid (∀ (x : Int) w', -1 ≤ x → x ≤ 21 → Rd g a len cap (p + 1) w' → Only g w w' → PlacePost g a len cap p w (.returned (.int .i64 x)) w') := fun x w' h1 h2 h3 h4 => ⟨x, rfl, h1, h2, h3, h4⟩
  generalize PlacePost g a len cap p w = post at *
  have hg := hrd.facts.1
  have HRD := tuck hrd
  have HBY := tuck hby
  clear hrd hby
  go_enter Try.func43, Try.ntmps43
  go_wp2_with fail
  refine (num_any (N := fun i => ([0, 1, 0, 2, 3, 20, 21, -1] : List Int).getD i 0) (o2 := 0) (n := 8) _ hlen hp (by omega) (by omega) (HRD.out.below (below1 _ _)) (HBY.out.below (below1 _ _)) hbg (ints_new [0, 1, 0, 2, 3, 20, 21, -1] w 3) (Nat.ne_of_gt hg)).mono ?_
  rintro e w3 ⟨i, hi, he, hrd, ho⟩
  obtain ⟨x, hx⟩ : ∃ x : Int, x = ([0, 1, 0, 2, 3, 20, 21, -1] : List Int).getD i 0 := ⟨_, rfl⟩
  obtain rfl : e = .returned (.int .i64 x) := by rw [hx]; exact he
  have hx2 := (by decide : ∀ i < 8, -1 ≤ ([0, 1, 0, 2, 3, 20, 21, -1] : List Int).getD i 0 ∧ ([0, 1, 0, 2, 3, 20, 21, -1] : List Int).getD i 0 ≤ 21) i hi
  rw [← hx] at hx2
  have HR := tuck hrd
  have HO := tuck ((Only.refl g w).alloc (.cells #[.int .i64 0, .int .i64 1, .int .i64 0, .int .i64 2, .int .i64 3, .int .i64 20, .int .i64 21, .int .i64 (-1)] 3) |>.trans ho)
  clear he hx hrd ho
  go_wp2_with fail
  exact HP.out _ _ hx2.1 hx2.2 HR.out HO.out

/-- A term and two numbers. -/
def ShiftDraw (w : World) (e : Ending) (w' : World) : Prop := ∃ (T : Tm) (v : Value) (x y : Int), e = .returned (.tuple #[v, .int .i64 x, .int .i64 y]) ∧ TmIn w' w.heap.size T v ∧ T.size ≤ 1000 ∧ (-20 ≤ x → -20 ≤ x ∧ x ≤ 21) ∧ x ≤ 21 ∧ -9223372036854775808 ≤ x ∧ -1 ≤ y ∧ y ≤ 21 ∧ Below w.heap.size w w'

set_option maxRecDepth 100000 in
set_option maxHeartbeats 1600000 in
theorem dShiftTerm_any {U : Nat → Int} {a : Option Addr} {b o len cap : Nat} (w : World) (hlen : len ≤ 140737488355328) (hcap : len ≤ cap) (hby : Bytes U a b o len w) : Calls Try.prog 15 #[.slice a len cap] w (ShiftDraw w) := by
  have HP : Hid (∀ T v x y w', TmIn w' w.heap.size T v → T.size ≤ 1000 → x ≤ 21 → -9223372036854775808 ≤ x → -1 ≤ y → y ≤ 21 → Below w.heap.size w w' → ShiftDraw w (.returned (.tuple #[v, .int .i64 x, .int .i64 y])) w') := fun T v x y w' h1 h2 h3 h3' h4 h5 h6 => ⟨T, v, x, y, rfl, h1, h2, fun h => ⟨h, h3⟩, h3, h3', h4, h5, h6⟩
  generalize ShiftDraw w = post at *
  have hz0 : (w.alloc (.cells #[.int .i64 0, .int .i64 0, .slice none 0 0] 25)).heap.size = w.heap.size + 1 := by simp
  have hb0 : Below w.heap.size w (w.alloc (.cells #[.int .i64 0, .int .i64 0, .slice none 0 0] 25)) := below1 _ _
  have HO := tuck (open_any (w.alloc (.cells #[.int .i64 0, .int .i64 0, .slice none 0 0] 25)) hlen hcap (hby.below hb0))
  have hv0 : VarAt w.heap.size 0 0 (.slice none 0 0) (w.alloc (.cells #[.int .i64 0, .int .i64 0, .slice none 0 0] 25)) := VarAt.new w 0 0 (.slice none 0 0)
  clear hby
  go_enter Try.func15, Try.ntmps15
  go_wp2_with fail
  refine HO.out.mono ?_
  rintro e w1 ⟨a', len', cap', he, hl, hbl, hrd, hby, hb1, hz⟩
  generalize w.alloc (.cells #[.int .i64 0, .int .i64 0, .slice none 0 0] 25) = W0 at *
  have hgz : w.heap.size < W0.heap.size := by omega
  have HB := tuck (bAfter hb0 hb1)
  have HV := tuck (hv0.below hb1)
  clear hb1
  generalize W0.heap.size = g at *
  subst he
  subst hz0
  have HBW : Hid (0 < len' → b ≠ w.heap.size + 1) := tuck (fun h => Nat.ne_of_lt (hbl h))
  have HRD := tuck hrd
  have HBY := tuck hby
  clear hrd hby HO hbl hv0 hb0
  have hne : w.heap.size ≠ w.heap.size + 1 := by omega
  go_wp2_with fail
  refine (lany_any _ hl HBW.out (by omega) HRD.out HBY.out).mono ?_
  rintro e w2a ⟨tT, sT, FT, paT, rfl, hso, -, -, hv, hp', hrd, ho⟩
  obtain ⟨saT, scT, rfl⟩ := hso.form
  have hsz : sizes tT.kids ≤ 900 := by have := hv.2.2; have := tT.size_eq; omega
  have HIN := tuck (hso.sl (B := 0) (fun _ _ => Nat.zero_le _))
  replace HB := tuck (Only.below HB.out ho (by omega) HB.out.size)
  replace HBY := tuck (HBY.out.only ho HBW.out)
  replace HV := tuck (HV.out.only ho hne)
  replace HRD := tuck hrd
  have hpaT : paT ≤ 1876 := by omega
  clear ho hrd hso hv hp'
  go_wp2_with fail
  refine (lmut_any tT _ _ hl HBW.out (by omega) hsz HRD.out HBY.out ⟨_, rfl, HIN.out⟩).mono ?_
  rintro e w2 ⟨TT, vT, pbT, rfl, ⟨s4, rfl, hin⟩, hszT, hp', hrd, ho⟩
  obtain ⟨aT, cT, rfl⟩ := hin.form
  have hlw : w.heap.size < w2a.heap.size := (HV.out.facts).1
  have hlr : w.heap.size + 1 < w2a.heap.size := HRD.out.facts.1
  have HINT := tuck (hin.mono (show w.heap.size + 2 ≤ _ from hlr))
  have hgeT : w.heap.size + 1 < w2.heap.size := Nat.lt_of_lt_of_le hlr ho.size
  replace HB := tuck (Only.below HB.out ho (by omega) HB.out.size)
  replace HBY := tuck (HBY.out.only ho HBW.out)
  replace HV := tuck (HV.out.only ho hne)
  replace HRD := tuck hrd
  have hpbT : pbT ≤ 1876 + 2 := by omega
  clear ho hin hrd hp' HIN hsz hlw hlr
  have HT := tuck (VarAt.new w2 TT.kind TT.num (.slice aT TT.kids.length cT))
  have hbx := below1 w2 (.cells #[.int .i64 TT.kind, .int .i64 TT.num, .slice aT TT.kids.length cT] 25)
  replace HINT := tuck (HINT.out.below hbx)
  replace HB := tuck (bAfter HB.out hbx)
  replace HBY := tuck (HBY.out.below hbx)
  replace HV := tuck (HV.out.below hbx)
  replace HRD := tuck (HRD.out.below hbx)
  have hW : (w2.alloc (.cells #[.int .i64 TT.kind, .int .i64 TT.num, .slice aT TT.kids.length cT] 25)).heap.size = w2.heap.size + 1 := by simp
  clear hbx
  go_wp2_with fail
  have HL := ints_new [1, 2, 3, 0, -1, -2, 19, 20, -20, 21, -9223372036854775808] (w2.alloc (.cells #[.int .i64 TT.kind, .int .i64 TT.num, .slice aT TT.kids.length cT] 25)) 3
  rw [hW] at HL
  have hbx := below1 (w2.alloc (.cells #[.int .i64 TT.kind, .int .i64 TT.num, .slice aT TT.kids.length cT] 25)) (.cells #[.int .i64 1, .int .i64 2, .int .i64 3, .int .i64 0, .int .i64 (-1), .int .i64 (-2), .int .i64 19, .int .i64 20, .int .i64 (-20), .int .i64 21, .int .i64 (-9223372036854775808)] 3)
  replace HINT := tuck (HINT.out.below hbx)
  replace HB := tuck (bAfter HB.out hbx)
  replace HBY := tuck (HBY.out.below hbx)
  replace HV := tuck (HV.out.below hbx)
  replace HRD := tuck (HRD.out.below hbx)
  replace HT := tuck (HT.out.below hbx)
  clear hbx
  refine (num_any (N := fun i => ([1, 2, 3, 0, -1, -2, 19, 20, -20, 21, -9223372036854775808] : List Int).getD i 0) (o2 := 0) (n := 11) _ hl (by omega) (by omega) (by omega) HRD.out HBY.out HBW.out HL (by omega)).mono ?_
  rintro e w3 ⟨i, hi, he, hrd, ho⟩
  obtain ⟨x, hx⟩ : ∃ x : Int, x = ([1, 2, 3, 0, -1, -2, 19, 20, -20, 21, -9223372036854775808] : List Int).getD i 0 := ⟨_, rfl⟩
  obtain rfl : e = .returned (.int .i64 x) := by rw [hx]; exact he
  have hx2 := (by decide : ∀ i < 11, -9223372036854775808 ≤ ([1, 2, 3, 0, -1, -2, 19, 20, -20, 21, -9223372036854775808] : List Int).getD i 0 ∧ ([1, 2, 3, 0, -1, -2, 19, 20, -20, 21, -9223372036854775808] : List Int).getD i 0 ≤ 21) i hi
  rw [← hx] at hx2
  clear he hx hi HL
  have hne2 : w2.heap.size ≠ w.heap.size + 1 := by omega
  replace HINT := tuck (HINT.out.onlyR ho (by omega))
  replace HB := tuck (Only.below HB.out ho (by omega) HB.out.size)
  replace HBY := tuck (HBY.out.only ho HBW.out)
  replace HV := tuck (HV.out.only ho hne)
  replace HT := tuck (HT.out.only ho hne2)
  replace HRD := tuck hrd
  clear ho hrd
  generalize w2.heap.size = gt at *
  have HPL : Hid (∀ W, Rd (w.heap.size + 1) a' len' cap' (pbT + 1) W → Bytes U a' b o len' W → Calls Try.prog 43 #[.pointer (some ⟨w.heap.size + 1, 0, none⟩)] W (PlacePost (w.heap.size + 1) a' len' cap' (pbT + 1) W)) := fun W h1 h2 => place_any W hl (by omega) h1 h2 HBW.out
  obtain ⟨zt, t0, t1, t2, tf⟩ := HT.out.facts
  obtain ⟨zv, v0, v1, v2, vf⟩ := HV.out.facts
  go_wp2_with fail
  go_region_with (go_at_call 43; first | (refine (HPL.out _ HRD.out.drew HBY.out.drew).mono ?_; rintro e w5 ⟨y, rfl, hy0, hy1, -, ho5⟩; obtain ⟨zt', t0', t1', t2', tf'⟩ := (HT.out.drew.only ho5 hne2).facts; obtain ⟨zv', v0', v1', v2', vf'⟩ := (HV.out.drew.only ho5 hne).facts) | (trace_state; fail))
  all_goals clear HPL HBY HRD HBW HV HT
  all_goals (have HB5 := tuck (Only.below HB.out (Only.ofDrew ho5) (by omega) HB.out.size); have HI5 := tuck (HINT.out.onlyR (Only.ofDrew ho5) (by omega)); clear HB HINT ho5)
  all_goals go_wp2_with fail
  all_goals refine bodyPost_ret (v := .tuple #[.agg #[.int .i64 TT.kind, .int .i64 TT.num, .slice aT TT.kids.length cT], .int .i64 x, .int .i64 y]) (by simp [results, Try.results15, go_sem, *]) rfl (HP.out TT _ x y _ ⟨_, rfl, (HI5.out.set3 (by omega)).mono (by omega)⟩ hszT hx2.2 hx2.1 hy0 hy1 (bSet3 HB5.out (Nat.le_refl _) _ _ _ _ _ _))
end Go.Proofs.Ytmihfbopahoejaa
