/-
  DrawNumeralValue.
-/
import Derived.Test.YtjhjnkeildeedaaDrawsA
namespace Go.Proofs.Ytjhjnkeildeedaa
open Go.RowKit

theorem SlIn.onlyF {g B : Nat} {w w' : World} {l : List Tm} {v : Value} (h : SlIn w B l v) (ho : Only g w w') (hg : g < B) : SlIn w' B l v :=
  h.keep fun p hp hz => ho.cell hz (by omega)

set_option maxRecDepth 100000 in
set_option maxHeartbeats 1600000 in
theorem dNumeralValue_any {U : Nat → Int} {a : Option Addr} {b o len cap : Nat} (w : World) (hlen : len ≤ 140737488355328) (hcap : len ≤ cap) (hby : Bytes U a b o len w) : Calls Try.prog 31 #[.slice a len cap] w (TmPost w) := by
  have HP : Hid (∀ T v w', TmIn w' w.heap.size T v → T.size ≤ 1000 → Below w.heap.size w w' → TmPost w (.returned v) w') := fun T v w' h1 h2 h3 => ⟨T, v, rfl, h1, h2, h3⟩
  generalize TmPost w = post at *
  have hz0 : (w.alloc (.cells #[.int .i64 0, .int .i64 0, .slice none 0 0] 32)).heap.size = w.heap.size + 1 := by simp
  have hb0 : Below w.heap.size w (w.alloc (.cells #[.int .i64 0, .int .i64 0, .slice none 0 0] 32)) := below1 _ _
  have HO := tuck (open_any (w.alloc (.cells #[.int .i64 0, .int .i64 0, .slice none 0 0] 32)) hlen hcap (hby.below hb0))
  have hv0 : VarAt w.heap.size 0 0 (.slice none 0 0) (w.alloc (.cells #[.int .i64 0, .int .i64 0, .slice none 0 0] 32)) := VarAt.new w 0 0 (.slice none 0 0)
  clear hby
  go_enter Try.func31, Try.ntmps31
  go_wp2_with fail
  refine HO.out.mono ?_
  rintro e w1 ⟨a', len', cap', he, hl, hbl, hrd, hby, hb1, hz⟩
  generalize w.alloc (.cells #[.int .i64 0, .int .i64 0, .slice none 0 0] 32) = W0 at *
  have hgz : w.heap.size < W0.heap.size := by omega
  have HB := tuck (bAfter hb0 hb1)
  have HV := tuck (hv0.below hb1)
  clear hb1
  generalize W0.heap.size = g at *
  subst he
  subst hz0
  have HBW : Hid (0 < len' → b ≠ w.heap.size + 1) := tuck (fun h => Nat.ne_of_lt (hbl h))
  have HRD := tuck hrd
  have HBY := tuck hby
  clear hrd hby HO hbl hv0 hb0
  have hne : w.heap.size ≠ w.heap.size + 1 := by omega
  go_wp2_with fail
  refine (pick_any (n := 3) _ hl (by omega) (by omega) (by omega) HRD.out HBY.out HBW.out).mono ?_
  rintro e w2b ⟨x, rfl, hx0, hx1, hrd, ho⟩
  have hz2 : w.heap.size + 1 < w2b.heap.size := Nat.lt_of_lt_of_le hz ho.size
  replace HB := tuck (Only.below HB.out ho (by omega) HB.out.size)
  replace HBY := tuck (HBY.out.only ho HBW.out)
  replace HV := tuck (HV.out.only ho hne)
  replace HRD := tuck hrd
  clear ho hrd
  by_cases hx : x = 0
  · have hx' : (x == 0) = true := by simpa using hx
    go_wp2_with fail
    refine (lany_any _ hl HBW.out (by omega) HRD.out HBY.out).mono ?_
    rintro e w2a ⟨tT, sT, FT, paT, rfl, hso, -, -, hv, hp', hrd, ho⟩
    obtain ⟨saT, scT, rfl⟩ := hso.form
    have hsz : sizes tT.kids ≤ 900 := by have := hv.2.2; have := tT.size_eq; omega
    have HIN := tuck (hso.sl (B := 0) (fun _ _ => Nat.zero_le _))
    replace HB := tuck (Only.below HB.out ho (by omega) HB.out.size)
    replace HBY := tuck (HBY.out.only ho HBW.out)
    replace HV := tuck (HV.out.only ho hne)
    replace HRD := tuck hrd
    have hpaT : paT ≤ 1 + 1876 := by omega
    clear ho hrd hso hv hp'
    go_wp2_with fail
    refine (lmut_any tT _ _ hl HBW.out (by omega) hsz HRD.out HBY.out ⟨_, rfl, HIN.out⟩).mono ?_
    rintro e w2 ⟨TT, vT, pbT, rfl, ⟨s4, rfl, hin⟩, hszT, hp', hrd, ho⟩
    obtain ⟨aT, cT, rfl⟩ := hin.form
    have hlr : w.heap.size + 1 < w2a.heap.size := HRD.out.facts.1
    have HINT := tuck (hin.mono (show w.heap.size + 1 + 1 ≤ _ from hlr))
    have hgeT : w.heap.size + 1 < w2.heap.size := Nat.lt_of_lt_of_le hlr ho.size
    replace HB := tuck (Only.below HB.out ho (by omega) HB.out.size)
    replace HBY := tuck (HBY.out.only ho HBW.out)
    replace HV := tuck (HV.out.only ho hne)
    replace HRD := tuck hrd
    have hpbT : pbT ≤ 1 + 1878 := by omega
    clear ho hin hrd hp' HIN hsz hlr
    obtain ⟨zv, v0, v1, v2, vf⟩ := HV.out.facts
    go_wp2_with fail
    refine bodyPost_ret (v := .agg #[.int .i64 TT.kind, .int .i64 TT.num, .slice aT TT.kids.length cT]) (by simp [results, Try.results31, go_sem, *]) rfl (HP.out TT _ _ ⟨_, rfl, (HINT.out.set3 (by omega)).mono (by omega)⟩ hszT (bSet3 HB.out (Nat.le_refl _) _ _ _ _ _ _))
  · have hx' : (x == 0) = false := by simpa using hx
    go_wp2_with fail
    have HL := ints_new [0, 1, 3, 20, 21, 2] w2b 3
    have hbx := below1 w2b (.cells #[.int .i64 0, .int .i64 1, .int .i64 3, .int .i64 20, .int .i64 21, .int .i64 2] 3)
    refine (num_any (N := fun i => ([0, 1, 3, 20, 21, 2] : List Int).getD i 0) (o2 := 0) (n := 6) _ hl (by omega) (by omega) (by omega) (HRD.out.below hbx) (HBY.out.below hbx) HBW.out HL (by omega)).mono ?_
    rintro e w3 ⟨i, hi, he, hrd, ho⟩
    obtain ⟨m, hm, hm2⟩ : ∃ m : Nat, ([0, 1, 3, 20, 21, 2] : List Int).getD i 0 = m ∧ m ≤ 21 := by
      have := (by decide : ∀ i < 6, 0 ≤ ([0, 1, 3, 20, 21, 2] : List Int).getD i 0 ∧ ([0, 1, 3, 20, 21, 2] : List Int).getD i 0 ≤ 21) i hi
      exact ⟨(([0, 1, 3, 20, 21, 2] : List Int).getD i 0).toNat, by omega, by omega⟩
    obtain rfl : e = .returned (.int .i64 m) := by rw [← hm]; exact he
    clear he hm hi HL
    replace HB := tuck (Only.below (bAfter HB.out hbx) ho (by omega) (Nat.le_trans HB.out.size hbx.size))
    replace HBY := tuck ((HBY.out.below hbx).only ho HBW.out)
    replace HV := tuck ((HV.out.below hbx).only ho hne)
    replace HRD := tuck hrd
    clear ho hrd hbx
    go_wp2_with fail
    refine (lnum_any m (by omega) _).mono ?_
    rintro e w4 ⟨v, rfl, ⟨s, rfl, hin⟩, hb⟩
    rw [Int.toNat_natCast] at hin
    rw [Int.toNat_natCast]
    obtain ⟨sa, sc, rfl⟩ := hin.form
    have HIN := tuck (hin.mono (Nat.zero_le _))
    have hsz : sizes (numT m).kids ≤ 900 := by have := numT_size m; have := (numT m).size_eq; omega
    replace HB := tuck (bAfter HB.out hb)
    replace HBY := tuck (HBY.out.below hb)
    replace HV := tuck (HV.out.below hb)
    replace HRD := tuck (HRD.out.below hb)
    clear hb hin
    generalize numT m = tn at *
    go_wp2_with fail
    refine (lmut_any tn _ _ hl HBW.out (by omega) hsz HRD.out HBY.out ⟨_, rfl, HIN.out⟩).mono ?_
    rintro e w5 ⟨TT, vT, pbT, rfl, ⟨s4, rfl, hinT⟩, hszT, hp', hrd, ho⟩
    obtain ⟨aT, cT, rfl⟩ := hinT.form
    have hlr : w.heap.size + 1 < w4.heap.size := HRD.out.facts.1
    have HINT := tuck (hinT.mono (show w.heap.size + 1 + 1 ≤ _ from hlr))
    replace HB := tuck (Only.below HB.out ho (by omega) HB.out.size)
    replace HV := tuck (HV.out.only ho hne)
    clear ho hinT hrd
    obtain ⟨zv, v0, v1, v2, vf⟩ := HV.out.facts
    go_wp2_with fail
    refine bodyPost_ret (v := .agg #[.int .i64 TT.kind, .int .i64 TT.num, .slice aT TT.kids.length cT]) (by simp [results, Try.results31, go_sem, *]) rfl (HP.out TT _ _ ⟨_, rfl, (HINT.out.set3 (by omega)).mono (by omega)⟩ hszT (bSet3 HB.out (Nat.le_refl _) _ _ _ _ _ _))

end Go.Proofs.Ytjhjnkeildeedaa
