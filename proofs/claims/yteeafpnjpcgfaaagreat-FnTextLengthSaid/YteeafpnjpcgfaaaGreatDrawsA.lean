/-
  The draws of chapter 1 and 2 that give one term.
-/
import Derived.Test.YteeafpnjpcgfaaaGreatMut
import Derived.Test.YteeafpnjpcgfaaaGreatNumS
namespace Go.Proofs.YteeafpnjpcgfaaaGreat
open Go.RowKit

/-- Some term in memory of its own. -/
def TmPost (w : World) (e : Ending) (w' : World) : Prop := ∃ (T : Tm) (v : Value), e = .returned v ∧ TmIn w' w.heap.size T v ∧ T.size ≤ 1000 ∧ Below w.heap.size w w'

theorem Only.belowR {B g : Nat} {w a b : World} (h : Below B w a) (k : Only g a b) (hg : B ≤ g) (hB : B ≤ a.heap.size) : Below B w b := Only.below h k hg hB

set_option maxRecDepth 100000 in
set_option maxHeartbeats 1600000 in
theorem dTermValid_any {U : Nat → Int} {a : Option Addr} {b o len cap : Nat} (w : World) (hlen : len ≤ 140737488355328) (hcap : len ≤ cap) (hby : Bytes U a b o len w) : Calls Tryz.prog 36 #[.slice a len cap] w (TmPost w) := by
  have HP : Hid (∀ T v w', TmIn w' w.heap.size T v → T.size ≤ 1000 → Below w.heap.size w w' → TmPost w (.returned v) w') := fun T v w' h1 h2 h3 => ⟨T, v, rfl, h1, h2, h3⟩
  generalize TmPost w = post at *
  have hz0 : (w.alloc (.cells #[.int .i64 0, .int .i64 0, .slice none 0 0] 29)).heap.size = w.heap.size + 1 := by simp
  have hb0 : Below w.heap.size w (w.alloc (.cells #[.int .i64 0, .int .i64 0, .slice none 0 0] 29)) := below1 _ _
  have HO := tuck (open_any (w.alloc (.cells #[.int .i64 0, .int .i64 0, .slice none 0 0] 29)) hlen hcap (hby.below hb0))
  have hv0 : VarAt w.heap.size 0 0 (.slice none 0 0) (w.alloc (.cells #[.int .i64 0, .int .i64 0, .slice none 0 0] 29)) := VarAt.new w 0 0 (.slice none 0 0)
  clear hby
  go_enter Tryz.func36, Tryz.ntmps36
  go_wp2_with fail
  refine HO.out.mono ?_
  rintro e w1 ⟨a', len', cap', he, hl, hbl, hrd, hby, hb1, hz⟩
  generalize w.alloc (.cells #[.int .i64 0, .int .i64 0, .slice none 0 0] 29) = W0 at *
  have hgz : w.heap.size < W0.heap.size := by omega
  have HB := tuck (bAfter hb0 hb1)
  have HV := tuck (hv0.below hb1)
  clear hb1
  generalize W0.heap.size = g at *
  subst he
  subst hz0
  have HBW : Hid (0 < len' → b ≠ w.heap.size + 1) := tuck (fun h => Nat.ne_of_lt (hbl h))
  have HRD := tuck hrd
  have HBY := tuck hby
  clear hrd hby HO hbl hv0 hb0
  have hne : w.heap.size ≠ w.heap.size + 1 := by omega
  go_wp2_with fail
  refine (pick_any (n := 30) _ hl (by omega) (by omega) (by omega) HRD.out HBY.out HBW.out).mono ?_
  rintro e w2 ⟨x, rfl, hx0, hx1, hrd, ho⟩
  have hz2 : w.heap.size + 1 < w2.heap.size := Nat.lt_of_lt_of_le hz ho.size
  replace HB := tuck (Only.below HB.out ho (by omega) HB.out.size)
  replace HBY := tuck (HBY.out.only ho HBW.out)
  replace HV := tuck (HV.out.only ho hne)
  replace HRD := tuck hrd
  clear ho hrd
  by_cases hx : x = 0
  · have hx' : (x == 0) = true := by simpa using hx
    go_wp2_with fail
    refine (num_any (N := fun i => ([29, 30, 31] : List Int).getD i 0) (o2 := 0) (n := 3) _ hl (by omega) (by omega) (by omega) (HRD.out.below (below1 _ _)) (HBY.out.below (below1 _ _)) HBW.out (ints_new [29, 30, 31] w2 3) (Nat.ne_of_gt hz2)).mono ?_
    rintro e w3 ⟨i, hi, he, _, ho⟩
    obtain ⟨m, hm, hm2⟩ : ∃ m : Nat, ([29, 30, 31] : List Int).getD i 0 = m ∧ m ≤ 100 := by
      have := (by decide : ∀ i < 3, 0 ≤ ([29, 30, 31] : List Int).getD i 0 ∧ ([29, 30, 31] : List Int).getD i 0 ≤ 100) i hi
      exact ⟨(([29, 30, 31] : List Int).getD i 0).toNat, by omega, by omega⟩
    obtain rfl : e = .returned (.int .i64 m) := by rw [← hm]; exact he
    clear he hm
    replace HB := tuck (Only.below (bAfter HB.out (below1 _ _)) ho (by omega) (Nat.le_trans HB.out.size (below1 _ _).size))
    replace HV := tuck ((HV.out.below (below1 _ _)).only ho hne)
    clear ho
    go_wp2_with fail
    refine (lnum_any m hm2 _).mono ?_
    rintro e w4 ⟨v, rfl, ⟨s, rfl, hin⟩, hb⟩
    obtain ⟨sa, sc, rfl⟩ := hin.form
    rw [Int.toNat_natCast] at *
    have hz3 : w.heap.size < w3.heap.size := (HV.out.facts).1
    replace HV := tuck (HV.out.below hb)
    have HIN := tuck hin
    replace HB := tuck (bAfter HB.out hb)
    clear hb hin
    obtain ⟨zv, v0, v1, v2, vf⟩ := HV.out.facts
    go_wp2_with fail
    refine bodyPost_ret (v := .agg #[.int .i64 (numT m).kind, .int .i64 (numT m).num, .slice sa (numT m).kids.length sc]) (by simp [results, Tryz.results36, go_sem, *]) rfl (HP.out (numT m) _ _ ⟨_, rfl, (HIN.out.set3 hz3).mono (Nat.le_of_lt hz3)⟩ (by rw [numT_size]; omega) (bSet3 HB.out (Nat.le_refl _) _ _ _ _ _ _))
  · have hx' : (x == 0) = false := by simpa using hx
    go_wp2_with fail
    refine (lany_any _ hl HBW.out (by omega) HRD.out HBY.out).mono ?_
    rintro e w3 ⟨t, s, F, p', rfl, hso, -, -, hv, hp', hrd, ho⟩
    obtain ⟨sa, sc, rfl⟩ := hso.form
    have hsz : sizes t.kids ≤ 900 := by have := hv.2.2; have := t.size_eq; omega
    have HIN := tuck (hso.sl (B := 0) (fun _ _ => Nat.zero_le _))
    replace HB := tuck (Only.below HB.out ho (by omega) HB.out.size)
    replace HBY := tuck (HBY.out.only ho HBW.out)
    replace HV := tuck (HV.out.only ho hne)
    replace HRD := tuck hrd
    have HP' := tuck hp'
    clear ho hrd hso hv hp'
    go_wp2_with fail
    refine (lmut_any t _ _ hl HBW.out (by have := HP'.out; omega) hsz HRD.out HBY.out ⟨_, rfl, HIN.out⟩).mono ?_
    rintro e w4 ⟨T, v, p2, rfl, ⟨s4, rfl, hin⟩, hsz2, -, -, ho⟩
    obtain ⟨sa4, sc4, rfl⟩ := hin.form
    have hz3 : w.heap.size < w3.heap.size := (HV.out.facts).1
    have HIN4 := tuck hin
    replace HB := tuck (Only.below HB.out ho (by omega) HB.out.size)
    replace HV := tuck (HV.out.only ho hne)
    clear ho hin
    obtain ⟨zv, v0, v1, v2, vf⟩ := HV.out.facts
    go_wp2_with fail
    refine bodyPost_ret (v := .agg #[.int .i64 T.kind, .int .i64 T.num, .slice sa4 T.kids.length sc4]) (by simp [results, Tryz.results36, go_sem, *]) rfl (HP.out T _ _ ⟨_, rfl, (HIN4.out.set3 hz3).mono (Nat.le_of_lt hz3)⟩ hsz2 (bSet3 HB.out (Nat.le_refl _) _ _ _ _ _ _))

end Go.Proofs.YteeafpnjpcgfaaaGreat
