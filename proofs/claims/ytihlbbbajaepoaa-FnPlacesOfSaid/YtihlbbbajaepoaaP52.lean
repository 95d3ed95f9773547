/-
  DrawsU.
-/
import Derived.Test.YtihlbbbajaepoaaP50
namespace Go.Proofs.Ytihlbbbajaepoaa
open Go.RowKit
def TmPostR (w : World) (e : Ending) (w' : World) : Prop := ∃ (T : Tm) (v : Value), e = .returned v ∧ TmIn w' w.heap.size T v ∧ T.size ≤ 1000 ∧ Below w.heap.size w w'
set_option maxRecDepth 100000 in
set_option maxHeartbeats 1600000 in
theorem dRedexOf_any {U : Nat → Int} {a : Option Addr} {b o len cap : Nat} (w : World) (hlen : len ≤ 140737488355328) (hcap : len ≤ cap) (hby : Bytes U a b o len w) : Calls Try.prog 52 #[.slice a len cap] w (TmPostR w) := by
 have HP : Hid (∀ T v w', TmIn w' w.heap.size T v → T.size ≤ 1000 → Below w.heap.size w w' → TmPostR w (.returned v) w') := fun T v w' h1 h2 h3 => ⟨T, v, rfl, h1, h2, h3⟩
 generalize TmPostR w = post at *
 have hz0 : (w.alloc (.cells #[.int .i64 0, .int .i64 0, .slice none 0 0] 30)).heap.size = w.heap.size + 1 := by simp
 have hb0 : Below w.heap.size w (w.alloc (.cells #[.int .i64 0, .int .i64 0, .slice none 0 0] 30)) := below1 _ _
 have HO := tuck (open_any (w.alloc (.cells #[.int .i64 0, .int .i64 0, .slice none 0 0] 30)) hlen hcap (hby.below hb0))
 have hv0 : VarAt w.heap.size 0 0 (.slice none 0 0) (w.alloc (.cells #[.int .i64 0, .int .i64 0, .slice none 0 0] 30)) := VarAt.new w 0 0 (.slice none 0 0)
 clear hby
 go_enter Try.func52, Try.ntmps52
 go_wp2_with fail
 refine HO.out.mono ?_
 rintro e w1 ⟨a', len', cap', he, hl, hbl, hrd, hby, hb1, hz⟩
 generalize w.alloc (.cells #[.int .i64 0, .int .i64 0, .slice none 0 0] 30) = W0 at *
 have hgz : w.heap.size < W0.heap.size := by omega
 have HB := tuck (bAfter hb0 hb1)
 have HV := tuck (hv0.below hb1)
 clear hb1
 generalize W0.heap.size = g at *
 subst he
 subst hz0
 have HBW : Hid (0 < len' → b ≠ w.heap.size + 1) := tuck (fun h => Nat.ne_of_lt (hbl h))
 have HRD := tuck hrd
 have HBY := tuck hby
 clear hrd hby HO hbl hv0 hb0
 have hne : w.heap.size ≠ w.heap.size + 1 := by omega
 go_wp2_with fail
 refine (l3draw_any _ hl HBW.out (by omega) HRD.out HBY.out).mono ?_
 rintro e w3 ⟨t, s, p', rfl, hsl, hv, hp', hrd, ho⟩
 obtain ⟨sa, sc, rfl⟩ := hsl.form
 have hsz : sizes t.kids ≤ 900 := by have := hv.2.2; have := t.size_eq; omega
 have HIN := tuck (hsl.mono (Nat.zero_le _))
 replace HB := tuck (Only.below HB.out ho (by omega) HB.out.size)
 replace HBY := tuck (HBY.out.only ho HBW.out)
 replace HV := tuck (HV.out.only ho hne)
 replace HRD := tuck hrd
 clear ho hrd hsl hv
 go_wp2_with fail
 refine (lmut_any t _ _ hl HBW.out (by omega) hsz HRD.out HBY.out ⟨_, rfl, HIN.out⟩).mono ?_
 rintro e w4 ⟨T, v, p2, rfl, ⟨s4, rfl, hin⟩, hsz2, -, -, ho⟩
 obtain ⟨sa4, sc4, rfl⟩ := hin.form
 have hz3 : w.heap.size < w3.heap.size := (HV.out.facts).1
 have HIN4 := tuck hin
 replace HB := tuck (Only.below HB.out ho (by omega) HB.out.size)
 replace HV := tuck (HV.out.only ho hne)
 clear ho hin
 obtain ⟨zv, v0, v1, v2, vf⟩ := HV.out.facts
 go_wp2_with fail
 refine bodyPost_ret (v := .agg #[.int .i64 T.kind, .int .i64 T.num, .slice sa4 T.kids.length sc4]) (by simp [results, Try.results52, go_sem, *]) rfl (HP.out T _ _ ⟨_, rfl, (HIN4.out.set3 hz3).mono (Nat.le_of_lt hz3)⟩ hsz2 (bSet3 HB.out (Nat.le_refl _) _ _ _ _ _ _))
end Go.Proofs.Ytihlbbbajaepoaa
