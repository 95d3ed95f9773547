/-
  DrawsU, VarsN.
-/
import Derived.Test.YtlbikgnanabjgaaGreatQ09
import Derived.Test.YtlbikgnanabjgaaGreatQ10
import Derived.Test.YtlbikgnanabjgaaGreatQ24
import Derived.Test.YtlbikgnanabjgaaGreatQ32
import Derived.Test.YtlbikgnanabjgaaGreatQ34
import Derived.Test.YtlbikgnanabjgaaGreatQ40
import Derived.Test.YtlbikgnanabjgaaGreatQ46
import Derived.Test.YtlbikgnanabjgaaGreatQ49
import Derived.Test.YtlbikgnanabjgaaGreatQ50
namespace Go.Proofs.YtlbikgnanabjgaaGreat
open Go.RowKit
def TmPostR (w : World) (e : Ending) (w' : World) : Prop := ∃ (T : Tm) (v : Value), e = .returned v ∧ TmIn w' w.heap.size T v ∧ T.size ≤ 1000 ∧ Below w.heap.size w w'
set_option maxRecDepth 100000 in
set_option maxHeartbeats 1600000 in
theorem dRedexOf_any {U : Nat → Int} {a : Option Addr} {b o len cap : Nat} (w : World) (hlen : len ≤ 140737488355328) (hcap : len ≤ cap) (hby : Bytes U a b o len w) : Calls Tryz.prog 13 #[.slice a len cap] w (TmPostR w) := by
 have HP : Hid (∀ T v w', TmIn w' w.heap.size T v → T.size ≤ 1000 → Below w.heap.size w w' → TmPostR w (.returned v) w') := fun T v w' h1 h2 h3 => ⟨T, v, rfl, h1, h2, h3⟩
 generalize TmPostR w = post at *
 have hz0 : (w.alloc (.cells #[.int .i64 0, .int .i64 0, .slice none 0 0] 25)).heap.size = w.heap.size + 1 := by simp
 have hb0 : Below w.heap.size w (w.alloc (.cells #[.int .i64 0, .int .i64 0, .slice none 0 0] 25)) := below1 _ _
 have HO := tuck (open_any (w.alloc (.cells #[.int .i64 0, .int .i64 0, .slice none 0 0] 25)) hlen hcap (hby.below hb0))
 have hv0 : VarAt w.heap.size 0 0 (.slice none 0 0) (w.alloc (.cells #[.int .i64 0, .int .i64 0, .slice none 0 0] 25)) := VarAt.new w 0 0 (.slice none 0 0)
 clear hby
 go_enter Tryz.func13, Tryz.ntmps13
 go_wp2_with fail
 refine HO.out.mono ?_
 rintro e w1 ⟨a', len', cap', he, hl, hbl, hrd, hby, hb1, hz⟩
 generalize w.alloc (.cells #[.int .i64 0, .int .i64 0, .slice none 0 0] 25) = W0 at *
 have hgz : w.heap.size < W0.heap.size := by omega
 have HB := tuck (bAfter hb0 hb1)
 have HV := tuck (hv0.below hb1)
 clear hb1
 generalize W0.heap.size = g at *
 subst he
 subst hz0
 have HBW : Hid (0 < len' → b ≠ w.heap.size + 1) := tuck (fun h => Nat.ne_of_lt (hbl h))
 have HRD := tuck hrd
 have HBY := tuck hby
 clear hrd hby HO hbl hv0 hb0
 have hne : w.heap.size ≠ w.heap.size + 1 := by omega
 go_wp2_with fail
 refine (l3draw_any _ hl HBW.out (by omega) HRD.out HBY.out).mono ?_
 rintro e w3 ⟨t, s, p', rfl, hsl, hv, hp', hrd, ho⟩
 obtain ⟨sa, sc, rfl⟩ := hsl.form
 have hsz : sizes t.kids ≤ 900 := by have := hv.2.2; have := t.size_eq; omega
 have HIN := tuck (hsl.mono (Nat.zero_le _))
 replace HB := tuck (Only.below HB.out ho (by omega) HB.out.size)
 replace HBY := tuck (HBY.out.only ho HBW.out)
 replace HV := tuck (HV.out.only ho hne)
 replace HRD := tuck hrd
 clear ho hrd hsl hv
 go_wp2_with fail
 refine (lmut_any t _ _ hl HBW.out (by omega) hsz HRD.out HBY.out ⟨_, rfl, HIN.out⟩).mono ?_
 rintro e w4 ⟨T, v, p2, rfl, ⟨s4, rfl, hin⟩, hsz2, -, -, ho⟩
 obtain ⟨sa4, sc4, rfl⟩ := hin.form
 have hz3 : w.heap.size < w3.heap.size := (HV.out.facts).1
 have HIN4 := tuck hin
 replace HB := tuck (Only.below HB.out ho (by omega) HB.out.size)
 replace HV := tuck (HV.out.only ho hne)
 clear ho hin
 obtain ⟨zv, v0, v1, v2, vf⟩ := HV.out.facts
 go_wp2_with fail
 refine bodyPost_ret (v := .agg #[.int .i64 T.kind, .int .i64 T.num, .slice sa4 T.kids.length sc4]) (by simp [results, Tryz.results13, go_sem, *]) rfl (HP.out T _ _ ⟨_, rfl, (HIN4.out.set3 hz3).mono (Nat.le_of_lt hz3)⟩ hsz2 (bSet3 HB.out (Nat.le_refl _) _ _ _ _ _ _))
theorem dTraceTerm_any {U : Nat → Int} {a : Option Addr} {b o len cap : Nat} (w : World) (hlen : len ≤ 140737488355328) (hcap : len ≤ cap) (hby : Bytes U a b o len w) : Calls Tryz.prog 5 #[.slice a len cap] w (TmPostR w) := by
 have hz0 : (w.alloc (.cells #[.int .i64 0, .int .i64 0, .slice none 0 0] 25)).heap.size = w.heap.size + 1 := by simp
 have hb0 : Below w.heap.size w (w.alloc (.cells #[.int .i64 0, .int .i64 0, .slice none 0 0] 25)) := below1 _ _
 have HO := tuck (dRedexOf_any (w.alloc (.cells #[.int .i64 0, .int .i64 0, .slice none 0 0] 25)) hlen hcap (hby.below hb0))
 have HP : Hid (∀ T v w', TmIn w' w.heap.size T v → T.size ≤ 1000 → Below w.heap.size w w' → TmPostR w (.returned v) w') := fun T v w' h1 h2 h3 => ⟨T, v, rfl, h1, h2, h3⟩
 have HV : Hid (VarAt w.heap.size 0 0 (.slice none 0 0) (w.alloc (.cells #[.int .i64 0, .int .i64 0, .slice none 0 0] 25))) := VarAt.new w 0 0 (.slice none 0 0)
 generalize TmPostR w = post at *
 clear hby
 go_enter Tryz.func5, Tryz.ntmps5
 go_wp2_with fail
 refine HO.out.mono ?_
 rintro e w1 ⟨T, v, rfl, ⟨s, rfl, hin⟩, hsz, hb⟩
 generalize w.alloc (.cells #[.int .i64 0, .int .i64 0, .slice none 0 0] 25) = W0 at *
 obtain ⟨sa, sc, rfl⟩ := hin.form
 have HIN := tuck hin
 have HB := tuck (bAfter hb0 hb)
 replace HV := tuck (HV.out.below hb)
 clear hin hb HO hb0
 have hz3 : w.heap.size < W0.heap.size := by omega
 obtain ⟨zv, v0, v1, v2, vf⟩ := HV.out.facts
 go_wp2_with fail
 refine bodyPost_ret (v := .agg #[.int .i64 T.kind, .int .i64 T.num, .slice sa T.kids.length sc]) (by simp [results, Tryz.results5, go_sem, *]) rfl (HP.out T _ _ ⟨_, rfl, (HIN.out.set3 hz3).mono (Nat.le_of_lt hz3)⟩ hsz (bSet3 HB.out (Nat.le_refl _) _ _ _ _ _ _))
end Go.Proofs.YtlbikgnanabjgaaGreat
namespace Go.Proofs.YtlbikgnanabjgaaGreat
open Go.RowKit
theorem CodePost.s {w w' : World} {c : Int} {T : Tm} {e : Ending} (h : CodePost w c T e w') : SCodePost w c T e w' := by
 obtain ⟨hb, v, he, s, F, hv, hs, -, -⟩ := h
 exact ⟨hb, v, he, s, hv, hs.sl fun _ _ => Nat.zero_le _⟩
theorem stepI_p (T : Tm) (w : World) (v : Value) (h : TmIn w 0 T v) : Calls Tryz.prog 9 #[v] w (SCodePost w (stepOut false false T).2 (stepOut false false T).1) := (stepTI_any T w v h).mono fun _ _ h => h.s
theorem normC_ok {rl mo : Bool} {T : Tm} {x : Int} (h : NormOk T x) : normC rl mo T x = (runGo rl mo x.toNat T).2.1 := if_pos h
end Go.Proofs.YtlbikgnanabjgaaGreat
