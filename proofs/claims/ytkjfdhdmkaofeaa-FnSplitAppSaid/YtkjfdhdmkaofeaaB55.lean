/-
  DrawsW.
-/
import Derived.Test.YtkjfdhdmkaofeaaB33
import Derived.Test.YtkjfdhdmkaofeaaB45
namespace Go.Proofs.Ytkjfdhdmkaofeaa
open Go.RowKit
def TmPostD (w : World) (e : Ending) (w' : World) : Prop := ∃ (T : Tm) (v : Value), e = .returned v ∧ TmIn w' 0 T v ∧ Below w.heap.size w w'
set_option maxRecDepth 100000 in
set_option maxHeartbeats 1600000 in
theorem dSplitApp_any {U : Nat → Int} {a : Option Addr} {b o len cap : Nat} (w : World) (hlen : len ≤ 140737488355328) (hcap : len ≤ cap) (hby : Bytes U a b o len w) : Calls Try.prog 12 #[.slice a len cap] w (TmPostD w) := by
 have hz0 : (w.alloc (.cells #[.int .i64 0, .int .i64 0, .slice none 0 0] 25)).heap.size = w.heap.size + 1 := by simp
 have hb0 : Below w.heap.size w (w.alloc (.cells #[.int .i64 0, .int .i64 0, .slice none 0 0] 25)) := below1 _ _
 have HO := tuck (dApplyAll_any (w.alloc (.cells #[.int .i64 0, .int .i64 0, .slice none 0 0] 25)) hlen hcap (hby.below hb0))
 have HP : Hid (∀ T v w', TmIn w' 0 T v → Below w.heap.size w w' → TmPostD w (.returned v) w') := fun T v w' h1 h2 => ⟨T, v, rfl, h1, h2⟩
 have HV : Hid (VarAt w.heap.size 0 0 (.slice none 0 0) (w.alloc (.cells #[.int .i64 0, .int .i64 0, .slice none 0 0] 25))) := VarAt.new w 0 0 (.slice none 0 0)
 generalize TmPostD w = post at *
 clear hby
 go_enter Try.func12, Try.ntmps12
 go_wp2_with fail
 refine HO.out.mono ?_
 rintro e w1 ⟨T, L, v, q, c, rfl, ⟨s, rfl, hin⟩, hsl, -, -, -, hb⟩
 generalize w.alloc (.cells #[.int .i64 0, .int .i64 0, .slice none 0 0] 25) = W0 at *
 obtain ⟨sa, sc, rfl⟩ := hin.form
 have hb1 := below1 w1 (.cells #[.int .i64 T.kind, .int .i64 T.num, .slice sa T.kids.length sc] 25)
 have HT := tuck (VarAt.new w1 T.kind T.num (.slice sa T.kids.length sc))
 have HIN := tuck (hin.below hb1)
 have HSL := tuck ((hsl.below hb1).mono (Nat.zero_le _))
 have HB := tuck (bAfter hb0 (bAfter hb hb1))
 have hzz : w.heap.size < w1.heap.size := by have := hb.size; omega
 replace HV := tuck (HV.out.below (bAfter hb hb1))
 clear hin hsl hb hb1 HO hb0
 have hz3 : w.heap.size < W0.heap.size := by omega
 obtain ⟨zt, t0, t1, t2, tf⟩ := HT.out.facts
 go_wp2_with fail
 generalize w1.alloc (.cells #[.int .i64 T.kind, .int .i64 T.num, .slice sa T.kids.length sc] 25) = W1 at *
 generalize w1.heap.size = gT at *
 refine (appsS_n W1 _ _ HSL.out ⟨_, rfl, HIN.out.mono (Nat.zero_le _)⟩).mono ?_
 rintro e w2 ⟨hb2, vx, rfl, ⟨s2, rfl, hix⟩⟩
 obtain ⟨xa, xc, rfl⟩ := hix.form
 have hb3 := below1 w2 (.cells #[.int .i64 (orZero (AppsOk 5 L T) (apps 5 L T)).kind, .int .i64 (orZero (AppsOk 5 L T) (apps 5 L T)).num, .slice xa (orZero (AppsOk 5 L T) (apps 5 L T)).kids.length xc] 25)
 have HX := tuck (VarAt.new w2 (orZero (AppsOk 5 L T) (apps 5 L T)).kind (orZero (AppsOk 5 L T) (apps 5 L T)).num (.slice xa (orZero (AppsOk 5 L T) (apps 5 L T)).kids.length xc))
 have HIX := tuck (hix.below hb3)
 have hb23 := bAfter hb2 hb3
 replace HT := tuck (HT.out.below hb23)
 replace HIN := tuck (HIN.out.below hb23)
 replace HV := tuck (HV.out.below hb23)
 replace HB := tuck (bAfter HB.out hb23)
 have hz1 : w.heap.size < W1.heap.size := by omega
 clear hb2 hb3 hb23 hix zt t0 t1 t2 tf HSL
 generalize hX : orZero (AppsOk 5 L T) (apps 5 L T) = X at *
 generalize tr (AppsOk 5 L T) = ok at *
 obtain ⟨zt, t0, t1, t2, tf⟩ := HT.out.facts
 obtain ⟨zx, x0, x1, x2, xf⟩ := HX.out.facts
 obtain ⟨zv, v0, v1, v2, vf⟩ := HV.out.facts
 cases ok
 ·go_wp2_with fail
  refine bodyPost_ret (v := .agg #[.int .i64 T.kind, .int .i64 T.num, .slice sa T.kids.length sc]) (by simp [results, Try.results12, go_sem, *]) rfl (HP.out T _ _ ⟨_, rfl, (HIN.out.set3 hz3).mono (Nat.zero_le _)⟩ (bSet3 HB.out (Nat.le_refl _) _ _ _ _ _ _))
 ·go_wp2_with fail
  refine bodyPost_ret (v := .agg #[.int .i64 X.kind, .int .i64 X.num, .slice xa X.kids.length xc]) (by simp [results, Try.results12, go_sem, *]) rfl (HP.out X _ _ ⟨_, rfl, (HIX.out.set3 hz1).mono (Nat.zero_le _)⟩ (bSet3 HB.out (Nat.le_refl _) _ _ _ _ _ _))
end Go.Proofs.Ytkjfdhdmkaofeaa
