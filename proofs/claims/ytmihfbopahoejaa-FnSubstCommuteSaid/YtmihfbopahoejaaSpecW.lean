/-
  spec.SubstTerm, and both functions Instantiate.
-/
import Derived.Test.YtmihfbopahoejaaSpecU
import Derived.Test.YtmihfbopahoejaaSpecK
import Derived.Test.YtmihfbopahoejaaImplS
namespace Go.Proofs.Ytmihfbopahoejaa
open Go.RowKit

/-- What a function of the model leaves: a term in memory made by it, and whether there is one. -/
def SNewPost (w : World) (P : Prop) (T : Tm) (e : Ending) (w' : World) : Prop := Below w.heap.size w w' ∧ ∃ v, e = .returned (.tuple #[v, .bool (tr P)]) ∧ TmIn w' w.heap.size (orZero P T) v
theorem SNewPost.no {w w' : World} {P : Prop} {T : Tm} (hP : ¬ P) (hb : Below w.heap.size w w') : SNewPost w P T (.returned (.tuple #[.agg #[.int .i64 0, .int .i64 0, .slice none 0 0], .bool false])) w' :=
  ⟨hb, _, by rw [tr_not hP], by unfold orZero; rw [if_neg hP]; exact ⟨_, rfl, SlIn.nil _ _ _ _⟩⟩
theorem SNewPost.yes {w w' : World} {P : Prop} {T : Tm} {s : Value} (hP : P) (hb : Below w.heap.size w w') (hs : SlIn w' w.heap.size T.kids s) : SNewPost w P T (.returned (.tuple #[.agg #[.int .i64 T.kind, .int .i64 T.num, s], .bool true])) w' :=
  ⟨hb, _, by rw [tr_of hP], by unfold orZero; rw [if_pos hP]; exact ⟨_, rfl, hs⟩⟩
theorem SNewPost.open {W w2 : World} {P : Prop} {T : Tm} {e : Ending} (h : SNewPost W P T e w2) : ∃ (U : Tm) (sa : Option Addr) (sc : Nat), U = orZero P T ∧ e = .returned (.tuple #[.agg #[.int .i64 U.kind, .int .i64 U.num, .slice sa U.kids.length sc], .bool (tr P)]) ∧ Below W.heap.size W w2 ∧ SlIn w2 W.heap.size U.kids (.slice sa U.kids.length sc) := by
  obtain ⟨hb, v, rfl, s, rfl, hs⟩ := h
  obtain ⟨sa, sc, rfl⟩ := hs.form
  exact ⟨_, sa, sc, rfl, rfl, hb, hs⟩
theorem SNewPost.close {w w' : World} {P : Prop} {T U : Tm} {s : Value} (hU : U = orZero P T) (hb : Below w.heap.size w w') (hs : SlIn w' w.heap.size U.kids s) : SNewPost w P T (.returned (.tuple #[.agg #[.int .i64 U.kind, .int .i64 U.num, s], .bool (tr P)])) w' := by
  subst hU
  exact ⟨hb, _, rfl, s, rfl, hs⟩
theorem SNewPost.weak {w w' : World} {P : Prop} {T : Tm} {e : Ending} (h : SNewPost w P T e w') : SReplPost w P T e w' := by
  obtain ⟨hb, v, h1, s, h2, hs⟩ := h
  exact ⟨hb, v, h1, s, h2, hs.mono (Nat.zero_le _)⟩

set_option maxRecDepth 100000 in
set_option maxHeartbeats 1600000 in
theorem subS_any (t u : Tm) (x : Int) (w : World) (v v' : Value) (h : TmIn w 0 t v) (h' : TmIn w 0 u v') : Calls Try.prog 23 #[v, .int .i64 x, v'] w (SNewPost w (SubstOk t x u) (t.subst u x 0)) := by
  obtain ⟨s, rfl, hs⟩ := h
  obtain ⟨a, cap, rfl⟩ := hs.form
  obtain ⟨su, rfl, hsu⟩ := h'
  obtain ⟨ua, ucap, rfl⟩ := hsu.form
  have HS := tuck hs
  have HU := tuck hsu
  have HV : Hid (∀ w', Below w.heap.size w w' → Calls Try.prog 49 #[.agg #[.int .i64 t.kind, .int .i64 t.num, .slice a t.kids.length cap]] w' (BoolPost w' (tr t.Valid))) := fun w' h => validS_any t w' _ ⟨_, rfl, hs.below h⟩
  have HVU : Hid (∀ w', Below w.heap.size w w' → Calls Try.prog 49 #[.agg #[.int .i64 u.kind, .int .i64 u.num, .slice ua u.kids.length ucap]] w' (BoolPost w' (tr u.Valid))) := fun w' h => validS_any u w' _ ⟨_, rfl, hsu.below h⟩
  have HX := tuck (index_any x)
  have HN : Hid (¬ SubstOk t x u → ∀ w', Below w.heap.size w w' → SNewPost w (SubstOk t x u) (t.subst u x 0) (.returned (.tuple #[.agg #[.int .i64 0, .int .i64 0, .slice none 0 0], .bool false])) w') := fun h w' hb => SNewPost.no h hb
  clear hs hsu
  by_cases hv : t.Valid
  rotate_left
  · rw [tr_not hv] at HV
    replace HN := tuck (HN.out (fun h => hv h.1))
    generalize SNewPost w (SubstOk t x u) (t.subst u x 0) = post at *
    clear hv
    go_enter Try.func23, Try.ntmps23
    go_wp2_with fail
    refine (HV.out _ (below3 _ _ _ _)).mono ?_
    rintro e' w1 ⟨rfl, hb⟩
    have HB := tuck (bAfter (below3 _ _ _ _) hb)
    have hv1 := (var_new2 w (.cells #[.int .i64 t.kind, .int .i64 t.num, .slice a t.kids.length cap] 25) (.cells #[.int .i64 u.kind, .int .i64 u.num, .slice ua u.kids.length ucap] 25) 0 0 (.slice none 0 0)).below hb
    have hv0 := (((VarAt.new w t.kind t.num (.slice a t.kids.length cap)).below (below1 _ (.cells #[.int .i64 u.kind, .int .i64 u.num, .slice ua u.kids.length ucap] 25))).below (below1 _ (.cells #[.int .i64 0, .int .i64 0, .slice none 0 0] 25))).below hb
    have hvu := ((var_new1 w (.cells #[.int .i64 t.kind, .int .i64 t.num, .slice a t.kids.length cap] 25) u.kind u.num (.slice ua u.kids.length ucap)).below (below1 _ (.cells #[.int .i64 0, .int .i64 0, .slice none 0 0] 25))).below hb
    obtain ⟨zv, v0, v1, v2, vf⟩ := hv1.facts
    obtain ⟨zt, t0, t1, t2, -⟩ := hv0.facts
    obtain ⟨zu, u0, u1, u2, -⟩ := hvu.facts
    have HV1 := tuck hv1
    have HV0 := tuck hv0
    have HVB := tuck hvu
    clear hb hv0 hv1 hvu
    go_wp2_with fail
    refine bodyPost_ret (v := .tuple #[.agg #[.int .i64 0, .int .i64 0, .slice none 0 0], .bool false]) (by simp [results, Try.results23, go_sem, *]) rfl (HN.out _ ?_)
    exact bSet3 HB.out (by omega) _ _ _ _ _ _
  rw [tr_of hv] at HV
  by_cases hu : u.Valid
  rotate_left
  · rw [tr_not hu] at HVU
    replace HN := tuck (HN.out (fun h => hu h.2.1))
    generalize SNewPost w (SubstOk t x u) (t.subst u x 0) = post at *
    clear hv hu
    go_enter Try.func23, Try.ntmps23
    go_wp2_with fail
    refine (HV.out _ (below3 _ _ _ _)).mono ?_
    rintro e' w1 ⟨rfl, hb⟩
    have HB := tuck (bAfter (below3 _ _ _ _) hb)
    have hv1 := (var_new2 w (.cells #[.int .i64 t.kind, .int .i64 t.num, .slice a t.kids.length cap] 25) (.cells #[.int .i64 u.kind, .int .i64 u.num, .slice ua u.kids.length ucap] 25) 0 0 (.slice none 0 0)).below hb
    have hv0 := (((VarAt.new w t.kind t.num (.slice a t.kids.length cap)).below (below1 _ (.cells #[.int .i64 u.kind, .int .i64 u.num, .slice ua u.kids.length ucap] 25))).below (below1 _ (.cells #[.int .i64 0, .int .i64 0, .slice none 0 0] 25))).below hb
    have hvu := ((var_new1 w (.cells #[.int .i64 t.kind, .int .i64 t.num, .slice a t.kids.length cap] 25) u.kind u.num (.slice ua u.kids.length ucap)).below (below1 _ (.cells #[.int .i64 0, .int .i64 0, .slice none 0 0] 25))).below hb
    obtain ⟨zv, v0, v1, v2, vf⟩ := hv1.facts
    obtain ⟨zt, t0, t1, t2, -⟩ := hv0.facts
    obtain ⟨zu, u0, u1, u2, -⟩ := hvu.facts
    have HV1 := tuck hv1
    have HV0 := tuck hv0
    have HVB := tuck hvu
    clear hb hv0 hv1 hvu
    go_wp2_with fail
    refine (HVU.out _ HB.out).mono ?_
    rintro e' w2 ⟨rfl, hb⟩
    replace HB := tuck (bAfter HB.out hb)
    replace HV1 := tuck (HV1.out.below hb)
    replace HV0 := tuck (HV0.out.below hb)
    replace HVB := tuck (HVB.out.below hb)
    clear hb v0 v1 v2 vf t0 t1 t2 zv zt zu u0 u1 u2
    obtain ⟨zv, v0, v1, v2, vf⟩ := HV1.out.facts
    obtain ⟨zt, t0, t1, t2, -⟩ := HV0.out.facts
    obtain ⟨zu, u0, u1, u2, -⟩ := HVB.out.facts
    go_wp2_with fail
    refine bodyPost_ret (v := .tuple #[.agg #[.int .i64 0, .int .i64 0, .slice none 0 0], .bool false]) (by simp [results, Try.results23, go_sem, *]) rfl (HN.out _ ?_)
    exact bSet3 HB.out (by omega) _ _ _ _ _ _
  rw [tr_of hu] at HVU
  by_cases h3 : 0 ≤ x ∧ x ≤ 20
  rotate_left
  · rw [show decide (0 ≤ x ∧ x ≤ 20) = false by simpa using h3] at HX
    replace HN := tuck (HN.out (fun h => h3 ⟨h.2.2.1, h.2.2.2.1⟩))
    generalize SNewPost w (SubstOk t x u) (t.subst u x 0) = post at *
    clear hv hu h3
    go_enter Try.func23, Try.ntmps23
    go_wp2_with fail
    refine (HV.out _ (below3 _ _ _ _)).mono ?_
    rintro e' w1 ⟨rfl, hb⟩
    have HB := tuck (bAfter (below3 _ _ _ _) hb)
    have hv1 := (var_new2 w (.cells #[.int .i64 t.kind, .int .i64 t.num, .slice a t.kids.length cap] 25) (.cells #[.int .i64 u.kind, .int .i64 u.num, .slice ua u.kids.length ucap] 25) 0 0 (.slice none 0 0)).below hb
    have hv0 := (((VarAt.new w t.kind t.num (.slice a t.kids.length cap)).below (below1 _ (.cells #[.int .i64 u.kind, .int .i64 u.num, .slice ua u.kids.length ucap] 25))).below (below1 _ (.cells #[.int .i64 0, .int .i64 0, .slice none 0 0] 25))).below hb
    have hvu := ((var_new1 w (.cells #[.int .i64 t.kind, .int .i64 t.num, .slice a t.kids.length cap] 25) u.kind u.num (.slice ua u.kids.length ucap)).below (below1 _ (.cells #[.int .i64 0, .int .i64 0, .slice none 0 0] 25))).below hb
    obtain ⟨zv, v0, v1, v2, vf⟩ := hv1.facts
    obtain ⟨zt, t0, t1, t2, -⟩ := hv0.facts
    obtain ⟨zu, u0, u1, u2, -⟩ := hvu.facts
    have HV1 := tuck hv1
    have HV0 := tuck hv0
    have HVB := tuck hvu
    clear hb hv0 hv1 hvu
    go_wp2_with fail
    refine (HVU.out _ HB.out).mono ?_
    rintro e' w2 ⟨rfl, hb⟩
    replace HB := tuck (bAfter HB.out hb)
    replace HV1 := tuck (HV1.out.below hb)
    replace HV0 := tuck (HV0.out.below hb)
    replace HVB := tuck (HVB.out.below hb)
    clear hb v0 v1 v2 vf t0 t1 t2 zv zt zu u0 u1 u2
    obtain ⟨zv, v0, v1, v2, vf⟩ := HV1.out.facts
    obtain ⟨zt, t0, t1, t2, -⟩ := HV0.out.facts
    obtain ⟨zu, u0, u1, u2, -⟩ := HVB.out.facts
    go_wp2_with (go_at_call 50; refine (HX.out _).mono ?_; rintro e' w' ⟨rfl, rfl⟩)
    refine bodyPost_ret (v := .tuple #[.agg #[.int .i64 0, .int .i64 0, .slice none 0 0], .bool false]) (by simp [results, Try.results23, go_sem, *]) rfl (HN.out _ ?_)
    exact bSet3 HB.out (by omega) _ _ _ _ _ _
  rw [show decide (0 ≤ x ∧ x ≤ 20) = true by simpa using h3] at HX
  obtain ⟨b1, b2⟩ := valid_bounds hv
  have hok := t.allOk_iff.1 hv.1
  have hrn := root_num2 hok.1
  have hrl := root_len hok.1
  have HSH : Hid (∀ w', Below w.heap.size w w' → Calls Try.prog 60 #[.agg #[.int .i64 t.kind, .int .i64 t.num, .slice a t.kids.length cap], .int .i64 x, .agg #[.int .i64 u.kind, .int .i64 u.num, .slice ua u.kids.length ucap], .int .i64 0] w' (MadePost w' (t.subst u x 0))) := fun w' hw => by
    have := lsubst_any hu t.kids t.kind t.num x 0 w' _ _ (by omega) (by omega) h3.1 (by omega) (by omega) (by omega) (by omega) ((allsOk_iff _).1 hok.2) (HS.out.below hw) (HU.out.below hw)
    rwa [Tm.eta] at this
  have HV2 : Hid (∀ w' v', TmIn w' 0 (t.subst u x 0) v' → Calls Try.prog 49 #[v'] w' (BoolPost w' (tr (t.subst u x 0).Valid))) := fun w' v' h => validS_any _ w' v' h
  have HQ : Hid (SubstOk t x u ↔ (t.subst u x 0).Valid) := ⟨fun h => h.2.2.2.2, fun h => ⟨hv, hu, h3.1, h3.2, h⟩⟩
  have HY : Hid (SubstOk t x u → ∀ w' s, Below w.heap.size w w' → SlIn w' w.heap.size (t.subst u x 0).kids s → SNewPost w (SubstOk t x u) (t.subst u x 0) (.returned (.tuple #[.agg #[.int .i64 (t.subst u x 0).kind, .int .i64 (t.subst u x 0).num, s], .bool true])) w') := fun h w' s a1 a2 => SNewPost.yes h a1 a2
  generalize SNewPost w (SubstOk t x u) (t.subst u x 0) = post at *
  generalize SubstOk t x u = Q at *
  generalize t.subst u x 0 = T at *
  clear hv hu h3 hok hrn hrl b1 b2
  by_cases hT : T.Valid
  · have HYY := tuck (HY.out (HQ.out.2 hT))
    rw [tr_of hT] at HV2
    clear hT
    go_enter Try.func23, Try.ntmps23
    go_wp2_with fail
    refine (HV.out _ (below3 _ _ _ _)).mono ?_
    rintro e' w1 ⟨rfl, hb⟩
    have HB := tuck (bAfter (below3 _ _ _ _) hb)
    have hv1 := (var_new2 w (.cells #[.int .i64 t.kind, .int .i64 t.num, .slice a t.kids.length cap] 25) (.cells #[.int .i64 u.kind, .int .i64 u.num, .slice ua u.kids.length ucap] 25) 0 0 (.slice none 0 0)).below hb
    have hv0 := (((VarAt.new w t.kind t.num (.slice a t.kids.length cap)).below (below1 _ (.cells #[.int .i64 u.kind, .int .i64 u.num, .slice ua u.kids.length ucap] 25))).below (below1 _ (.cells #[.int .i64 0, .int .i64 0, .slice none 0 0] 25))).below hb
    have hvu := ((var_new1 w (.cells #[.int .i64 t.kind, .int .i64 t.num, .slice a t.kids.length cap] 25) u.kind u.num (.slice ua u.kids.length ucap)).below (below1 _ (.cells #[.int .i64 0, .int .i64 0, .slice none 0 0] 25))).below hb
    obtain ⟨zv, v0, v1, v2, vf⟩ := hv1.facts
    obtain ⟨zt, t0, t1, t2, -⟩ := hv0.facts
    obtain ⟨zu, u0, u1, u2, -⟩ := hvu.facts
    have HV1 := tuck hv1
    have HV0 := tuck hv0
    have HVB := tuck hvu
    clear hb hv0 hv1 hvu
    go_wp2_with fail
    refine (HVU.out _ HB.out).mono ?_
    rintro e' w2 ⟨rfl, hb⟩
    replace HB := tuck (bAfter HB.out hb)
    replace HV1 := tuck (HV1.out.below hb)
    replace HV0 := tuck (HV0.out.below hb)
    replace HVB := tuck (HVB.out.below hb)
    clear hb v0 v1 v2 vf t0 t1 t2 zv zt zu u0 u1 u2
    obtain ⟨zv, v0, v1, v2, vf⟩ := HV1.out.facts
    obtain ⟨zt, t0, t1, t2, -⟩ := HV0.out.facts
    obtain ⟨zu, u0, u1, u2, -⟩ := HVB.out.facts
    go_wp2_with (go_at_call 50; refine (HX.out _).mono ?_; rintro e' w' ⟨rfl, rfl⟩)
    refine (HSH.out _ HB.out).mono ?_
    rintro e' w5 ⟨hb, tv, rfl, ts, F, rfl, hso, hnd, hF⟩
    obtain ⟨ta, tc, rfl⟩ := hso.form
    have hsl : SlIn w5 (w.heap.size + 1 + 1 + 1) T.kids (.slice ta T.kids.length tc) := hso.sl (fun g hg => by have := (hF g hg).1; have := zv; omega)
    replace HB := tuck (bAfter HB.out hb)
    replace HV1 := tuck (HV1.out.below hb)
    have HSL := tuck hsl
    clear hb hso hnd hF hsl v0 v1 v2 vf t0 t1 t2 zv zt zu u0 u1 u2
    go_wp2_with fail
    refine (HV2.out _ _ ⟨_, rfl, (HSL.out.mono (Nat.zero_le _)).below (below1 _ _)⟩).mono ?_
    rintro e' w6 ⟨rfl, hb6⟩
    have hvo := (VarAt.new w5 T.kind T.num (.slice ta T.kids.length tc)).below hb6
    obtain ⟨zo, o0, o1, o2, -⟩ := hvo.facts
    replace HV1 := tuck ((HV1.out.below (below1 _ _)).below hb6)
    replace HSL := tuck ((HSL.out.below (below1 _ _)).below hb6)
    replace HB := tuck (bAfter HB.out (bAfter (below1 _ _) hb6))
    obtain ⟨zv, v0, v1, v2, vf⟩ := HV1.out.facts
    clear hb6 hvo
    go_wp2_with fail
    refine bodyPost_ret (v := .tuple #[.agg #[.int .i64 T.kind, .int .i64 T.num, .slice ta T.kids.length tc], .bool true]) (by simp [results, Try.results23, go_sem, *]) rfl (HYY.out _ _ ?_ ?_)
    · exact bSet3 HB.out (by omega) _ _ _ _ _ _
    · exact (HSL.out.set3 (by omega)).mono (by omega)
  · replace HN := tuck (HN.out (fun h => hT (HQ.out.1 h)))
    rw [tr_not hT] at HV2
    clear hT
    go_enter Try.func23, Try.ntmps23
    go_wp2_with fail
    refine (HV.out _ (below3 _ _ _ _)).mono ?_
    rintro e' w1 ⟨rfl, hb⟩
    have HB := tuck (bAfter (below3 _ _ _ _) hb)
    have hv1 := (var_new2 w (.cells #[.int .i64 t.kind, .int .i64 t.num, .slice a t.kids.length cap] 25) (.cells #[.int .i64 u.kind, .int .i64 u.num, .slice ua u.kids.length ucap] 25) 0 0 (.slice none 0 0)).below hb
    have hv0 := (((VarAt.new w t.kind t.num (.slice a t.kids.length cap)).below (below1 _ (.cells #[.int .i64 u.kind, .int .i64 u.num, .slice ua u.kids.length ucap] 25))).below (below1 _ (.cells #[.int .i64 0, .int .i64 0, .slice none 0 0] 25))).below hb
    have hvu := ((var_new1 w (.cells #[.int .i64 t.kind, .int .i64 t.num, .slice a t.kids.length cap] 25) u.kind u.num (.slice ua u.kids.length ucap)).below (below1 _ (.cells #[.int .i64 0, .int .i64 0, .slice none 0 0] 25))).below hb
    obtain ⟨zv, v0, v1, v2, vf⟩ := hv1.facts
    obtain ⟨zt, t0, t1, t2, -⟩ := hv0.facts
    obtain ⟨zu, u0, u1, u2, -⟩ := hvu.facts
    have HV1 := tuck hv1
    have HV0 := tuck hv0
    have HVB := tuck hvu
    clear hb hv0 hv1 hvu
    go_wp2_with fail
    refine (HVU.out _ HB.out).mono ?_
    rintro e' w2 ⟨rfl, hb⟩
    replace HB := tuck (bAfter HB.out hb)
    replace HV1 := tuck (HV1.out.below hb)
    replace HV0 := tuck (HV0.out.below hb)
    replace HVB := tuck (HVB.out.below hb)
    clear hb v0 v1 v2 vf t0 t1 t2 zv zt zu u0 u1 u2
    obtain ⟨zv, v0, v1, v2, vf⟩ := HV1.out.facts
    obtain ⟨zt, t0, t1, t2, -⟩ := HV0.out.facts
    obtain ⟨zu, u0, u1, u2, -⟩ := HVB.out.facts
    go_wp2_with (go_at_call 50; refine (HX.out _).mono ?_; rintro e' w' ⟨rfl, rfl⟩)
    refine (HSH.out _ HB.out).mono ?_
    rintro e' w5 ⟨hb, tv, rfl, ts, F, rfl, hso, hnd, hF⟩
    obtain ⟨ta, tc, rfl⟩ := hso.form
    have hsl : SlIn w5 (w.heap.size + 1 + 1 + 1) T.kids (.slice ta T.kids.length tc) := hso.sl (fun g hg => by have := (hF g hg).1; have := zv; omega)
    replace HB := tuck (bAfter HB.out hb)
    replace HV1 := tuck (HV1.out.below hb)
    have HSL := tuck hsl
    clear hb hso hnd hF hsl v0 v1 v2 vf t0 t1 t2 zv zt zu u0 u1 u2
    go_wp2_with fail
    refine (HV2.out _ _ ⟨_, rfl, (HSL.out.mono (Nat.zero_le _)).below (below1 _ _)⟩).mono ?_
    rintro e' w6 ⟨rfl, hb6⟩
    have hvo := (VarAt.new w5 T.kind T.num (.slice ta T.kids.length tc)).below hb6
    obtain ⟨zo, o0, o1, o2, -⟩ := hvo.facts
    replace HV1 := tuck ((HV1.out.below (below1 _ _)).below hb6)
    replace HSL := tuck ((HSL.out.below (below1 _ _)).below hb6)
    replace HB := tuck (bAfter HB.out (bAfter (below1 _ _) hb6))
    obtain ⟨zv, v0, v1, v2, vf⟩ := HV1.out.facts
    clear hb6 hvo
    go_wp2_with fail
    refine bodyPost_ret (v := .tuple #[.agg #[.int .i64 0, .int .i64 0, .slice none 0 0], .bool false]) (by simp [results, Try.results23, go_sem, *]) rfl (HN.out _ ?_)
    exact bSet3 HB.out (by omega) _ _ _ _ _ _

set_option maxRecDepth 100000 in
theorem instS_any (t u : Tm) (w : World) (v v' : Value) (h : TmIn w 0 t v) (h' : TmIn w 0 u v') : Calls Try.prog 33 #[v, v'] w (SNewPost w (SubstOk t 0 u) (t.subst u 0 0)) := by
  obtain ⟨s, rfl, hs⟩ := h
  obtain ⟨a, cap, rfl⟩ := hs.form
  obtain ⟨su, rfl, hsu⟩ := h'
  obtain ⟨ua, ucap, rfl⟩ := hsu.form
  have HK : Hid (∀ w', Below w.heap.size w w' → Calls Try.prog 23 #[.agg #[.int .i64 t.kind, .int .i64 t.num, .slice a t.kids.length cap], .int .i64 0, .agg #[.int .i64 u.kind, .int .i64 u.num, .slice ua u.kids.length ucap]] w' (SNewPost w' (SubstOk t 0 u) (t.subst u 0 0))) := fun w' hb => subS_any t u 0 w' _ _ ⟨_, rfl, hs.below hb⟩ ⟨_, rfl, hsu.below hb⟩
  have HP := fun (W w' : World) (e : Ending) (h : SNewPost W (SubstOk t 0 u) (t.subst u 0 0) e w') => h.open
  have HQ := fun (w' : World) (U : Tm) (s : Value) (h1 : U = orZero (SubstOk t 0 u) (t.subst u 0 0)) (h2 : Below w.heap.size w w') (h3 : SlIn w' w.heap.size U.kids s) => SNewPost.close (w := w) (w' := w') (P := SubstOk t 0 u) (T := t.subst u 0 0) (U := U) (s := s) h1 h2 h3
  replace HP := tuck HP
  replace HQ := tuck HQ
  generalize SNewPost w (SubstOk t 0 u) (t.subst u 0 0) = post at *
  clear hs hsu
  go_enter Try.func33, Try.ntmps33
  go_wp2_with fail
  refine (HK.out _ (below3 _ _ _ _)).mono ?_
  intro e w2 hpost
  obtain ⟨U, sa, sc, hU, rfl, hb, hs2⟩ := HP.out _ _ _ hpost
  have hv1 := (var_new2 w (.cells #[.int .i64 t.kind, .int .i64 t.num, .slice a t.kids.length cap] 25) (.cells #[.int .i64 u.kind, .int .i64 u.num, .slice ua u.kids.length ucap] 25) 0 0 (.slice none 0 0)).below hb
  obtain ⟨zv, v0, v1, v2, vf⟩ := hv1.facts
  have HB := tuck (bAfter (below3 _ _ _ _) hb)
  have HSL : Hid (SlIn w2 (w.heap.size + 1 + 1 + 1) U.kids (.slice sa U.kids.length sc)) := hs2.mono (by simp)
  clear hb hv1 hpost hs2
  have HUU := tuck hU
  clear hU HP HK
  generalize tr (SubstOk t 0 u) = cc at *
  go_wp2_with fail
  refine bodyPost_ret (v := .tuple #[.agg #[.int .i64 U.kind, .int .i64 U.num, .slice sa U.kids.length sc], .bool cc]) (by simp [results, Try.results33, go_sem, *]) rfl (HQ.out _ U _ HUU.out ?_ ?_)
  · exact bSet3 HB.out (by omega) _ _ _ _ _ _
  · exact (HSL.out.set3 (by omega)).mono (by omega)

set_option maxRecDepth 100000 in
theorem instI_any (t u : Tm) (w : World) (v v' : Value) (h : TmIn w 0 t v) (h' : TmIn w 0 u v') : Calls Try.prog 32 #[v, v'] w (ReplPost w (SubstOk t 0 u) (t.subst u 0 0)) := by
  obtain ⟨s, rfl, hs⟩ := h
  obtain ⟨a, cap, rfl⟩ := hs.form
  obtain ⟨su, rfl, hsu⟩ := h'
  obtain ⟨ua, ucap, rfl⟩ := hsu.form
  have HK : Hid (∀ w', Below w.heap.size w w' → Calls Try.prog 22 #[.agg #[.int .i64 t.kind, .int .i64 t.num, .slice a t.kids.length cap], .int .i64 0, .agg #[.int .i64 u.kind, .int .i64 u.num, .slice ua u.kids.length ucap]] w' (ReplPost w' (SubstOk t 0 u) (t.subst u 0 0))) := fun w' hb => substI_any t u 0 w' _ _ ⟨_, rfl, hs.below hb⟩ ⟨_, rfl, hsu.below hb⟩
  have HP := fun (W w' : World) (e : Ending) (h : ReplPost W (SubstOk t 0 u) (t.subst u 0 0) e w') => h.open
  have HQ := fun (w' : World) (U : Tm) (s : Value) (F : List Nat) (h1 : U = orZero (SubstOk t 0 u) (t.subst u 0 0)) (h2 : Below w.heap.size w w') (h3 : SlOwn w' U.kids s F) (h4 : F.Nodup) (h5 : ∀ g ∈ F, w.heap.size ≤ g ∧ g < w'.heap.size) => ReplPost.close (w := w) (w' := w') (P := SubstOk t 0 u) (T := t.subst u 0 0) (U := U) (s := s) h1 h2 h3 h4 h5
  replace HP := tuck HP
  replace HQ := tuck HQ
  generalize ReplPost w (SubstOk t 0 u) (t.subst u 0 0) = post at *
  clear hs hsu
  go_enter Try.func32, Try.ntmps32
  go_wp2_with fail
  refine (HK.out _ (below3 _ _ _ _)).mono ?_
  intro e w2 hpost
  obtain ⟨U, sa, sc, F, hU, rfl, hb, hs2, hn2, hF2⟩ := HP.out _ _ _ hpost
  have hv1 := (var_new2 w (.cells #[.int .i64 t.kind, .int .i64 t.num, .slice a t.kids.length cap] 25) (.cells #[.int .i64 u.kind, .int .i64 u.num, .slice ua u.kids.length ucap] 25) 0 0 (.slice none 0 0)).below hb
  obtain ⟨zv, v0, v1, v2, vf⟩ := hv1.facts
  have HB := tuck (bAfter (below3 _ _ _ _) hb)
  have HSO := tuck hs2
  have HN2 := tuck hn2
  have HF : Hid (∀ g ∈ F, w.heap.size + 1 + 1 + 1 ≤ g ∧ g < w2.heap.size) := tuck (fun g hg => ⟨by have := (hF2 g hg).1; simp at this; omega, (hF2 g hg).2⟩)
  clear hb hv1 hpost hs2 hn2 hF2
  have HUU := tuck hU
  clear hU HP HK
  generalize tr (SubstOk t 0 u) = cc at *
  go_wp2_with fail
  refine bodyPost_ret (v := .tuple #[.agg #[.int .i64 U.kind, .int .i64 U.num, .slice sa U.kids.length sc], .bool cc]) (by simp [results, Try.results32, go_sem, *]) rfl (HQ.out _ U _ F HUU.out ?_ ?_ HN2.out fun g hg => ?_)
  · exact bSet3 HB.out (by omega) _ _ _ _ _ _
  · exact HSO.out.set3 (fun h => by have := (HF.out _ h).1; omega) _ _ _ _ _ _
  · rw [size_set3]
    have := HF.out g hg
    omega

end Go.Proofs.Ytmihfbopahoejaa
