/-
  ImplS.
-/
import Derived.Test.YteeafpnjpcgfaaaGreatB23
namespace Go.Proofs.YteeafpnjpcgfaaaGreat
open Go.RowKit
theorem ReplPost.open {W w2 : World} {P : Prop} {T : Tm} {e : Ending} (h : ReplPost W P T e w2) : ∃ (U : Tm) (sa : Option Addr) (sc : Nat) (F : List Nat), U = orZero P T ∧ e = .returned (.tuple #[.agg #[.int .i64 U.kind, .int .i64 U.num, .slice sa U.kids.length sc], .bool (tr P)]) ∧ Below W.heap.size W w2 ∧
  SlOwn w2 U.kids (.slice sa U.kids.length sc) F ∧ F.Nodup ∧ (∀ g ∈ F, W.heap.size ≤ g ∧ g < w2.heap.size) := by
 obtain ⟨hb, v, rfl, s, F, rfl, hs, hn, hF⟩ := h
 obtain ⟨sa, sc, rfl⟩ := hs.form
 exact ⟨_, sa, sc, F, rfl, rfl, hb, hs, hn, hF⟩
theorem ReplPost.close {w w' : World} {P : Prop} {T U : Tm} {s : Value} {F : List Nat} (hU : U = orZero P T) (hb : Below w.heap.size w w') (hs : SlOwn w' U.kids s F) (hn : F.Nodup) (hF : ∀ g ∈ F, w.heap.size ≤ g ∧ g < w'.heap.size) :
  ReplPost w P T (.returned (.tuple #[.agg #[.int .i64 U.kind, .int .i64 U.num, s], .bool (tr P)])) w' := by
 subst hU
 exact ⟨hb, _, rfl, s, F, rfl, hs, hn, hF⟩
theorem most_valid {t : Tm} (h : t.Valid) : t.most 0 ≤ 21 := (t.most_bd 0 h.1 (Int.le_refl 0)).2
set_option maxRecDepth 100000 in
theorem substI_any (t u : Tm) (x : Int) (w : World) (v v' : Value) (h : TmIn w 0 t v) (h' : TmIn w 0 u v') : Calls Tryz.prog 127 #[v, .int .i64 x, v'] w (ReplPost w (SubstOk t x u) (t.subst u x 0)) := by
 obtain ⟨s, rfl, hs⟩ := h
 obtain ⟨a, cap, rfl⟩ := hs.form
 obtain ⟨s', rfl, hs'⟩ := h'
 obtain ⟨a', cap', rfl⟩ := hs'.form
 have HS := tuck hs
 have HS' := tuck hs'
 have HV : Hid (∀ w', Below w.heap.size w w' → Calls Tryz.prog 15 #[.agg #[.int .i64 t.kind, .int .i64 t.num, .slice a t.kids.length cap]] w' (BoolPost w' (tr t.Valid))) := fun w' h => validI_any t w' _ ⟨_, rfl, hs.below h⟩
 have HVU' : Hid (∀ w', Below w.heap.size w w' → Calls Tryz.prog 15 #[.agg #[.int .i64 u.kind, .int .i64 u.num, .slice a' u.kids.length cap']] w' (BoolPost w' (tr u.Valid))) := fun w' h => validI_any u w' _ ⟨_, rfl, hs'.below h⟩
 have HX := tuck (indexValid_any x)
 have HN : Hid (¬ SubstOk t x u → ∀ w', Below w.heap.size w w' → ReplPost w (SubstOk t x u) (t.subst u x 0) (.returned (.tuple #[.agg #[.int .i64 0, .int .i64 0, .slice none 0 0], .bool false])) w') := fun h w' hb => ReplPost.no h hb
 clear hs hs'
 by_cases hv : t.Valid
 rotate_left
 ·rw [tr_not hv] at HV
  replace HN := tuck (HN.out (fun h => hv h.1))
  generalize ReplPost w (SubstOk t x u) (t.subst u x 0) = post at *
  clear hv
  go_enter Tryz.func127, Tryz.ntmps127
  go_wp2_with fail
  refine (HV.out _ (below3 _ _ _ _)).mono ?_
  rintro e' w1 ⟨rfl, hb⟩
  have HB := tuck (bAfter (below3 _ _ _ _) hb)
  have hv1 := ((VarAt.new ((w.alloc (.cells #[.int .i64 t.kind, .int .i64 t.num, .slice a t.kids.length cap] 29)).alloc (.cells #[.int .i64 u.kind, .int .i64 u.num, .slice a' u.kids.length cap'] 29)) 0 0 (.slice none 0 0)).below hb)
  rw [show ((w.alloc (.cells #[.int .i64 t.kind, .int .i64 t.num, .slice a t.kids.length cap] 29)).alloc (.cells #[.int .i64 u.kind, .int .i64 u.num, .slice a' u.kids.length cap'] 29)).heap.size = w.heap.size + 1 + 1 by simp] at hv1
  obtain ⟨zv, v0, v1, v2, vf⟩ := hv1.facts
  clear hb hv1
  go_wp2_with fail
  refine bodyPost_ret (v := .tuple #[.agg #[.int .i64 0, .int .i64 0, .slice none 0 0], .bool false]) (by simp [results, Tryz.results127, go_sem, *]) rfl (HN.out _ ?_)
  exact bSet3 HB.out (by omega) _ _ _ _ _ _
 rw [tr_of hv] at HV
 by_cases hu : u.Valid
 rotate_left
 ·rw [tr_not hu] at HVU'
  replace HN := tuck (HN.out (fun h => hu h.2.1))
  generalize ReplPost w (SubstOk t x u) (t.subst u x 0) = post at *
  clear hv hu
  go_enter Tryz.func127, Tryz.ntmps127
  go_wp2_with fail
  refine (HV.out _ (below3 _ _ _ _)).mono ?_
  rintro e' w1 ⟨rfl, hb⟩
  have HB := tuck (bAfter (below3 _ _ _ _) hb)
  have hv1 := ((VarAt.new ((w.alloc (.cells #[.int .i64 t.kind, .int .i64 t.num, .slice a t.kids.length cap] 29)).alloc (.cells #[.int .i64 u.kind, .int .i64 u.num, .slice a' u.kids.length cap'] 29)) 0 0 (.slice none 0 0)).below hb)
  rw [show ((w.alloc (.cells #[.int .i64 t.kind, .int .i64 t.num, .slice a t.kids.length cap] 29)).alloc (.cells #[.int .i64 u.kind, .int .i64 u.num, .slice a' u.kids.length cap'] 29)).heap.size = w.heap.size + 1 + 1 by simp] at hv1
  have hvu := ((VarAt.new (w.alloc (.cells #[.int .i64 t.kind, .int .i64 t.num, .slice a t.kids.length cap] 29)) u.kind u.num (.slice a' u.kids.length cap')).below (below1 _ (.cells #[.int .i64 0, .int .i64 0, .slice none 0 0] 29))).below hb
  rw [show (w.alloc (.cells #[.int .i64 t.kind, .int .i64 t.num, .slice a t.kids.length cap] 29)).heap.size = w.heap.size + 1 by simp] at hvu
  obtain ⟨zu, u0, u1, u2, -⟩ := hvu.facts
  have HVU := tuck hvu
  have HV1 := tuck hv1
  clear hb hvu hv1
  go_wp2_with fail
  refine (HVU'.out _ HB.out).mono ?_
  rintro e' w2 ⟨rfl, hb⟩
  replace HB := tuck (bAfter HB.out hb)
  replace HV1 := tuck (HV1.out.below hb)
  replace HVU := tuck (HVU.out.below hb)
  clear hb zu u0 u1 u2
  obtain ⟨zu, u0, u1, u2, -⟩ := HVU.out.facts
  obtain ⟨zv, v0, v1, v2, vf⟩ := HV1.out.facts
  go_wp2_with fail
  refine bodyPost_ret (v := .tuple #[.agg #[.int .i64 0, .int .i64 0, .slice none 0 0], .bool false]) (by simp [results, Tryz.results127, go_sem, *]) rfl (HN.out _ ?_)
  exact bSet3 HB.out (by omega) _ _ _ _ _ _
 rw [tr_of hu] at HVU'
 by_cases h3 : 0 ≤ x ∧ x ≤ 20
 rotate_left
 ·rw [show decide (0 ≤ x ∧ x ≤ 20) = false by simpa using h3] at HX
  replace HN := tuck (HN.out (fun h => h3 ⟨h.2.2.1, h.2.2.2.1⟩))
  generalize ReplPost w (SubstOk t x u) (t.subst u x 0) = post at *
  clear hv hu h3
  go_enter Tryz.func127, Tryz.ntmps127
  go_wp2_with fail
  refine (HV.out _ (below3 _ _ _ _)).mono ?_
  rintro e' w1 ⟨rfl, hb⟩
  have HB := tuck (bAfter (below3 _ _ _ _) hb)
  have hv1 := ((VarAt.new ((w.alloc (.cells #[.int .i64 t.kind, .int .i64 t.num, .slice a t.kids.length cap] 29)).alloc (.cells #[.int .i64 u.kind, .int .i64 u.num, .slice a' u.kids.length cap'] 29)) 0 0 (.slice none 0 0)).below hb)
  rw [show ((w.alloc (.cells #[.int .i64 t.kind, .int .i64 t.num, .slice a t.kids.length cap] 29)).alloc (.cells #[.int .i64 u.kind, .int .i64 u.num, .slice a' u.kids.length cap'] 29)).heap.size = w.heap.size + 1 + 1 by simp] at hv1
  have hvu := ((VarAt.new (w.alloc (.cells #[.int .i64 t.kind, .int .i64 t.num, .slice a t.kids.length cap] 29)) u.kind u.num (.slice a' u.kids.length cap')).below (below1 _ (.cells #[.int .i64 0, .int .i64 0, .slice none 0 0] 29))).below hb
  rw [show (w.alloc (.cells #[.int .i64 t.kind, .int .i64 t.num, .slice a t.kids.length cap] 29)).heap.size = w.heap.size + 1 by simp] at hvu
  obtain ⟨zu, u0, u1, u2, -⟩ := hvu.facts
  have HVU := tuck hvu
  have HV1 := tuck hv1
  clear hb hvu hv1
  go_wp2_with fail
  refine (HVU'.out _ HB.out).mono ?_
  rintro e' w2 ⟨rfl, hb⟩
  replace HB := tuck (bAfter HB.out hb)
  replace HV1 := tuck (HV1.out.below hb)
  replace HVU := tuck (HVU.out.below hb)
  clear hb zu u0 u1 u2
  obtain ⟨zu, u0, u1, u2, -⟩ := HVU.out.facts
  obtain ⟨zv, v0, v1, v2, vf⟩ := HV1.out.facts
  go_wp2_with (go_at_call 128; refine (HX.out _).mono ?_; rintro e' w' ⟨rfl, rfl⟩)
  refine bodyPost_ret (v := .tuple #[.agg #[.int .i64 0, .int .i64 0, .slice none 0 0], .bool false]) (by simp [results, Tryz.results127, go_sem, *]) rfl (HN.out _ ?_)
  exact bSet3 HB.out (by omega) _ _ _ _ _ _
 rw [show decide (0 ≤ x ∧ x ≤ 20) = true by simpa using h3] at HX
 have huh : u.hgt ≤ 100 := by have := hu.2.1; omega
 have HR : Hid (∀ (W : World) (gx gu : Nat), Below w.heap.size w W → gx < W.heap.size → gu < W.heap.size → W.cell? ⟨gx, 0, none⟩ = some (.int .i64 x) → VarAt gu u.kind u.num (.slice a' u.kids.length cap') W →
   Calls Tryz.prog 129 #[.agg #[.int .i64 t.kind, .int .i64 t.num, .slice a t.kids.length cap], .func (.func 130) #[] #[.pointer (some ⟨gx, 0, none⟩), .pointer (some ⟨gu, 0, none⟩)]] W (ReplPost W (SubstOk t x u) (t.subst u x 0))) := fun W gx gu hb hgx hgu hxc hvu =>
  replaceFree_any (L := 21) t W w _ (fun _ _ => by kernel_rfl) hb (fun w0 M0 g hb0 hM0 => subst1_ok h3.1 h3.2 (bAfter hb hb0) (fun i hi => Nat.le_trans hb.size (hM0 i hi)) hu.1 huh HS'.out (Nat.lt_of_lt_of_le hgx hb0.size) (fun h => by have := hM0 _ h; omega) ((hb0.cell (p := ⟨gx, 0, none⟩) hgx).trans hxc) (Nat.lt_of_lt_of_le hgu hb0.size) (fun h => by have := hM0 _ h; omega) (hvu.below hb0)) hv (most_valid hv) ⟨_, rfl, HS.out⟩
   ((Tm.trav_copy _ _ t 0 1 [] hv.1 (by simp)).symm.trans (emit_subst hv hu h3.1 h3.2))
 have HP : Hid (∀ (w' : World) (U : Tm) (s : Value) (F : List Nat), U = orZero (SubstOk t x u) (t.subst u x 0) → Below w.heap.size w w' → SlOwn w' U.kids s F → F.Nodup → (∀ g ∈ F, w.heap.size ≤ g ∧ g < w'.heap.size) → ReplPost w (SubstOk t x u) (t.subst u x 0) (.returned (.tuple #[.agg #[.int .i64 U.kind, .int .i64 U.num, s], .bool (tr (SubstOk t x u))])) w') := fun w' U s F a1 a2 a3 a4 a5 => ReplPost.close a1 a2 a3 a4 a5
 generalize t.subst u x 0 = T at *
 generalize SubstOk t x u = Q at *
 generalize hpost : ReplPost w Q T = post at *
 clear hv hu h3 hpost
 go_enter Tryz.func127, Tryz.ntmps127
 go_wp2_with fail
 refine (HV.out _ (below3 _ _ _ _)).mono ?_
 rintro e' w1 ⟨rfl, hb⟩
 have HB := tuck (bAfter (below3 _ _ _ _) hb)
 have hv1 := ((VarAt.new ((w.alloc (.cells #[.int .i64 t.kind, .int .i64 t.num, .slice a t.kids.length cap] 29)).alloc (.cells #[.int .i64 u.kind, .int .i64 u.num, .slice a' u.kids.length cap'] 29)) 0 0 (.slice none 0 0)).below hb)
 rw [show ((w.alloc (.cells #[.int .i64 t.kind, .int .i64 t.num, .slice a t.kids.length cap] 29)).alloc (.cells #[.int .i64 u.kind, .int .i64 u.num, .slice a' u.kids.length cap'] 29)).heap.size = w.heap.size + 1 + 1 by simp] at hv1
 have hvt := (((VarAt.new w t.kind t.num (.slice a t.kids.length cap)).below (below1 _ (.cells #[.int .i64 u.kind, .int .i64 u.num, .slice a' u.kids.length cap'] 29))).below (below1 _ (.cells #[.int .i64 0, .int .i64 0, .slice none 0 0] 29))).below hb
 have HVT := tuck hvt
 clear hvt
 have hvu := ((VarAt.new (w.alloc (.cells #[.int .i64 t.kind, .int .i64 t.num, .slice a t.kids.length cap] 29)) u.kind u.num (.slice a' u.kids.length cap')).below (below1 _ (.cells #[.int .i64 0, .int .i64 0, .slice none 0 0] 29))).below hb
 rw [show (w.alloc (.cells #[.int .i64 t.kind, .int .i64 t.num, .slice a t.kids.length cap] 29)).heap.size = w.heap.size + 1 by simp] at hvu
 obtain ⟨zu, u0, u1, u2, -⟩ := hvu.facts
 have HVU := tuck hvu
 have HV1 := tuck hv1
 clear hb hvu hv1
 go_wp2_with fail
 refine (HVU'.out _ HB.out).mono ?_
 rintro e' w2 ⟨rfl, hb⟩
 replace HB := tuck (bAfter HB.out hb)
 replace HV1 := tuck (HV1.out.below hb)
 replace HVU := tuck (HVU.out.below hb)
 replace HVT := tuck (HVT.out.below hb)
 clear hb zu u0 u1 u2
 obtain ⟨zu, u0, u1, u2, -⟩ := HVU.out.facts
 obtain ⟨zt, t0, t1, t2, -⟩ := HVT.out.facts
 go_wp2_with (go_at_call 128; refine (HX.out _).mono ?_; rintro e' w' ⟨rfl, rfl⟩)
 have hbw : Below w.heap.size w (w2.alloc (.cells #[.int .i64 x] 118)) := bAfter HB.out (below1 _ _)
 refine (HR.out _ w2.heap.size (w.heap.size + 1) hbw (by simp) (by simp; omega) (by go_simp) (HVU.out.below (below1 _ _))).mono ?_
 rintro e' w3 hp
 obtain ⟨U, sa, sc, F, hU, rfl, hb2, hs2, hn2, hF2⟩ := hp.open
 have hv2 := (HV1.out.below (below1 _ (.cells #[.int .i64 x] 118))).below hb2
 obtain ⟨zv2, v20, v21, v22, v2f⟩ := hv2.facts
 have hz2 : w.heap.size + 1 + 1 < w2.heap.size := HV1.out.facts.1
 have HB2 := tuck (bAfter hbw hb2)
 have HS2 := tuck hs2
 have HN2 := tuck hn2
 have HF2 := tuck hF2
 have HU := tuck hU
 have hzw := hbw.size
 clear hb2 hs2 hn2 hF2 hv2 hU hbw HR HV1 t0 t1 t2 u0 u1 u2
 generalize tr Q = r at *
 go_wp2_with fail
 refine bodyPost_ret (v := .tuple #[.agg #[.int .i64 U.kind, .int .i64 U.num, .slice sa U.kids.length sc], .bool r]) (by simp [results, Tryz.results127, go_sem, *]) rfl (HP.out _ U _ F HU.out ?_ ?_ HN2.out fun y hy => ?_)
 ·exact bSet3 HB2.out (by omega) _ _ _ _ _ _
 ·exact HS2.out.set3 (fun h => by have := (HF2.out _ h).1; simp at this; omega) _ _ _ _ _ _
 ·rw [size_set3]
  have := HF2.out y hy
  omega
end Go.Proofs.YteeafpnjpcgfaaaGreat
