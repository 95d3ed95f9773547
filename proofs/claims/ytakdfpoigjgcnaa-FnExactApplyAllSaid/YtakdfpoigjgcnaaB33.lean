/-
  TeleP.
-/
import Derived.Test.YtakdfpoigjgcnaaB13
import Derived.Test.YtakdfpoigjgcnaaB32
namespace Go.Proofs.Ytakdfpoigjgcnaa
open Go.RowKit
def TlRes (w : World) (P : Prop) (T : Tm) (e : Ending) (w' : World) : Prop := Below w.heap.size w w' ∧ ∃ (a : Option Addr) (c : Nat), e = .returned (.tuple #[.agg #[.int .i64 (orZero P T).kind, .int .i64 (orZero P T).num, .slice a (orZero P T).kids.length c], .bool (tr P)]) ∧ SlIn w' w.heap.size (orZero P T).kids (.slice a (orZero P T).kids.length c)
theorem TlRes.no {w w' : World} {P : Prop} {T : Tm} (hP : ¬ P) (hb : Below w.heap.size w w') : TlRes w P T (.returned (.tuple #[.agg #[.int .i64 0, .int .i64 0, .slice none 0 0], .bool false])) w' := by
 have h : orZero P T = zeroT := by unfold orZero; rw [if_neg hP]
 refine ⟨hb, none, 0, ?_, ?_⟩
 ·rw [h, tr_not hP]; rfl
 ·rw [h]; exact SlIn.nil _ _ _ _
theorem TlRes.yes {w w' : World} {P : Prop} {T : Tm} {a : Option Addr} {c : Nat} (hP : P) (hb : Below w.heap.size w w') (hs : SlIn w' w.heap.size T.kids (.slice a T.kids.length c)) : TlRes w P T (.returned (.tuple #[.agg #[.int .i64 T.kind, .int .i64 T.num, .slice a T.kids.length c], .bool true])) w' := by
 have h : orZero P T = T := by unfold orZero; rw [if_pos hP]
 refine ⟨hb, a, c, ?_, ?_⟩
 ·rw [h, tr_of hP]
 ·rw [h]; exact hs
set_option maxRecDepth 100000 in
set_option maxHeartbeats 1000000 in
theorem piOverS_any (l : List Tm) (t : Tm) (w : World) (v tv : Value) (hl : SlIn w 0 l v) (ht : TmIn w 0 t tv) : Calls Try.prog 12 #[v, tv] w (TlRes w (OverOk 3 l t) (over 3 l t)) := by
 obtain ⟨s, rfl, hs⟩ := ht
 obtain ⟨ta, tc, rfl⟩ := hs.form
 obtain ⟨a, cap, rfl⟩ := hl.form
 have hb2 := below2 w (.cells #[.int .i64 t.kind, .int .i64 t.num, .slice ta t.kids.length tc] 29) (.cells #[.int .i64 0, .int .i64 0, .slice none 0 0] 29)
 have HV0 := tuck ((VarAt.new w t.kind t.num (.slice ta t.kids.length tc)).below (below1 _ (.cells #[.int .i64 0, .int .i64 0, .slice none 0 0] 29)))
 have HV1 := tuck (var_new1 w (.cells #[.int .i64 t.kind, .int .i64 t.num, .slice ta t.kids.length tc] 29) 0 0 (.slice none 0 0))
 have hz2 : w.heap.size + 2 ≤ ((w.alloc (.cells #[.int .i64 t.kind, .int .i64 t.num, .slice ta t.kids.length tc] 29)).alloc (.cells #[.int .i64 0, .int .i64 0, .slice none 0 0] 29)).heap.size := by simp
 have HL := tuck hl
 have HS := tuck hs
 have HB2 := tuck hb2
 have HZ2 := tuck hz2
 have HNO : Hid (¬ OverOk 3 l t → ∀ w', Below w.heap.size w w' → TlRes w (OverOk 3 l t) (over 3 l t) (.returned (.tuple #[.agg #[.int .i64 0, .int .i64 0, .slice none 0 0], .bool false])) w') := tuck fun h w' hb => TlRes.no h hb
 have HYES : Hid (OverOk 3 l t → ∀ w' a c, Below w.heap.size w w' → SlIn w' w.heap.size (over 3 l t).kids (.slice a (over 3 l t).kids.length c) → TlRes w (OverOk 3 l t) (over 3 l t) (.returned (.tuple #[.agg #[.int .i64 (over 3 l t).kind, .int .i64 (over 3 l t).num, .slice a (over 3 l t).kids.length c], .bool true])) w') := tuck fun h w' a c hb hs => TlRes.yes h hb hs
 generalize TlRes w (OverOk 3 l t) (over 3 l t) = post at *
 clear hb2 hz2 hl hs
 go_enter Try.func12, Try.ntmps12
 go_wp2_with fail
 generalize ((w.alloc (.cells #[.int .i64 t.kind, .int .i64 t.num, .slice ta t.kids.length tc] 29)).alloc (.cells #[.int .i64 0, .int .i64 0, .slice none 0 0] 29)) = W0 at *
 refine (fitsS_any l W0 _ (HL.out.below HB2.out)).mono ?_
 rintro e w1 ⟨rfl, hb1⟩
 have hvt := (HV0.out.below hb1)
 obtain ⟨z0, a0, a1, a2, -⟩ := hvt.facts
 have HVT := tuck hvt
 have HVR := tuck (HV1.out.below hb1)
 have HZ := tuck (Nat.le_trans HZ2.out hb1.size)
 have HB := tuck (bAfter HB2.out hb1)
 clear hb1 hvt HV0 HV1 HB2 HZ2
 by_cases hf : Fits l
 rotate_left
 ·rw [tr_not hf]
  have HN := tuck (HNO.out fun h => hf (OverOk.iff.1 h).1.1)
  obtain ⟨z1, r0, r1, r2, rf⟩ := HVR.out.facts
  go_wp2_with fail
  refine bodyPost_ret (v := .tuple #[.agg #[.int .i64 0, .int .i64 0, .slice none 0 0], .bool false]) (by simp [results, Try.results12, go_sem, *]) rfl (HN.out _ ?_)
  first | exact bSet3 HB.out (Nat.le_succ _) _ _ _ _ _ _ | exact HB.out
 rw [tr_of hf]
 go_wp2_with fail
 refine (validS_any t w1 _ ⟨_, rfl, HS.out.below HB.out⟩).mono ?_
 rintro e w2 ⟨rfl, hb2⟩
 have hvt := (HVT.out.below hb2)
 replace HVT := tuck hvt
 replace HVR := tuck (HVR.out.below hb2)
 replace HZ := tuck (Nat.le_trans HZ.out hb2.size)
 replace HB := tuck (bAfter HB.out hb2)
 clear hb2 z0 a0 a1 a2
 obtain ⟨z0, a0, a1, a2, -⟩ := hvt.facts
 clear hvt
 by_cases hv : t.Valid
 rotate_left
 ·rw [tr_not hv]
  have HN := tuck (HNO.out fun h => hv (OverOk.iff.1 h).1.2)
  obtain ⟨z1, r0, r1, r2, rf⟩ := HVR.out.facts
  go_wp2_with fail
  refine bodyPost_ret (v := .tuple #[.agg #[.int .i64 0, .int .i64 0, .slice none 0 0], .bool false]) (by simp [results, Try.results12, go_sem, *]) rfl (HN.out _ ?_)
  first | exact bSet3 HB.out (Nat.le_succ _) _ _ _ _ _ _ | exact HB.out
 rw [tr_of hv]
 go_wp2_with fail
 refine (overS_any 3 l t hf.1 hf.2 hv w2 _ _ (HL.out.below HB.out) (HS.out.below HB.out)).mono ?_
 rintro e w3 ⟨hb3, ra, rc, rfl, hs3⟩
 replace HVR := tuck (HVR.out.below hb3)
 replace HB := tuck (bAfter HB.out hb3)
 have HS3 := tuck hs3
 clear hb3 hs3 z0 a0 a1 a2 HVT
 have HOI : Hid ((over 3 l t).Valid ↔ OverOk 3 l t) := tuck ⟨fun h => ⟨hf.2, h⟩, fun h => h.2⟩
 generalize OverOk 3 l t = P at *
 generalize over 3 l t = T at *
 go_wp2_with fail
 refine (madeS_any T w3 _ (HS3.out.mono (Nat.zero_le _))).mono ?_
 rintro e w4 ⟨hb4, h4⟩
 replace HVR := tuck (HVR.out.below hb4)
 replace HB := tuck (bAfter HB.out hb4)
 replace HS3 := tuck (HS3.out.below hb4)
 clear hb4
 obtain ⟨z1, r0, r1, r2, rf⟩ := HVR.out.facts
 rcases h4 with ⟨h4, rfl⟩ | ⟨h4, rfl⟩
 ·have HY := tuck (HYES.out (HOI.out.1 h4))
  go_wp2_with fail
  refine bodyPost_ret (v := .tuple #[.agg #[.int .i64 T.kind, .int .i64 T.num, .slice ra T.kids.length rc], .bool true]) (by simp [results, Try.results12, go_sem, *]) rfl (HY.out _ _ _ ?_ ?_)
  ·exact bSet3 HB.out (Nat.le_succ _) _ _ _ _ _ _
  ·have h := HZ.out
   exact (((HS3.out.setCell (p := ⟨w.heap.size + 1, 0, none⟩) (show w.heap.size + 1 < w2.heap.size by omega) _).setCell (p := ⟨w.heap.size + 1, 1, none⟩) (show w.heap.size + 1 < w2.heap.size by omega) _).setCell (p := ⟨w.heap.size + 1, 2, none⟩) (show w.heap.size + 1 < w2.heap.size by omega) _).mono (by omega)
 ·have HN := tuck (HNO.out fun h => h4 (HOI.out.2 h))
  go_wp2_with fail
  refine bodyPost_ret (v := .tuple #[.agg #[.int .i64 0, .int .i64 0, .slice none 0 0], .bool false]) (by simp [results, Try.results12, go_sem, *]) rfl (HN.out _ ?_)
  first | exact bSet3 HB.out (Nat.le_succ _) _ _ _ _ _ _ | exact HB.out
set_option maxRecDepth 100000 in
set_option maxHeartbeats 1000000 in
theorem lamOverS_any (l : List Tm) (t : Tm) (w : World) (v tv : Value) (hl : SlIn w 0 l v) (ht : TmIn w 0 t tv) : Calls Try.prog 21 #[v, tv] w (TlRes w (OverOk 4 l t) (over 4 l t)) := by
 obtain ⟨s, rfl, hs⟩ := ht
 obtain ⟨ta, tc, rfl⟩ := hs.form
 obtain ⟨a, cap, rfl⟩ := hl.form
 have hb2 := below2 w (.cells #[.int .i64 t.kind, .int .i64 t.num, .slice ta t.kids.length tc] 29) (.cells #[.int .i64 0, .int .i64 0, .slice none 0 0] 29)
 have HV0 := tuck ((VarAt.new w t.kind t.num (.slice ta t.kids.length tc)).below (below1 _ (.cells #[.int .i64 0, .int .i64 0, .slice none 0 0] 29)))
 have HV1 := tuck (var_new1 w (.cells #[.int .i64 t.kind, .int .i64 t.num, .slice ta t.kids.length tc] 29) 0 0 (.slice none 0 0))
 have hz2 : w.heap.size + 2 ≤ ((w.alloc (.cells #[.int .i64 t.kind, .int .i64 t.num, .slice ta t.kids.length tc] 29)).alloc (.cells #[.int .i64 0, .int .i64 0, .slice none 0 0] 29)).heap.size := by simp
 have HL := tuck hl
 have HS := tuck hs
 have HB2 := tuck hb2
 have HZ2 := tuck hz2
 have HNO : Hid (¬ OverOk 4 l t → ∀ w', Below w.heap.size w w' → TlRes w (OverOk 4 l t) (over 4 l t) (.returned (.tuple #[.agg #[.int .i64 0, .int .i64 0, .slice none 0 0], .bool false])) w') := tuck fun h w' hb => TlRes.no h hb
 have HYES : Hid (OverOk 4 l t → ∀ w' a c, Below w.heap.size w w' → SlIn w' w.heap.size (over 4 l t).kids (.slice a (over 4 l t).kids.length c) → TlRes w (OverOk 4 l t) (over 4 l t) (.returned (.tuple #[.agg #[.int .i64 (over 4 l t).kind, .int .i64 (over 4 l t).num, .slice a (over 4 l t).kids.length c], .bool true])) w') := tuck fun h w' a c hb hs => TlRes.yes h hb hs
 generalize TlRes w (OverOk 4 l t) (over 4 l t) = post at *
 clear hb2 hz2 hl hs
 go_enter Try.func21, Try.ntmps21
 go_wp2_with fail
 generalize ((w.alloc (.cells #[.int .i64 t.kind, .int .i64 t.num, .slice ta t.kids.length tc] 29)).alloc (.cells #[.int .i64 0, .int .i64 0, .slice none 0 0] 29)) = W0 at *
 refine (fitsS_any l W0 _ (HL.out.below HB2.out)).mono ?_
 rintro e w1 ⟨rfl, hb1⟩
 have hvt := (HV0.out.below hb1)
 obtain ⟨z0, a0, a1, a2, -⟩ := hvt.facts
 have HVT := tuck hvt
 have HVR := tuck (HV1.out.below hb1)
 have HZ := tuck (Nat.le_trans HZ2.out hb1.size)
 have HB := tuck (bAfter HB2.out hb1)
 clear hb1 hvt HV0 HV1 HB2 HZ2
 by_cases hf : Fits l
 rotate_left
 ·rw [tr_not hf]
  have HN := tuck (HNO.out fun h => hf (OverOk.iff.1 h).1.1)
  obtain ⟨z1, r0, r1, r2, rf⟩ := HVR.out.facts
  go_wp2_with fail
  refine bodyPost_ret (v := .tuple #[.agg #[.int .i64 0, .int .i64 0, .slice none 0 0], .bool false]) (by simp [results, Try.results21, go_sem, *]) rfl (HN.out _ ?_)
  first | exact bSet3 HB.out (Nat.le_succ _) _ _ _ _ _ _ | exact HB.out
 rw [tr_of hf]
 go_wp2_with fail
 refine (validS_any t w1 _ ⟨_, rfl, HS.out.below HB.out⟩).mono ?_
 rintro e w2 ⟨rfl, hb2⟩
 have hvt := (HVT.out.below hb2)
 replace HVT := tuck hvt
 replace HVR := tuck (HVR.out.below hb2)
 replace HZ := tuck (Nat.le_trans HZ.out hb2.size)
 replace HB := tuck (bAfter HB.out hb2)
 clear hb2 z0 a0 a1 a2
 obtain ⟨z0, a0, a1, a2, -⟩ := hvt.facts
 clear hvt
 by_cases hv : t.Valid
 rotate_left
 ·rw [tr_not hv]
  have HN := tuck (HNO.out fun h => hv (OverOk.iff.1 h).1.2)
  obtain ⟨z1, r0, r1, r2, rf⟩ := HVR.out.facts
  go_wp2_with fail
  refine bodyPost_ret (v := .tuple #[.agg #[.int .i64 0, .int .i64 0, .slice none 0 0], .bool false]) (by simp [results, Try.results21, go_sem, *]) rfl (HN.out _ ?_)
  first | exact bSet3 HB.out (Nat.le_succ _) _ _ _ _ _ _ | exact HB.out
 rw [tr_of hv]
 go_wp2_with fail
 refine (overS_any 4 l t hf.1 hf.2 hv w2 _ _ (HL.out.below HB.out) (HS.out.below HB.out)).mono ?_
 rintro e w3 ⟨hb3, ra, rc, rfl, hs3⟩
 replace HVR := tuck (HVR.out.below hb3)
 replace HB := tuck (bAfter HB.out hb3)
 have HS3 := tuck hs3
 clear hb3 hs3 z0 a0 a1 a2 HVT
 have HOI : Hid ((over 4 l t).Valid ↔ OverOk 4 l t) := tuck ⟨fun h => ⟨hf.2, h⟩, fun h => h.2⟩
 generalize OverOk 4 l t = P at *
 generalize over 4 l t = T at *
 go_wp2_with fail
 refine (madeS_any T w3 _ (HS3.out.mono (Nat.zero_le _))).mono ?_
 rintro e w4 ⟨hb4, h4⟩
 replace HVR := tuck (HVR.out.below hb4)
 replace HB := tuck (bAfter HB.out hb4)
 replace HS3 := tuck (HS3.out.below hb4)
 clear hb4
 obtain ⟨z1, r0, r1, r2, rf⟩ := HVR.out.facts
 rcases h4 with ⟨h4, rfl⟩ | ⟨h4, rfl⟩
 ·have HY := tuck (HYES.out (HOI.out.1 h4))
  go_wp2_with fail
  refine bodyPost_ret (v := .tuple #[.agg #[.int .i64 T.kind, .int .i64 T.num, .slice ra T.kids.length rc], .bool true]) (by simp [results, Try.results21, go_sem, *]) rfl (HY.out _ _ _ ?_ ?_)
  ·exact bSet3 HB.out (Nat.le_succ _) _ _ _ _ _ _
  ·have h := HZ.out
   exact (((HS3.out.setCell (p := ⟨w.heap.size + 1, 0, none⟩) (show w.heap.size + 1 < w2.heap.size by omega) _).setCell (p := ⟨w.heap.size + 1, 1, none⟩) (show w.heap.size + 1 < w2.heap.size by omega) _).setCell (p := ⟨w.heap.size + 1, 2, none⟩) (show w.heap.size + 1 < w2.heap.size by omega) _).mono (by omega)
 ·have HN := tuck (HNO.out fun h => h4 (HOI.out.2 h))
  go_wp2_with fail
  refine bodyPost_ret (v := .tuple #[.agg #[.int .i64 0, .int .i64 0, .slice none 0 0], .bool false]) (by simp [results, Try.results21, go_sem, *]) rfl (HN.out _ ?_)
  first | exact bSet3 HB.out (Nat.le_succ _) _ _ _ _ _ _ | exact HB.out
end Go.Proofs.Ytakdfpoigjgcnaa
