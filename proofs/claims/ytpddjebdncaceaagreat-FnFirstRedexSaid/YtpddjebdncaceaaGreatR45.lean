/-
  ParseF.
-/
import Derived.Test.YtpddjebdncaceaaGreatR42
import Derived.Test.YtpddjebdncaceaaGreatR44
namespace Go.Proofs.YtpddjebdncaceaaGreat
open Go.RowKit
theorem ba_inj {a b : ByteArray} (h : a.toList = b.toList) : a = b := by
 rw [ByteArray.toList_eq, ByteArray.toList_eq] at h
 exact ByteArray.ext (Array.toList_inj.1 h)
theorem ba_ne {s : ByteArray} (h : s.size ≠ 0) : ¬ s.toList = [] := fun e => h (by
 rw [ByteArray.toList_eq] at e
 have h2 := congrArg List.length e
 rw [Array.length_toList] at h2
 exact h2)
theorem ba_ne' {s : ByteArray} (h : s.size ≠ 0) : s.toList.isEmpty = false := by
 cases hs : s.toList with
 | nil => exact absurd hs (ba_ne h)
 | cons x l => rfl
noncomputable def fmtOf (T : Tm) : ByteArray := @ite _ T.Valid (Classical.propDecidable _) T.txt (ByteArray.mk #[])
theorem fmtOf_yes {T : Tm} (h : T.Valid) : fmtOf T = T.txt := if_pos h
theorem fmtOf_no {T : Tm} (h : ¬ T.Valid) : fmtOf T = ByteArray.mk #[] := if_neg h
set_option maxRecDepth 100000 in
set_option maxHeartbeats 1600000 in
theorem format_any (T : Tm) (w : World) (v : Value) (h : TmIn w 0 T v) : Calls Tryz.prog 130 #[v] w (StrPost w (fmtOf T)) := by
 obtain ⟨s, rfl, hin⟩ := h
 obtain ⟨ta, tc, rfl⟩ := hin.form
 have HP : Hid (∀ s w', s = fmtOf T → Below w.heap.size w w' → StrPost w (fmtOf T) (.returned (.string s)) w') := tuck fun s w' h hb => by rw [h]; exact ⟨rfl, hb⟩
 generalize StrPost w (fmtOf T) = post at *
 have HB := tuck (below1 w (.cells #[.int .i64 T.kind, .int .i64 T.num, .slice ta T.kids.length tc] 34))
 have HV := tuck (VarAt.new w T.kind T.num (.slice ta T.kids.length tc))
 have HVAL : Hid (∀ W : World, Below w.heap.size w W → Calls Tryz.prog 32 #[.agg #[.int .i64 T.kind, .int .i64 T.num, .slice ta T.kids.length tc]] W (BoolPost W (tr T.Valid))) := tuck fun W h => validS_any T W _ ⟨_, rfl, hin.below h⟩
 by_cases hT : T.Valid
 ·have HTX : Hid (∀ W : World, Below w.heap.size w W → Calls Tryz.prog 143 #[.agg #[.int .i64 T.kind, .int .i64 T.num, .slice ta T.kids.length tc]] W (StrPost W T.txt)) := tuck fun W h => by
   have h1 := text_any T.kids T.kind T.num W _ (by rw [Tm.eta]; exact hT.1) (by have := hT.2.2; have := T.size_eq; omega) (hin.below h)
   rwa [Tm.eta] at h1
  rw [tr_of hT] at HVAL
  have HPE := tuck (fun w' h => HP.out T.txt w' (fmtOf_yes hT).symm h)
  generalize T.txt = X at *
  clear hT hin HP
  go_enter Tryz.func130, Tryz.ntmps130
  go_wp2_with fail
  generalize w.alloc (.cells #[.int .i64 T.kind, .int .i64 T.num, .slice ta T.kids.length tc] 34) = W1 at *
  refine (HVAL.out _ HB.out).mono ?_
  rintro e w2 ⟨rfl, hb2⟩
  have HB2 := tuck (bAfter HB.out hb2)
  obtain ⟨z0, c0, c1, c2, -⟩ := (HV.out.below hb2).facts
  clear hb2
  go_wp2_with fail
  refine (HTX.out _ HB2.out).mono ?_
  rintro e w3 ⟨rfl, hb3⟩
  have HB3 := tuck (bAfter HB2.out hb3)
  clear hb3
  go_wp2_with fail
  exact HPE.out _ HB3.out
 ·rw [tr_not hT] at HVAL
  have HPE := tuck (fun w' h => HP.out _ w' (fmtOf_no hT).symm h)
  clear hT hin HP
  go_enter Tryz.func130, Tryz.ntmps130
  go_wp2_with fail
  generalize w.alloc (.cells #[.int .i64 T.kind, .int .i64 T.num, .slice ta T.kids.length tc] 34) = W1 at *
  refine (HVAL.out _ HB.out).mono ?_
  rintro e w2 ⟨rfl, hb2⟩
  have HB2 := tuck (bAfter HB.out hb2)
  clear hb2
  go_wp2_with fail
  exact HPE.out _ HB2.out
noncomputable def parsed (s : ByteArray) : Option Tm := match pt s 30 0 with
 | none => none
 | some x => @ite _ (s.size ≠ 0 ∧ x.2 = s.size ∧ fmtOf x.1 = s) (Classical.propDecidable _) (some x.1) none
theorem parsed_valid {s : ByteArray} {T : Tm} (h : parsed s = some T) : T.Valid ∧ T.txt = s := by
 unfold parsed at h
 cases hp : pt s 30 0 with
 | none => rw [hp] at h; cases h
 | some x =>
  rw [hp] at h
  dsimp only at h
  split at h
  ·rename_i hc
   simp only [Option.some.injEq] at h
   subst h
   by_cases hv : x.1.Valid
   ·exact ⟨hv, by rw [← fmtOf_yes hv]; exact hc.2.2⟩
   ·exfalso
    have h3 := hc.2.2
    rw [fmtOf_no hv] at h3
    exact hc.1 (by rw [← h3]; rfl)
  ·cases h
def ParsePost (s : ByteArray) (w : World) (e : Ending) (w' : World) : Prop := Below w.heap.size w w' ∧ ∃ v, e = .returned (.tuple #[v, .bool (parsed s).isSome]) ∧ TmIn w' w.heap.size ((parsed s).getD zeroT) v
set_option maxRecDepth 100000 in
set_option maxHeartbeats 4000000 in
theorem parseT_any (s : ByteArray) (hs : s.size ≤ 1152921504606846976) (w : World) : Calls Tryz.prog 112 #[.string s] w (ParsePost s w) := by
 have HN : Hid (parsed s = none → ∀ w', Below w.heap.size w w' → ParsePost s w (.returned (.tuple #[.agg #[.int .i64 0, .int .i64 0, .slice none 0 0], .bool false])) w') := tuck fun h w' hb => by
  unfold ParsePost
  rw [h]
  exact ⟨hb, _, rfl, _, rfl, SlIn.nil _ _ _ _⟩
 have HY : Hid (∀ T, parsed s = some T → ∀ w' a c, Below w.heap.size w w' → SlIn w' w.heap.size T.kids (.slice a T.kids.length c) → ParsePost s w (.returned (.tuple #[.agg #[.int .i64 T.kind, .int .i64 T.num, .slice a T.kids.length c], .bool true])) w') := tuck fun T h w' a c hb h2 => by
  unfold ParsePost
  rw [h]
  exact ⟨hb, _, rfl, _, rfl, h2⟩
 generalize ParsePost s w = post at *
 have HPA : Hid (∀ W, Calls Tryz.prog 129 #[.string s, .int .i64 0, .int .i64 30] W (PPost s W (pt s 30 0))) := tuck fun W => parse_ok s hs 30 (by decide) 0 W
 have HPD : Hid (parsed s = match pt s 30 0 with
  | none => none
  | some x => @ite _ (s.size ≠ 0 ∧ x.2 = s.size ∧ fmtOf x.1 = s) (Classical.propDecidable _) (some x.1) none) := tuck rfl
 have HF : Hid (∀ T (w : World) (v : Value), TmIn w 0 T v → Calls Tryz.prog 130 #[v] w (StrPost w (fmtOf T))) := tuck format_any
 have HB1 := tuck (below1 w (.cells #[.int .i64 0, .int .i64 0, .slice none 0 0] 34))
 have HV1 := tuck (VarAt.new w 0 0 (.slice none 0 0))
 go_enter Tryz.func112, Tryz.ntmps112
 go_wp2_with fail
 generalize w.alloc (.cells #[.int .i64 0, .int .i64 0, .slice none 0 0] 34) = W1 at *
 refine (HPA.out _).mono ?_
 rintro e w3 ⟨hb3, T, ta, tc, nx, rfl, hs3, hm⟩
 have hbx := below1 w3 (.cells #[.int .i64 T.kind, .int .i64 T.num, .slice ta T.kids.length tc] 34)
 have HV3 := tuck ((HV1.out.below hb3).below hbx)
 have HVT := tuck (VarAt.new w3 T.kind T.num (.slice ta T.kids.length tc))
 have HB3 := tuck (bAfter HB1.out (bAfter hb3 hbx))
 have HZ1 : Hid (w.heap.size + 1 ≤ W1.heap.size) := tuck HV1.out.facts.1
 have HS3 := tuck (hs3.below hbx)
 have HM := tuck hm
 obtain ⟨z1, r0, r1, r2, rf⟩ := HV3.out.facts
 obtain ⟨zt, t0, t1, t2, -⟩ := HVT.out.facts
 clear hb3 hs3 hbx hm HPA
 cases hp : pt s 30 0 with
 | none =>
  rw [hp] at HM
  obtain rfl : nx = -1 := HM.out
  have HNO := tuck (HN.out (by rw [HPD.out, hp]))
  have hk : ((-1 : Int) != (s.size : Int)) = true := by rw [bne_iff_ne]; omega
  clear HPD HN HY hp HM
  by_cases h0 : s.size = 0
  ·obtain rfl : s = ByteArray.mk #[] := ByteArray.size_eq_zero_iff.1 h0
   go_wp2_with fail
   refine bodyPost_ret (v := .tuple #[.agg #[.int .i64 0, .int .i64 0, .slice none 0 0], .bool false]) (by simp [results, Tryz.results112, go_sem, *]) rfl (HNO.out _ ?_)
   first | exact bSet3 HB3.out (Nat.le_refl _) _ _ _ _ _ _ | exact HB3.out
  ·have he1 := ba_ne h0
   have he2 := ba_ne' h0
   go_wp2_with fail
   refine bodyPost_ret (v := .tuple #[.agg #[.int .i64 0, .int .i64 0, .slice none 0 0], .bool false]) (by simp [results, Tryz.results112, go_sem, *]) rfl (HNO.out _ ?_)
   first | exact bSet3 HB3.out (Nat.le_refl _) _ _ _ _ _ _ | exact HB3.out
 | some x =>
  obtain ⟨X, n⟩ := x
  rw [hp] at HM
  obtain ⟨rfl, rfl, hle⟩ := HM.out
  by_cases hn : n = s.size
  ·have hk : ((n : Int) != (s.size : Int)) = false := by rw [bne_eq_false_iff_eq]; omega
   by_cases h0 : s.size = 0
   ·have he : s = ByteArray.mk #[] := ByteArray.size_eq_zero_iff.1 h0
    have HNO := tuck (HN.out (by rw [HPD.out, hp]; exact if_neg (fun h => h.1 h0)))
    subst he
    clear HPD HN HY hp HM
    go_wp2_with fail
    refine bodyPost_ret (v := .tuple #[.agg #[.int .i64 0, .int .i64 0, .slice none 0 0], .bool false]) (by simp [results, Tryz.results112, go_sem, *]) rfl (HNO.out _ ?_)
    first | exact bSet3 HB3.out (Nat.le_refl _) _ _ _ _ _ _ | exact HB3.out
   ·have he : s ≠ ByteArray.mk #[] := fun h => h0 (by rw [h]; rfl)
    have he1 := ba_ne h0
    have he2 := ba_ne' h0
    clear he
    have HFT : Hid (∀ W : World, Below (w3.alloc (.cells #[.int .i64 T.kind, .int .i64 T.num, .slice ta T.kids.length tc] 34)).heap.size (w3.alloc (.cells #[.int .i64 T.kind, .int .i64 T.num, .slice ta T.kids.length tc] 34)) W → Calls Tryz.prog 130 #[.agg #[.int .i64 T.kind, .int .i64 T.num, .slice ta T.kids.length tc]] W (StrPost W (fmtOf T))) := tuck fun W h => HF.out T W _ ⟨_, rfl, (HS3.out.mono (Nat.zero_le _)).below h⟩
    by_cases hf : fmtOf T = s
    ·have HYE := tuck (HY.out T (by rw [HPD.out, hp]; exact if_pos ⟨h0, hn, hf⟩))
     rw [hf] at HFT
     clear HPD HN HY hp HM HF hf
     go_wp2_with fail
     refine (HFT.out _ (Below.refl _ _)).mono ?_
     rintro e w5 ⟨rfl, hb5⟩
     have HB5 := tuck (bAfter HB3.out hb5)
     have HS5 := tuck (HS3.out.below hb5)
     clear z1 r0 r1 r2 rf zt t0 t1 t2
     obtain ⟨z1, r0, r1, r2, rf⟩ := (HV3.out.below hb5).facts
     obtain ⟨zt, t0, t1, t2, -⟩ := (HVT.out.below hb5).facts
     clear hb5
     go_wp2_with fail
     refine bodyPost_ret (v := .tuple #[.agg #[.int .i64 T.kind, .int .i64 T.num, .slice ta T.kids.length tc], .bool true]) (by simp [results, Tryz.results112, go_sem, *]) rfl (HYE.out _ _ _ ?_ ?_)
     ·exact bSet3 HB5.out (Nat.le_refl _) _ _ _ _ _ _
     ·exact (SlIn.set3 (HS5.out.mono HZ1.out) (Nat.lt_succ_self _)).mono (Nat.le_succ _)
    ·have HNO := tuck (HN.out (by rw [HPD.out, hp]; exact if_neg (fun h => hf h.2.2)))
     generalize fmtOf T = Y at *
     have hf1 : (Y.toList == s.toList) = false := by rw [beq_eq_false_iff_ne]; exact fun h => hf (ba_inj h)
     have hf2 : ¬ (Y.toList = s.toList) := fun h => hf (ba_inj h)
     clear HPD HN HY hp HM HF
     go_wp2_with fail
     refine (HFT.out _ (Below.refl _ _)).mono ?_
     rintro e w5 ⟨rfl, hb5⟩
     have HB5 := tuck (bAfter HB3.out hb5)
     clear z1 r0 r1 r2 rf zt t0 t1 t2
     obtain ⟨z1, r0, r1, r2, rf⟩ := (HV3.out.below hb5).facts
     clear hb5
     go_wp2_with fail
     refine bodyPost_ret (v := .tuple #[.agg #[.int .i64 0, .int .i64 0, .slice none 0 0], .bool false]) (by simp [results, Tryz.results112, go_sem, *]) rfl (HNO.out _ ?_)
     first | exact bSet3 HB5.out (Nat.le_refl _) _ _ _ _ _ _ | exact HB5.out
  ·have hk : ((n : Int) != (s.size : Int)) = true := by rw [bne_iff_ne]; omega
   have HNO := tuck (HN.out (by rw [HPD.out, hp]; exact if_neg (fun h => hn h.2.1)))
   clear HPD HN HY hp HM
   have h0 : s.size ≠ 0 := by omega
   have he1 := ba_ne h0
   have he2 := ba_ne' h0
   go_wp2_with fail
   refine bodyPost_ret (v := .tuple #[.agg #[.int .i64 0, .int .i64 0, .slice none 0 0], .bool false]) (by simp [results, Tryz.results112, go_sem, *]) rfl (HNO.out _ ?_)
   first | exact bSet3 HB3.out (Nat.le_refl _) _ _ _ _ _ _ | exact HB3.out
end Go.Proofs.YtpddjebdncaceaaGreat
