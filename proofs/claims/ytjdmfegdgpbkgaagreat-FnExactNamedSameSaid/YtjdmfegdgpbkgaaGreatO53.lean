/-
  NsI.
-/
import Derived.Test.YtjdmfegdgpbkgaaGreatO09
import Derived.Test.YtjdmfegdgpbkgaaGreatO26
import Derived.Test.YtjdmfegdgpbkgaaGreatO52
namespace Go.Proofs.YtjdmfegdgpbkgaaGreat
open Go.RowKit
set_option linter.unusedVariables false
set_option maxRecDepth 100000 in
set_option maxHeartbeats 2000000 in
theorem nsI_core (a b names : ByteArray) (T U : Tm) (c1 c2 r : Bool) (HA : Hid (∀ W : World, Calls Tryz.prog 28 #[.string a, .string names] W fun e w' => Below W.heap.size W w' ∧ ∃ v, e = .returned (.tuple #[v, .bool c1]) ∧ TmIn w' 0 T v)) (HC : Hid (∀ W : World, Calls Tryz.prog 28 #[.string b, .string names] W fun e w' => Below W.heap.size W w' ∧ ∃ v, e = .returned (.tuple #[v, .bool c2]) ∧ TmIn w' 0 U v)) (HTS : c1 = true → Hid (∀ (W : World) (v1 v2 : Value), TmIn W 0 T v1 → TmIn W 0 U v2 → Calls Tryz.prog 9 #[v1, v2] W (BoolPost W r))) (w : World) : Calls Tryz.prog 12 #[.string a, .string b, .string names] w (BoolPost w (c1 && (c2 && r))) := by
 have HPO : Hid (∀ v w', v = (c1 && (c2 && r)) → Below w.heap.size w w' → BoolPost w (c1 && (c2 && r)) (.returned (.bool v)) w') := tuck fun v w' h hb => by rw [h]; exact ⟨rfl, hb⟩
 generalize BoolPost w (c1 && (c2 && r)) = post at *
 cases c1 with
 | false =>
  clear HTS
  go_enter Tryz.func12, Tryz.ntmps12
  go_wp2_with fail
  refine (HA.out _).mono ?_
  rintro e w1 ⟨hb1, v, rfl, ⟨s0, rfl, hin⟩⟩
  obtain ⟨ta, tc, rfl⟩ := hin.form
  have hbx := below1 w1 (.cells #[.int .i64 T.kind, .int .i64 T.num, .slice ta T.kids.length tc] 25)
  have HVT := tuck (VarAt.new w1 T.kind T.num (.slice ta T.kids.length tc))
  have HB1 := tuck (bAfter hb1 hbx)
  have HIN := tuck (hin.below hbx)
  obtain ⟨zt, t0, t1, t2, -⟩ := HVT.out.facts
  clear hb1 hbx hin
  go_wp2_with fail
  exact HPO.out _ _ (by simp) HB1.out
 | true =>
  replace HTS := HTS rfl
  cases c2 with
  | false =>
   clear HTS
   go_enter Tryz.func12, Tryz.ntmps12
   go_wp2_with fail
   refine (HA.out _).mono ?_
   rintro e w1 ⟨hb1, v, rfl, ⟨s0, rfl, hin⟩⟩
   obtain ⟨ta, tc, rfl⟩ := hin.form
   have hbx := below1 w1 (.cells #[.int .i64 T.kind, .int .i64 T.num, .slice ta T.kids.length tc] 25)
   have HVT := tuck (VarAt.new w1 T.kind T.num (.slice ta T.kids.length tc))
   have HB1 := tuck (bAfter hb1 hbx)
   have HIN := tuck (hin.below hbx)
   obtain ⟨zt, t0, t1, t2, -⟩ := HVT.out.facts
   clear hb1 hbx hin
   go_wp2_with fail
   refine (HC.out _).mono ?_
   rintro e w2 ⟨hb2, v, rfl, ⟨s1, rfl, hin⟩⟩
   obtain ⟨ua, uc, rfl⟩ := hin.form
   have hby := below1 w2 (.cells #[.int .i64 U.kind, .int .i64 U.num, .slice ua U.kids.length uc] 25)
   have HVU := tuck (VarAt.new w2 U.kind U.num (.slice ua U.kids.length uc))
   have HVT2 := tuck ((HVT.out.below hb2).below hby)
   have HB2 := tuck (bAfter HB1.out (bAfter hb2 hby))
   have HIN1 := tuck ((HIN.out.below hb2).below hby)
   have HIN2 := tuck (hin.below hby)
   clear zt t0 t1 t2
   obtain ⟨zt, t0, t1, t2, -⟩ := HVT2.out.facts
   obtain ⟨zu, u0, u1, u2, -⟩ := HVU.out.facts
   clear hb2 hby hin
   go_wp2_with fail
   exact HPO.out _ _ (by simp) HB2.out
  | true =>
   go_enter Tryz.func12, Tryz.ntmps12
   go_wp2_with fail
   refine (HA.out _).mono ?_
   rintro e w1 ⟨hb1, v, rfl, ⟨s0, rfl, hin⟩⟩
   obtain ⟨ta, tc, rfl⟩ := hin.form
   have hbx := below1 w1 (.cells #[.int .i64 T.kind, .int .i64 T.num, .slice ta T.kids.length tc] 25)
   have HVT := tuck (VarAt.new w1 T.kind T.num (.slice ta T.kids.length tc))
   have HB1 := tuck (bAfter hb1 hbx)
   have HIN := tuck (hin.below hbx)
   obtain ⟨zt, t0, t1, t2, -⟩ := HVT.out.facts
   clear hb1 hbx hin
   go_wp2_with fail
   refine (HC.out _).mono ?_
   rintro e w2 ⟨hb2, v, rfl, ⟨s1, rfl, hin⟩⟩
   obtain ⟨ua, uc, rfl⟩ := hin.form
   have hby := below1 w2 (.cells #[.int .i64 U.kind, .int .i64 U.num, .slice ua U.kids.length uc] 25)
   have HVU := tuck (VarAt.new w2 U.kind U.num (.slice ua U.kids.length uc))
   have HVT2 := tuck ((HVT.out.below hb2).below hby)
   have HB2 := tuck (bAfter HB1.out (bAfter hb2 hby))
   have HIN1 := tuck ((HIN.out.below hb2).below hby)
   have HIN2 := tuck (hin.below hby)
   clear zt t0 t1 t2
   obtain ⟨zt, t0, t1, t2, -⟩ := HVT2.out.facts
   obtain ⟨zu, u0, u1, u2, -⟩ := HVU.out.facts
   clear hb2 hby hin
   go_wp2_with fail
   refine (HTS.out _ _ _ ⟨_, rfl, HIN1.out⟩ ⟨_, rfl, HIN2.out⟩).mono ?_
   rintro e w3 ⟨rfl, hb3⟩
   have HB3 := tuck (bAfter HB2.out hb3)
   clear hb3
   go_wp2_with fail
   exact HPO.out _ _ (by simp) HB3.out
set_option maxRecDepth 100000 in
set_option maxHeartbeats 2000000 in
theorem nsS_core (a b names : ByteArray) (T U : Tm) (c1 c2 r : Bool) (HA : Hid (∀ W : World, Calls Tryz.prog 26 #[.string a, .string names] W fun e w' => Below W.heap.size W w' ∧ ∃ v, e = .returned (.tuple #[v, .bool c1]) ∧ TmIn w' 0 T v)) (HC : Hid (∀ W : World, Calls Tryz.prog 26 #[.string b, .string names] W fun e w' => Below W.heap.size W w' ∧ ∃ v, e = .returned (.tuple #[v, .bool c2]) ∧ TmIn w' 0 U v)) (HTS : c1 = true → Hid (∀ (W : World) (v1 v2 : Value), TmIn W 0 T v1 → TmIn W 0 U v2 → Calls Tryz.prog 27 #[v1, v2] W (BoolPost W r))) (w : World) : Calls Tryz.prog 11 #[.string a, .string b, .string names] w (BoolPost w (c1 && (c2 && r))) := by
 have HPO : Hid (∀ v w', v = (c1 && (c2 && r)) → Below w.heap.size w w' → BoolPost w (c1 && (c2 && r)) (.returned (.bool v)) w') := tuck fun v w' h hb => by rw [h]; exact ⟨rfl, hb⟩
 generalize BoolPost w (c1 && (c2 && r)) = post at *
 cases c1 with
 | false =>
  clear HTS
  go_enter Tryz.func11, Tryz.ntmps11
  go_wp2_with fail
  refine (HA.out _).mono ?_
  rintro e w1 ⟨hb1, v, rfl, ⟨s0, rfl, hin⟩⟩
  obtain ⟨ta, tc, rfl⟩ := hin.form
  have hbx := below1 w1 (.cells #[.int .i64 T.kind, .int .i64 T.num, .slice ta T.kids.length tc] 25)
  have HVT := tuck (VarAt.new w1 T.kind T.num (.slice ta T.kids.length tc))
  have HB1 := tuck (bAfter hb1 hbx)
  have HIN := tuck (hin.below hbx)
  obtain ⟨zt, t0, t1, t2, -⟩ := HVT.out.facts
  clear hb1 hbx hin
  go_wp2_with fail
  refine (HC.out _).mono ?_
  rintro e w2 ⟨hb2, v, rfl, ⟨s1, rfl, hin⟩⟩
  obtain ⟨ua, uc, rfl⟩ := hin.form
  have hby := below1 w2 (.cells #[.int .i64 U.kind, .int .i64 U.num, .slice ua U.kids.length uc] 25)
  have HVU := tuck (VarAt.new w2 U.kind U.num (.slice ua U.kids.length uc))
  have HVT2 := tuck ((HVT.out.below hb2).below hby)
  have HB2 := tuck (bAfter HB1.out (bAfter hb2 hby))
  have HIN1 := tuck ((HIN.out.below hb2).below hby)
  have HIN2 := tuck (hin.below hby)
  clear zt t0 t1 t2
  obtain ⟨zt, t0, t1, t2, -⟩ := HVT2.out.facts
  obtain ⟨zu, u0, u1, u2, -⟩ := HVU.out.facts
  clear hb2 hby hin
  go_wp2_with fail
  exact HPO.out _ _ (by simp) HB2.out
 | true =>
  replace HTS := HTS rfl
  cases c2 with
  | false =>
   clear HTS
   go_enter Tryz.func11, Tryz.ntmps11
   go_wp2_with fail
   refine (HA.out _).mono ?_
   rintro e w1 ⟨hb1, v, rfl, ⟨s0, rfl, hin⟩⟩
   obtain ⟨ta, tc, rfl⟩ := hin.form
   have hbx := below1 w1 (.cells #[.int .i64 T.kind, .int .i64 T.num, .slice ta T.kids.length tc] 25)
   have HVT := tuck (VarAt.new w1 T.kind T.num (.slice ta T.kids.length tc))
   have HB1 := tuck (bAfter hb1 hbx)
   have HIN := tuck (hin.below hbx)
   obtain ⟨zt, t0, t1, t2, -⟩ := HVT.out.facts
   clear hb1 hbx hin
   go_wp2_with fail
   refine (HC.out _).mono ?_
   rintro e w2 ⟨hb2, v, rfl, ⟨s1, rfl, hin⟩⟩
   obtain ⟨ua, uc, rfl⟩ := hin.form
   have hby := below1 w2 (.cells #[.int .i64 U.kind, .int .i64 U.num, .slice ua U.kids.length uc] 25)
   have HVU := tuck (VarAt.new w2 U.kind U.num (.slice ua U.kids.length uc))
   have HVT2 := tuck ((HVT.out.below hb2).below hby)
   have HB2 := tuck (bAfter HB1.out (bAfter hb2 hby))
   have HIN1 := tuck ((HIN.out.below hb2).below hby)
   have HIN2 := tuck (hin.below hby)
   clear zt t0 t1 t2
   obtain ⟨zt, t0, t1, t2, -⟩ := HVT2.out.facts
   obtain ⟨zu, u0, u1, u2, -⟩ := HVU.out.facts
   clear hb2 hby hin
   go_wp2_with fail
   exact HPO.out _ _ (by simp) HB2.out
  | true =>
   go_enter Tryz.func11, Tryz.ntmps11
   go_wp2_with fail
   refine (HA.out _).mono ?_
   rintro e w1 ⟨hb1, v, rfl, ⟨s0, rfl, hin⟩⟩
   obtain ⟨ta, tc, rfl⟩ := hin.form
   have hbx := below1 w1 (.cells #[.int .i64 T.kind, .int .i64 T.num, .slice ta T.kids.length tc] 25)
   have HVT := tuck (VarAt.new w1 T.kind T.num (.slice ta T.kids.length tc))
   have HB1 := tuck (bAfter hb1 hbx)
   have HIN := tuck (hin.below hbx)
   obtain ⟨zt, t0, t1, t2, -⟩ := HVT.out.facts
   clear hb1 hbx hin
   go_wp2_with fail
   refine (HC.out _).mono ?_
   rintro e w2 ⟨hb2, v, rfl, ⟨s1, rfl, hin⟩⟩
   obtain ⟨ua, uc, rfl⟩ := hin.form
   have hby := below1 w2 (.cells #[.int .i64 U.kind, .int .i64 U.num, .slice ua U.kids.length uc] 25)
   have HVU := tuck (VarAt.new w2 U.kind U.num (.slice ua U.kids.length uc))
   have HVT2 := tuck ((HVT.out.below hb2).below hby)
   have HB2 := tuck (bAfter HB1.out (bAfter hb2 hby))
   have HIN1 := tuck ((HIN.out.below hb2).below hby)
   have HIN2 := tuck (hin.below hby)
   clear zt t0 t1 t2
   obtain ⟨zt, t0, t1, t2, -⟩ := HVT2.out.facts
   obtain ⟨zu, u0, u1, u2, -⟩ := HVU.out.facts
   clear hb2 hby hin
   go_wp2_with fail
   refine (HTS.out _ _ _ ⟨_, rfl, HIN1.out⟩ ⟨_, rfl, HIN2.out⟩).mono ?_
   rintro e w3 ⟨rfl, hb3⟩
   have HB3 := tuck (bAfter HB2.out hb3)
   clear hb3
   go_wp2_with fail
   exact HPO.out _ _ (by simp) HB3.out
end Go.Proofs.YtjdmfegdgpbkgaaGreat
