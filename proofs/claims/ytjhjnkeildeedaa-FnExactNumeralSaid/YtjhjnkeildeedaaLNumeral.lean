/-
  The law FnExactNumeral: for every number, Numeral answers as its model, in memory of its own.
-/
import Derived.Test.YtjhjnkeildeedaaOpen
import Derived.Test.YtjhjnkeildeedaaSNum
import Derived.Test.YtjhjnkeildeedaaLawT
namespace Go.Proofs.Ytjhjnkeildeedaa.fnExactNumeral
open Go.ChangeShapes Go.WideShapes Go.ChangeAt Go.RowKit Go.Deep
set_option linter.unusedVariables false

theorem readable_FnExactNumeral : ∀ t ∈ (#[3] : Array TypeId).toList, Try.prog.readableRec t = true ∧ t < Try.prog.types.size := by
  intro t ht
  simp at ht
  rcases ht with rfl
  exact ⟨by kernel_rfl, of_decide_eq_true (by kernel_rfl)⟩
theorem laid : laidOutB Try.prog = true := by kernel_rfl

set_option maxRecDepth 100000 in
/-- The walk. -/
theorem walk (a0 : Int) (w : World) : Calls Try.prog 8 #[.int .i64 a0] w fun e w' => e = .returned (.bool true) ∧ Below w.heap.size w w' := by
  let T : Tm := if 0 ≤ a0 ∧ a0 ≤ 20 then numT a0.toNat else .mk 0 0 []
  have hsz : (1 : Int) + 2 * (sizes T.kids : Int) ≤ 4611686018427387904 := by
    have h1 : T.size ≤ 21 := by
      show (if 0 ≤ a0 ∧ a0 ≤ 20 then numT a0.toNat else .mk 0 0 [] : Tm).size ≤ 21
      split
      · rw [numT_size]; omega
      · simp [Tm.size, sizes]
    have h2 := T.size_eq
    omega
  have HSP : Hid (∀ w : World, Calls Try.prog 24 #[.int .i64 a0] w fun e w' => Below w.heap.size w w' ∧ ∃ v, e = .returned (.tuple #[v, .bool (decide (0 ≤ a0 ∧ a0 ≤ 20))]) ∧ TmIn w' 0 T v) := fun w => (numS_any a0 w).mono fun _ _ h => h
  have HIM : Hid (∀ w : World, Calls Try.prog 25 #[.int .i64 a0] w fun e w' => Below w.heap.size w w' ∧ ∃ v, e = .returned (.tuple #[v, .bool (decide (0 ≤ a0 ∧ a0 ≤ 20))]) ∧ Made w.heap.size T v w') := fun w => (numI_any a0 w).mono fun _ _ h => h
  have HEQ : Hid (∀ (w : World) (v1 v2 : Value), TmIn w 0 T v1 → TmIn w 0 T v2 → Calls Try.prog 20 #[v1, v2] w (EqPost w true)) := fun w v1 v2 h1 h2 => by have := eqT_any T T w v1 v2 h1 h2; rwa [same_self] at this
  have hkm : ¬ ((1 : Int) + 2 * (sizes T.kids : Int)) < 0 := by omega
  have HSZ := tuck hsz
  clear hsz
  clear_value T
  generalize decide (0 ≤ a0 ∧ a0 ≤ 20) = cc at *
  go_enter Try.func8, Try.ntmps8
  go_wp2_with (go_at_call 24; refine (HSP.out _).mono ?_; rintro e w1 ⟨hb, v, rfl, ⟨s0, rfl, hin⟩⟩; obtain ⟨s0a, s0c, rfl⟩ := hin.form; have HB := tuck hb; have HIN := tuck (hin.below (below1 w1 (.cells #[.int .i64 T.kind, .int .i64 T.num, .slice s0a T.kids.length s0c] 32))); clear hb hin)
  have v3 := VarAt.new w1 T.kind T.num (.slice s0a T.kids.length s0c)
  have hb0 := bAfter HB.out (below1 w1 (.cells #[.int .i64 T.kind, .int .i64 T.num, .slice s0a T.kids.length s0c] 32))
  generalize w1.alloc (.cells #[.int .i64 T.kind, .int .i64 T.num, .slice s0a T.kids.length s0c] 32) = W at *
  generalize w1.heap.size = g3 at *
  have HB0 := tuck hb0
  have V3 := tuck v3
  clear HB hb0 v3
  refine (HIM.out _).mono ?_
  rintro e w2 ⟨hb, v, rfl, ⟨s, F, rfl, hown, hnd, hF⟩⟩
  obtain ⟨sa, sc, rfl⟩ := hown.form
  have HBW := tuck hb
  have HF := tuck hF
  have HND := tuck hnd
  have HOWN := tuck hown
  clear hb hF hnd hown
  obtain ⟨z3, a0, a1, a2, af⟩ := (V3.out.below HBW.out).facts
  go_wp2_with fail
  have v5 := VarAt.new w2 T.kind T.num (.slice sa T.kids.length sc)
  have ho5 := HOWN.out.alloc (fun g hg => (HF.out g hg).2) (.cells #[.int .i64 T.kind, .int .i64 T.num, .slice sa T.kids.length sc] 32)
  have hbw5 := bAfter HBW.out (below1 w2 (.cells #[.int .i64 T.kind, .int .i64 T.num, .slice sa T.kids.length sc] 32))
  have hF5 : ∀ g ∈ F, W.heap.size ≤ g ∧ g < w2.heap.size := HF.out
  have hz5 : w2.heap.size < (w2.alloc (.cells #[.int .i64 T.kind, .int .i64 T.num, .slice sa T.kids.length sc] 32)).heap.size := by simp
  generalize w2.alloc (.cells #[.int .i64 T.kind, .int .i64 T.num, .slice sa T.kids.length sc] 32) = W2 at *
  generalize w2.heap.size = g5 at *
  replace HOWN := tuck ho5
  replace HBW := tuck hbw5
  have V5 := tuck v5
  replace HF := tuck hF5
  have HZ5 := tuck hz5
  clear ho5 hbw5 v5 hF5 hz5 z3 a0 a1 a2 af
  refine (HEQ.out _ _ _ ⟨_, rfl, HOWN.out.sl (fun _ _ => Nat.zero_le _)⟩ ⟨_, rfl, HIN.out.below HBW.out⟩).mono ?_
  rintro e w3 ⟨rfl, hb⟩
  have hl5 : ∀ g ∈ F, g < W2.heap.size := fun g hg => Nat.lt_trans (HF.out g hg).2 HZ5.out
  replace HOWN := tuck (HOWN.out.below hl5 hb)
  replace HBW := tuck (bAfter HBW.out hb)
  replace V5 := tuck (V5.out.below hb)
  clear hb hl5
  obtain ⟨z5, b0, b1, b2, bf⟩ := V5.out.facts
  have hrr : (cc != cc) = false := by simp
  go_wp2_with fail
  have hl6 : ∀ g ∈ F, g < w3.heap.size := fun g hg => Nat.lt_trans (HF.out g hg).2 z5
  refine (markT_any T F 1 w3 _ (by omega) HSZ.out HND.out hl6 HOWN.out).mono ?_
  rintro e w4 ⟨rfl, hown, hbut⟩
  have V5' : VarAt g5 T.kind T.num (.slice sa T.kids.length sc) w4 := (hbut.block g5 z5 (fun h => Nat.lt_irrefl _ (HF.out _ h).2)).trans V5.out
  replace V5 := tuck V5'
  replace HBW := tuck (hbut.below HBW.out HBW.out.size (fun g hg => (HF.out g hg).1))
  replace HOWN := tuck hown
  clear V5' hown hbut hl6 z5 b0 b1 b2 bf
  obtain ⟨z5, b0, b1, b2, bf⟩ := V5.out.facts
  go_wp2_with fail
  refine (heldT_any T T.kids 0 1 w4 _ (by omega) HSZ.out (HOWN.out.sl (fun _ _ => Nat.zero_le _))).mono ?_
  rintro e w5 ⟨rfl, hb⟩
  have hl6 : ∀ g ∈ F, g < w4.heap.size := fun g hg => Nat.lt_trans (HF.out g hg).2 z5
  replace HOWN := tuck (HOWN.out.below hl6 hb)
  replace HBW := tuck (bAfter HBW.out hb)
  replace V5 := tuck (V5.out.below hb)
  clear hb hl6 z5 b0 b1 b2 bf
  obtain ⟨z5, b0, b1, b2, bf⟩ := V5.out.facts
  go_wp2_with fail
  refine (HIM.out _).mono ?_
  rintro e w6 ⟨hb, v, rfl, ⟨s9, F9, rfl, hown9, _, _⟩⟩
  obtain ⟨s9a, s9c, rfl⟩ := hown9.form
  have hl6 : ∀ g ∈ F, g < w5.heap.size := fun g hg => Nat.lt_trans (HF.out g hg).2 z5
  replace HOWN := tuck (HOWN.out.below hl6 hb)
  replace HBW := tuck (bAfter HBW.out hb)
  replace V5 := tuck (V5.out.below hb)
  have H9 := tuck (hown9.sl (B := 0) (fun _ _ => Nat.zero_le _))
  clear hb hl6 z5 b0 b1 b2 bf hown9
  obtain ⟨z5, b0, b1, b2, bf⟩ := V5.out.facts
  obtain ⟨z3, a0, a1, a2, af⟩ := (V3.out.below HBW.out).facts
  go_wp2_with fail
  have hl6 : ∀ g ∈ F, g < w6.heap.size := fun g hg => Nat.lt_trans (HF.out g hg).2 z5
  have hb9 := below1 w6 (.cells #[.int .i64 T.kind, .int .i64 T.num, .slice s9a T.kids.length s9c] 32)
  generalize w6.alloc (.cells #[.int .i64 T.kind, .int .i64 T.num, .slice s9a T.kids.length s9c] 32) = W9 at *
  replace HOWN := tuck (HOWN.out.below hl6 hb9)
  replace HBW := tuck (bAfter HBW.out hb9)
  replace V5 := tuck (V5.out.below hb9)
  replace H9 := tuck (H9.out.below hb9)
  clear hb9 hl6 z5 b0 b1 b2 bf z3 a0 a1 a2 af
  refine (HEQ.out _ _ _ ⟨_, rfl, H9.out⟩ ⟨_, rfl, HIN.out.below HBW.out⟩).mono ?_
  rintro e w7 ⟨rfl, hb⟩
  obtain ⟨z5, _⟩ := V5.out.facts
  have hl6 : ∀ g ∈ F, g < W9.heap.size := fun g hg => Nat.lt_trans (HF.out g hg).2 z5
  replace HOWN := tuck (HOWN.out.below hl6 hb)
  replace HBW := tuck (bAfter HBW.out hb)
  replace V5 := tuck (V5.out.below hb)
  clear hb hl6 z5
  obtain ⟨z5, b0, b1, b2, bf⟩ := V5.out.facts
  go_wp2_with fail
  refine (heldT_any T T.kids 0 1 w7 _ (by omega) HSZ.out (HOWN.out.sl (fun _ _ => Nat.zero_le _))).mono ?_
  rintro e w8 ⟨rfl, hb⟩
  replace HBW := tuck (bAfter HBW.out hb)
  clear hb
  go_wp2_with fail
  go_ret
  exact ⟨rfl, bAfter HB0.out HBW.out⟩

set_option maxRecDepth 100000 in
theorem lifted (os : Os) (started : os.Started) (H : Type) (enc : TypeId × Value → H) :
    ReturnsInHanded {} Try.checked os 8 .any (Rows.fnExactNumeralSpec.pre6 enc Try.prog Try.f8 Rows.fnExactNumeralRow.domain false) (Rows.fnExactNumeralSpec.post enc Try.prog Try.f8 false true false false) := by
  refine returnsInHanded_of_change (C := Try.checked) own started (by kernel_rfl) Try.func8
    (ChangeSpec.witness6 (enc := enc) (C := Try.checked) false ⟨#[], #[.int .i64 0], []⟩ 8 (by kernel_rfl) (by kernel_rfl) (by kernel_rfl) (by kernel_rfl)) ?_
  intro W base args ds gs before hval0 hW hcnd _
  have hval : ∀ (j : Nat) t v, Try.f8.params[j]? = some t → args[j]? = some v → Value.okWide Try.prog W .any base t v := hval0
  have hW' := hW
  obtain ⟨p, q, hA0, hV, rfl, hfz, hnd⟩ := hW
  have hA : DataW.TrodAll enc Try.prog W 0 (fun _ => true) true Try.f8.params.toList args.toList ds p := hA0
  rw [Try.params8] at hA hval
  obtain ⟨v0, vs0, d0, ds0, p0, q0, hargs, rfl, rfl, h0, r0⟩ := trodAll_cons hA
  obtain ⟨rfl, rfl, rfl⟩ := trodAll_nil r0
  obtain rfl : args = #[v0] := by cases args; simp_all
  obtain ⟨a0, rfl, rfl, rfl, wf0⟩ := open_int Try.underlying3 (hval 0 3 v0 rfl rfl) h0
  refine (walk a0 W).mono fun e W' ⟨he, hb⟩ => ?_
  subst he
  exact ⟨_, rfl, law_post rfl rfl (fun gs h => by subst h; rfl) (by rw [Try.params8]; exact readable_FnExactNumeral) laid hW' hb⟩

theorem over : Rows.fnExactNumeralRow.holds Try.pinned (OpenSpec.ofChange Rows.fnExactNumeralSpec) :=
  OpenClaim.holds_of_wide 8 Try.f8 rfl rfl rfl rfl rfl rfl rfl ⟨rfl, rfl, rfl, rfl, rfl⟩ rfl rfl rfl rfl rfl (by kernel_rfl) Try.func8 (by kernel_rfl)
    (of_decide_eq_true (by kernel_rfl)) (by unfold Func.isWrapper; first | (rw [if_pos (by decide +kernel)]; kernel_rfl) | (rw [if_neg (by decide +kernel)]; exact ⟨rfl, rfl⟩))
    (fun os started H enc _ => lifted os started H enc)

theorem proved : Rows.FnExactNumeralSaid :=
  over
end Go.Proofs.Ytjhjnkeildeedaa.fnExactNumeral
