/-
  The law FnExactContextVars: for every int, ContextVars answers as its model, and its answer is memory of its own.
-/
import Derived.Test.YtakdfpoigjgcnaaB03
import Derived.Test.YtakdfpoigjgcnaaB19
import Derived.Test.YtakdfpoigjgcnaaB23
import Derived.Test.YtakdfpoigjgcnaaB50
import Derived.Deep.DeepCutAuto
namespace Go.Proofs.Ytakdfpoigjgcnaa.fnExactContextVars
open Go.ChangeShapes Go.WideShapes Go.ChangeAt Go.RowKit Go.Deep
set_option linter.unusedVariables false
theorem readable_FnExactContextVars : ∀ t ∈ (#[3] : Array TypeId).toList, Try.prog.readableRec t = true ∧ t < Try.prog.types.size := by
 intro t ht
 simp at ht
 subst ht
 all_goals exact ⟨by kernel_rfl, of_decide_eq_true (by kernel_rfl)⟩
theorem laid : laidOutB Try.prog = true := by kernel_rfl
set_option maxRecDepth 100000 in
set_option maxHeartbeats 4000000 in
/-- The walk. -/
theorem walk (n : Int) (w : World) : Calls Try.prog 9 #[.int .i64 n] w fun e w' => e = .returned (.bool true) ∧ Below w.heap.size w w' := by
 skip
 obtain ⟨R0, hR0⟩ : ∃ R : List Tm, R = orNil (CvOk n) (vars n.toNat) := ⟨_, rfl⟩
 obtain ⟨R1, hR1⟩ : ∃ R : Bool, R = tr (CvOk n) := ⟨_, rfl⟩
 have HSP : Hid (∀ (w : World), Calls Try.prog 32 #[.int .i64 n] w (fun e w' => Below w.heap.size w w' ∧ ∃ (a0 : Option Addr) (c0 : Nat), e = .returned (.tuple #[.slice a0 R0.length c0, .bool R1]) ∧ SlIn w' w.heap.size R0 (.slice a0 R0.length c0))) := fun w => by subst hR0; subst hR1; exact varsS_any n w
 have HIM : Hid (∀ (w : World), Calls Try.prog 33 #[.int .i64 n] w (fun e w' => Below w.heap.size w w' ∧ ∃ (a0 : Option Addr) (c0 : Nat) (F0 : List Nat), e = .returned (.tuple #[.slice a0 R0.length c0, .bool R1]) ∧ SlOwn w' R0 (.slice a0 R0.length c0) F0 ∧ (F0).Nodup ∧ ∀ g ∈ F0, w.heap.size ≤ g ∧ g < w'.heap.size)) := fun w => by subst hR0; subst hR1; exact varsI_any n w
 have hszR0 : sizes R0 ≤ 1000000 := by subst hR0; subst hR1; exact cv_sizes n
 clear hR0 hR1
 have HEQR0 : Hid (∀ (w : World) (v1 v2 : Value), SlIn w 0 R0 v1 → SlIn w 0 R0 v2 → Calls Try.prog 17 #[v1, v2] w (EqPost w true)) := fun w v1 v2 h1 h2 => by have := eqS_any R0 R0 w v1 v2 h1 h2; rwa [same_self] at this
 have hrr1 : (R1 != R1) = false := by simp
 have hm0 : (0 : Int) ≤ 1 ∧ (1 : Int) + 2 * (sizes R0 : Int) ≤ 4611686018427387904 := by omega
 have HM0 := tuck hm0
 have hmn0 : ¬ ((1 : Int) + 2 * (sizes R0 : Int)) < 0 := by omega
 clear hszR0 hm0
 go_enter Try.func9, Try.ntmps9
 have HB : Hid (Bel w w) := tuck ⟨Below.refl _ _⟩
 go_wp2_with fail
 refine (HSP.out _  ).mono ?_
 rintro e w8 ⟨hb, u8a0, u8c0, rfl, hw0⟩
 have H8W0 := tuck (hw0.mono (B' := 0) (Nat.zero_le _))
 replace HB := tuck (HB.out.below hb)
 clear hb hw0
 go_wp2_with fail
 have HBW : Hid (Bel w8 w8) := tuck ⟨Below.refl _ _⟩
 have HL0 : Hid (w.heap.size ≤ w8.heap.size) := tuck HB.out.be.size
 refine (HIM.out _  ).mono ?_
 rintro e wG ⟨hb, Ga0, Gc0, FG0, rfl, hw0, hnd, hF⟩
 have HOG0 := tuck (OwnB.of hw0 hnd hF)
 have HNG := tuck hb.size
 replace HB := tuck (HB.out.below hb)
 replace HBW := tuck (HBW.out.below hb)
 clear hb hnd hF hw0
 go_wp2_with fail
 refine (HEQR0.out _ _ _ (HOG0.out.sl) (H8W0.out.below HBW.out.be)).mono ?_
 rintro e wE0 ⟨rfl, hb⟩
 replace HB := tuck (HB.out.below hb)
 replace HBW := tuck (HBW.out.below hb)
 replace HOG0 := tuck (HOG0.out.below hb)
 clear hb
 go_wp2_with fail
 have geHOG0 := HOG0.out.ge
 have ltHOG0 := HOG0.out.lt
 refine (markL_but R0 FG0 (1) _ _ HM0.out.1 HM0.out.2 HOG0.out.nd HOG0.out.own).mono ?_
 rintro e wn0 ⟨rfl, hown, hbut⟩
 have e0 := HL0.out; have e1 := HNG.out
 skip
 replace HB := tuck (HB.out.but hbut (fun g hf => by have h1 := geHOG0 _ hf; have h2 := ltHOG0 _ hf; omega))
 replace HBW := tuck (HBW.out.but hbut (fun g hf => by have h1 := geHOG0 _ hf; have h2 := ltHOG0 _ hf; omega))
 replace HOG0 := tuck (HOG0.out.marked hown hbut.size)
 clear hbut hown geHOG0 ltHOG0
 clear e0 e1
 go_wp2_with fail
 refine (heldL_any R0 0 (1) _ _ HM0.out.1 HM0.out.2 HOG0.out.sl).mono ?_
 rintro e wh0 ⟨rfl, hb⟩
 replace HB := tuck (HB.out.below hb)
 replace HBW := tuck (HBW.out.below hb)
 replace HOG0 := tuck (HOG0.out.below hb)
 clear hb
 go_wp2_with fail
 refine (HIM.out _  ).mono ?_
 rintro e wH ⟨hb, uHa0, uHc0, FH0, rfl, hw0, hnd, hF⟩
 have HHW0 := tuck (hw0.sl (B := 0) (fun _ _ => Nat.zero_le _))
 replace HB := tuck (HB.out.below hb)
 replace HBW := tuck (HBW.out.below hb)
 replace HOG0 := tuck (HOG0.out.below hb)
 clear hb hnd hF hw0
 go_wp2_with fail
 refine (HEQR0.out _ _ _ (HHW0.out) (H8W0.out.below HBW.out.be)).mono ?_
 rintro e wF0 ⟨rfl, hb⟩
 replace HB := tuck (HB.out.below hb)
 replace HBW := tuck (HBW.out.below hb)
 replace HOG0 := tuck (HOG0.out.below hb)
 replace HHW0 := tuck (HHW0.out.below hb)
 clear hb
 go_wp2_with fail
 refine (heldL_any R0 0 (1) _ _ HM0.out.1 HM0.out.2 HOG0.out.sl).mono ?_
 rintro e wi0 ⟨rfl, hb⟩
 replace HB := tuck (HB.out.below hb)
 replace HBW := tuck (HBW.out.below hb)
 replace HOG0 := tuck (HOG0.out.below hb)
 clear hb
 go_wp2_with fail
 go_ret
 exact ⟨rfl, HB.out.be⟩
set_option maxRecDepth 100000 in
theorem lifted (os : Os) (started : os.Started) (H : Type) (enc : TypeId × Value → H) :
  ReturnsInHanded {} Try.checked os 9 .any (Rows.fnExactContextVarsSpec.pre6 enc Try.prog Try.f9 Rows.fnExactContextVarsRow.domain false) (Rows.fnExactContextVarsSpec.post enc Try.prog Try.f9 false true false false) := by
 refine returnsInHanded_of_change (C := Try.checked) own started (by kernel_rfl) Try.func9
  (ChangeSpec.witness6 (enc := enc) (C := Try.checked) false ⟨#[], #[.int .i64 0], []⟩ 8 (by kernel_rfl) (by kernel_rfl) (by kernel_rfl) (by kernel_rfl)) ?_
 intro W base args ds gs before hval0 hW hcnd _
 have hval : ∀ (j : Nat) t v, Try.f9.params[j]? = some t → args[j]? = some v → Value.okWide Try.prog W .any base t v := hval0
 have hW' := hW
 obtain ⟨p, q, hA0, hV, rfl, hfz, hnd⟩ := hW
 have hA : DataW.TrodAll enc Try.prog W 0 (fun _ => true) true Try.f9.params.toList args.toList ds p := hA0
 rw [Try.params9] at hA hval
 obtain ⟨v0, vs0, d0, ds0, p0, q0, hargs, rfl, rfl, h0, r0⟩ := trodAll_cons hA
 obtain ⟨rfl, rfl, rfl⟩ := trodAll_nil r0
 obtain rfl : args = #[v0] := by cases args; simp_all
 obtain ⟨a0, rfl, rfl, rfl, wf0⟩ := open_int Try.underlying3 (hval 0 3 v0 rfl rfl) h0
 refine (walk a0 W).mono fun e W' ⟨he, hb⟩ => ?_
 subst he
 exact ⟨_, rfl, law_post rfl rfl (fun gs h => by subst h; rfl) (by rw [Try.params9]; exact readable_FnExactContextVars) laid hW' hb⟩
theorem over : Rows.fnExactContextVarsRow.holds Try.pinned (OpenSpec.ofChange Rows.fnExactContextVarsSpec) :=
 OpenClaim.holds_of_wide 9 Try.f9 rfl rfl rfl rfl rfl rfl rfl ⟨rfl, rfl, rfl, rfl, rfl⟩ rfl rfl rfl rfl rfl (by kernel_rfl) Try.func9 (by kernel_rfl)
  (of_decide_eq_true (by kernel_rfl)) (by unfold Func.isWrapper; first | (rw [if_pos (by decide +kernel)]; kernel_rfl) | (rw [if_neg (by decide +kernel)]; exact ⟨rfl, rfl⟩))
  (fun os started H enc _ => lifted os started H enc)
theorem proved : Rows.FnExactContextVarsSaid :=
 over
end Go.Proofs.Ytakdfpoigjgcnaa.fnExactContextVars
