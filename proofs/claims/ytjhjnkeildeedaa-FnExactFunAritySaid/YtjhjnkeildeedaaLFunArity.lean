/-
  The law FnExactFunArity: for every number, FunArity answers as its model.
-/
import Derived.Test.YtjhjnkeildeedaaOpenL
import Derived.Test.YtjhjnkeildeedaaLawL
import Derived.Test.YtjhjnkeildeedaaTwo
import Derived.Deep.DeepCutAuto
import Derived.Test.YtjhjnkeildeedaaNfB
namespace Go.Proofs.Ytjhjnkeildeedaa.fnExactFunArity
open Go.ChangeShapes Go.WideShapes Go.ChangeAt Go.RowKit Go.Deep
set_option linter.unusedVariables false

theorem readable_FnExactFunArity : ∀ t ∈ (#[3] : Array TypeId).toList, Try.prog.readableRec t = true ∧ t < Try.prog.types.size := by
  intro t ht
  simp at ht
  subst ht
  all_goals exact ⟨by kernel_rfl, of_decide_eq_true (by kernel_rfl)⟩
theorem laid : laidOutB Try.prog = true := by kernel_rfl

set_option maxRecDepth 100000 in
set_option maxHeartbeats 4000000 in
/-- The walk. -/
theorem walk (f : Int) (w : World) : Calls Try.prog 3 #[.int .i64 f] w fun e w' => e = .returned (.bool true) ∧ Below w.heap.size w w' := by
  skip
  obtain ⟨R0, hR0⟩ : ∃ R : Int, R = nfA f := ⟨_, rfl⟩
  have HSP : Hid (∀ (w : World), Calls Try.prog 12 #[.int .i64 f] w (fun e w' => Below w.heap.size w w' ∧ e = .returned (.int .i64 R0))) := fun w => by subst hR0; exact (arityS_any f w).mono fun _ _ h => by obtain ⟨h1, h2⟩ := h; rw [h1, h2]; exact ⟨Below.refl _ _, rfl⟩
  have HIM : Hid (∀ (w : World), Calls Try.prog 13 #[.int .i64 f] w (fun e w' => Below w.heap.size w w' ∧ e = .returned (.int .i64 R0))) := fun w => by subst hR0; exact arityI_any f w
  clear hR0
  have hrr0 : (R0 != R0) = false := by simp
  skip
  go_enter Try.func3, Try.ntmps3
  have HB : Hid (Bel w w) := tuck ⟨Below.refl _ _⟩
  go_wp2_with fail
  refine (HSP.out _  ).mono ?_
  rintro e w8 ⟨hb, rfl⟩
  replace HB := tuck (HB.out.below hb)
  clear hb 
  go_wp2_with fail
  have HBW : Hid (Bel w8 w8) := tuck ⟨Below.refl _ _⟩
  have HL0 : Hid (w.heap.size ≤ w8.heap.size) := tuck HB.out.be.size
  refine (HIM.out _  ).mono ?_
  rintro e wG ⟨hb, rfl⟩
  replace HB := tuck (HB.out.below hb)
  replace HBW := tuck (HBW.out.below hb)
  clear hb
  go_wp2_with fail
  go_ret
  exact ⟨rfl, HB.out.be⟩

set_option maxRecDepth 100000 in
theorem lifted (os : Os) (started : os.Started) (H : Type) (enc : TypeId × Value → H) :
    ReturnsInHanded {} Try.checked os 3 .any (Rows.fnExactFunAritySpec.pre6 enc Try.prog Try.f3 Rows.fnExactFunArityRow.domain false) (Rows.fnExactFunAritySpec.post enc Try.prog Try.f3 false true false false) := by
  refine returnsInHanded_of_change (C := Try.checked) own started (by kernel_rfl) Try.func3
    (ChangeSpec.witness6 (enc := enc) (C := Try.checked) false ⟨#[], #[.int .i64 0], []⟩ 8 (by kernel_rfl) (by kernel_rfl) (by kernel_rfl) (by kernel_rfl)) ?_
  intro W base args ds gs before hval0 hW hcnd _
  have hval : ∀ (j : Nat) t v, Try.f3.params[j]? = some t → args[j]? = some v → Value.okWide Try.prog W .any base t v := hval0
  have hW' := hW
  obtain ⟨p, q, hA0, hV, rfl, hfz, hnd⟩ := hW
  have hA : DataW.TrodAll enc Try.prog W 0 (fun _ => true) true Try.f3.params.toList args.toList ds p := hA0
  rw [Try.params3] at hA hval
  obtain ⟨v0, vs0, d0, ds0, p0, q0, hargs, rfl, rfl, h0, r0⟩ := trodAll_cons hA
  obtain ⟨rfl, rfl, rfl⟩ := trodAll_nil r0
  obtain rfl : args = #[v0] := by cases args; simp_all
  obtain ⟨a0, rfl, rfl, rfl, wf0⟩ := open_int Try.underlying3 (hval 0 3 v0 rfl rfl) h0
  refine (walk a0 W).mono fun e W' ⟨he, hb⟩ => ?_
  subst he
  exact ⟨_, rfl, law_post rfl rfl (fun gs h => by subst h; rfl) (by rw [Try.params3]; exact readable_FnExactFunArity) laid hW' hb⟩

theorem over : Rows.fnExactFunArityRow.holds Try.pinned (OpenSpec.ofChange Rows.fnExactFunAritySpec) :=
  OpenClaim.holds_of_wide 3 Try.f3 rfl rfl rfl rfl rfl rfl rfl ⟨rfl, rfl, rfl, rfl, rfl⟩ rfl rfl rfl rfl rfl (by kernel_rfl) Try.func3 (by kernel_rfl)
    (of_decide_eq_true (by kernel_rfl)) (by unfold Func.isWrapper; first | (rw [if_pos (by decide +kernel)]; kernel_rfl) | (rw [if_neg (by decide +kernel)]; exact ⟨rfl, rfl⟩))
    (fun os started H enc _ => lifted os started H enc)

theorem proved : Rows.FnExactFunAritySaid :=
  over
end Go.Proofs.Ytjhjnkeildeedaa.fnExactFunArity
