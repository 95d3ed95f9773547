/-
  The law FnExactFreshName: FreshName answers as its model.
-/
import Derived.Test.YtfnfbpdhploknaaOpen
import Derived.Test.YtfnfbpdhploknaaNamesS
namespace Go.Proofs.Ytfnfbpdhploknaa.fnExactFreshName
open Go.ChangeShapes Go.WideShapes Go.ChangeAt Go.RowKit Go.Deep
set_option linter.unusedVariables false

theorem readable_FnExactFreshName : ∀ t ∈ (#[9] : Array TypeId).toList, Try.prog.readableRec t = true ∧ t < Try.prog.types.size := by
  intro t ht
  simp at ht
  rcases ht with rfl
  exact ⟨by kernel_rfl, of_decide_eq_true (by kernel_rfl)⟩
theorem laid : laidOutB Try.prog = true := by kernel_rfl

set_option maxRecDepth 100000 in
/-- The walk. -/
theorem walk (s : ByteArray) (w : World) : Calls Try.prog 6 #[.string s] w fun e w' => e = .returned (.bool true) ∧ Below w.heap.size w w' := by
  by_cases hl : 1048576 < s.size
  · have hl' : (1048576 : Int) < (s.size : Int) := by omega
    go_enter Try.func6, Try.ntmps6
    go_wp2
    go_ret
    exact ⟨rfl, Below.refl _ _⟩
  have hl' : ¬ (1048576 : Int) < (s.size : Int) := by omega
  have hs : s.size ≤ maxLen := by unfold maxLen; omega
  obtain ⟨t, v, HS, HI⟩ : ∃ (t : ByteArray) (v : Bool), Hid (∀ w, Calls Try.prog 9 #[.string s] w fun e w' => e = .returned (.tuple #[.string t, .bool v]) ∧ Below w.heap.size w w') ∧ Hid (∀ w, Calls Try.prog 8 #[.string s] w fun e w' => e = .returned (.tuple #[.string t, .bool v]) ∧ Below w.heap.size w w') := by
    have h1 := fun w => freshNameS_any s w hs
    have h2 := fun w => freshNameI_any s w hs
    unfold FrPost at h1 h2
    cases hk : nameOk s with
    | false => exact ⟨_, _, tuck fun w => (h1 w).mono fun e w' h => by rw [hk] at h; exact h, tuck fun w => (h2 w).mono fun e w' h => by rw [hk] at h; exact h⟩
    | true => exact ⟨_, _, tuck fun w => (h1 w).mono fun e w' h => by rw [hk] at h; exact h, tuck fun w => (h2 w).mono fun e w' h => by rw [hk] at h; exact h⟩
  clear hs
  have hvv : (v != v) = false := by simp
  have htt : (t.toList == t.toList) = true := by simp
  have htn : (t.toList != t.toList) = false := by simp
  go_enter Try.func6, Try.ntmps6
  go_wp2_with fail
  refine (HS.out _).mono ?_
  rintro e w1 ⟨rfl, hb⟩
  have HB := tuck hb
  clear hb
  go_wp2_with fail
  refine (HI.out _).mono ?_
  rintro e w2 ⟨rfl, hb⟩
  replace HB := tuck (bAfter HB.out hb)
  clear hb
  go_wp2_with fail
  go_ret
  exact ⟨rfl, HB.out⟩

set_option maxRecDepth 100000 in
theorem lifted (os : Os) (started : os.Started) (H : Type) (enc : TypeId × Value → H) :
    ReturnsInHanded {} Try.checked os 6 .any (Rows.fnExactFreshNameSpec.pre6 enc Try.prog Try.f6 Rows.fnExactFreshNameRow.domain false) (Rows.fnExactFreshNameSpec.post enc Try.prog Try.f6 false true false false) := by
  refine returnsInHanded_of_change (C := Try.checked) own started (by kernel_rfl) Try.func6
    (ChangeSpec.witness6 (enc := enc) (C := Try.checked) false ⟨#[], #[.string (ByteArray.mk #[])], []⟩ 8 (by kernel_rfl) (by kernel_rfl) (by kernel_rfl) (by kernel_rfl)) ?_
  intro W base args ds gs before hval0 hW hcnd _
  have hval : ∀ (j : Nat) t v, Try.f6.params[j]? = some t → args[j]? = some v → Value.okWide Try.prog W .any base t v := hval0
  have hW' := hW
  obtain ⟨p, q, hA0, hV, rfl, hfz, hnd⟩ := hW
  have hA : DataW.TrodAll enc Try.prog W 0 (fun _ => true) true Try.f6.params.toList args.toList ds p := hA0
  rw [Try.params6] at hA hval
  obtain ⟨v0, vs0, d0, ds0, p0, q0, hargs, rfl, rfl, h0, r0⟩ := trodAll_cons hA
  obtain ⟨rfl, rfl, rfl⟩ := trodAll_nil r0
  obtain rfl : args = #[v0] := by cases args; simp_all
  obtain ⟨a0, rfl, rfl, rfl, wf0⟩ := Go.ChangeMaps.open_string Try.underlying9 (hval 0 9 v0 rfl rfl) h0
  refine (walk a0 W).mono fun e W' ⟨he, hb⟩ => ?_
  subst he
  exact ⟨_, rfl, law_post rfl rfl (fun gs h => by subst h; rfl) (by rw [Try.params6]; exact readable_FnExactFreshName) laid hW' hb⟩

theorem over : Rows.fnExactFreshNameRow.holds Try.pinned (OpenSpec.ofChange Rows.fnExactFreshNameSpec) :=
  OpenClaim.holds_of_wide 6 Try.f6 rfl rfl rfl rfl rfl rfl rfl ⟨rfl, rfl, rfl, rfl, rfl⟩ rfl rfl rfl rfl rfl (by kernel_rfl) Try.func6 (by kernel_rfl)
    (of_decide_eq_true (by kernel_rfl)) (by unfold Func.isWrapper; first | (rw [if_pos (by decide +kernel)]; kernel_rfl) | (rw [if_neg (by decide +kernel)]; exact ⟨rfl, rfl⟩))
    (fun os started H enc _ => lifted os started H enc)

theorem proved : Rows.FnExactFreshNameSaid :=
  over
end Go.Proofs.Ytfnfbpdhploknaa.fnExactFreshName
