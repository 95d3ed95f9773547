/-
  The law FnExactNamedSame: NamedSame answers as its model.
-/
import Derived.Test.YtjdmfegdgpbkgaaGreatO13
import Derived.Test.YtjdmfegdgpbkgaaGreatO41
import Derived.Test.YtjdmfegdgpbkgaaGreatO51
import Derived.Test.YtjdmfegdgpbkgaaGreatO52
import Derived.Test.YtjdmfegdgpbkgaaGreatO53
import Derived.Test.YtjdmfegdgpbkgaaGreatO54
namespace Go.Proofs.YtjdmfegdgpbkgaaGreat.fnExactNamedSame
open Go.ChangeShapes Go.WideShapes Go.ChangeAt Go.RowKit Go.Deep
set_option linter.unusedVariables false
theorem readable_FnExactNamedSame : ∀ t ∈ (#[9, 9, 9] : Array TypeId).toList, Tryz.prog.readableRec t = true ∧ t < Tryz.prog.types.size := by
 intro t ht
 simp at ht
 subst ht
 exact ⟨by kernel_rfl, of_decide_eq_true (by kernel_rfl)⟩
theorem laid : laidOutB Tryz.prog = true := by kernel_rfl
set_option maxRecDepth 100000 in
/-- The walk. -/
theorem walk (a b names : ByteArray) (w : World) : Calls Tryz.prog 4 #[.string a, .string b, .string names] w fun e w' => e = .returned (.bool true) ∧ Below w.heap.size w w' := by
 by_cases hl : 1048576 < a.size
 ·have hl' : (1048576 : Int) < (a.size : Int) := by omega
  go_enter Tryz.func4, Tryz.ntmps4
  go_wp2
  go_ret
  exact ⟨rfl, Below.refl _ _⟩
 have hl' : ¬ (1048576 : Int) < (a.size : Int) := by omega
 by_cases hm : 1048576 < b.size
 ·have hm' : (1048576 : Int) < (b.size : Int) := by omega
  go_enter Tryz.func4, Tryz.ntmps4
  go_wp2
  go_ret
  exact ⟨rfl, Below.refl _ _⟩
 have hm' : ¬ (1048576 : Int) < (b.size : Int) := by omega
 by_cases hn : 1048576 < names.size
 ·have hn' : (1048576 : Int) < (names.size : Int) := by omega
  go_enter Tryz.func4, Tryz.ntmps4
  go_wp2
  go_ret
  exact ⟨rfl, Below.refl _ _⟩
 have hn' : ¬ (1048576 : Int) < (names.size : Int) := by omega
 have hnn : names.size ≤ maxLen := by unfold maxLen; omega
 obtain ⟨v, HS, HI⟩ : ∃ v : Bool, Hid (∀ w, Calls Tryz.prog 11 #[.string a, .string b, .string names] w (BoolPost w v)) ∧ Hid (∀ w, Calls Tryz.prog 12 #[.string a, .string b, .string names] w (BoolPost w v)) := by
  have hT : (namedOf a names).isSome = true → ((namedOf a names).getD zeroT).Valid := fun h => by
   cases hx : namedOf a names with
   | none => rw [hx] at h; cases h
   | some X => exact namedOf_valid hx
  refine ⟨(namedOf a names).isSome && ((namedOf b names).isSome && same ((namedOf a names).getD zeroT) ((namedOf b names).getD zeroT)), tuck fun w => ?_, tuck fun w => ?_⟩
  ·refine nsS_core a b names ((namedOf a names).getD zeroT) ((namedOf b names).getD zeroT) _ _ _ (tuck fun W => (namedT_any a names (by omega) hnn W).mono fun _ _ ⟨h1, v, h2, s9, e9, h9⟩ => ⟨h1, v, h2, s9, e9, h9.mono (Nat.zero_le _)⟩) (tuck fun W => (namedT_any b names (by omega) hnn W).mono fun _ _ ⟨h1, v, h2, s9, e9, h9⟩ => ⟨h1, v, h2, s9, e9, h9.mono (Nat.zero_le _)⟩) (fun _ => tuck fun W v1 v2 h1 h2 => ?_) w
   obtain ⟨s, rfl, h1⟩ := h1
   have := sameS_any ((namedOf a names).getD zeroT).kids ((namedOf a names).getD zeroT).kind ((namedOf a names).getD zeroT).num ((namedOf b names).getD zeroT) W s v2 h1 h2
   rwa [Tm.eta] at this
  ·exact nsI_core a b names ((namedOf a names).getD zeroT) ((namedOf b names).getD zeroT) _ _ _ (tuck fun W => (namedI_any a names (by omega) hnn W).mono fun _ _ ⟨h1, v, h2, s9, F9, e9, h9, _⟩ => ⟨h1, v, h2, s9, e9, h9.sl (fun _ _ => Nat.zero_le _)⟩) (tuck fun W => (namedI_any b names (by omega) hnn W).mono fun _ _ ⟨h1, v, h2, s9, F9, e9, h9, _⟩ => ⟨h1, v, h2, s9, e9, h9.sl (fun _ _ => Nat.zero_le _)⟩) (fun h => tuck fun W v1 v2 h1 h2 => termSame_any _ _ W v1 v2 (Or.inl (hT h)) h1 h2) w
 clear hnn
 have hvv : (v != v) = false := by simp
 go_enter Tryz.func4, Tryz.ntmps4
 go_wp2_with fail
 refine (HS.out _).mono ?_
 rintro e w1 ⟨rfl, hb⟩
 have HB := tuck hb
 clear hb
 go_wp2_with fail
 refine (HI.out _).mono ?_
 rintro e w2 ⟨rfl, hb⟩
 replace HB := tuck (bAfter HB.out hb)
 clear hb
 go_wp2_with fail
 go_ret
 exact ⟨rfl, HB.out⟩
set_option maxRecDepth 100000 in
theorem lifted (os : Os) (started : os.Started) (H : Type) (enc : TypeId × Value → H) :
  ReturnsInHanded {} Tryz.checked os 4 .any (Rows.fnExactNamedSameSpec.pre6 enc Tryz.prog Tryz.f4 Rows.fnExactNamedSameRow.domain false) (Rows.fnExactNamedSameSpec.post enc Tryz.prog Tryz.f4 false true false false) := by
 refine returnsInHanded_of_change (C := Tryz.checked) own started (by kernel_rfl) Tryz.func4
  (ChangeSpec.witness6 (enc := enc) (C := Tryz.checked) false ⟨#[], #[.string (ByteArray.mk #[]), .string (ByteArray.mk #[]), .string (ByteArray.mk #[])], []⟩ 8 (by kernel_rfl) (by kernel_rfl) (by kernel_rfl) (by kernel_rfl)) ?_
 intro W base args ds gs before hval0 hW hcnd _
 have hval : ∀ (j : Nat) t v, Tryz.f4.params[j]? = some t → args[j]? = some v → Value.okWide Tryz.prog W .any base t v := hval0
 have hW' := hW
 obtain ⟨p, q, hA0, hV, rfl, hfz, hnd⟩ := hW
 have hA : DataW.TrodAll enc Tryz.prog W 0 (fun _ => true) true Tryz.f4.params.toList args.toList ds p := hA0
 rw [Tryz.params4] at hA hval
 obtain ⟨v0, vs0, d0, ds0, p0, q0, hargs, rfl, rfl, h0, r0⟩ := trodAll_cons hA
 obtain ⟨v1, vs1, d1, ds1, p1, q1, rfl, rfl, rfl, h1, r1⟩ := trodAll_cons r0
 obtain ⟨v2, vs2, d2, ds2, p2, q2, rfl, rfl, rfl, h2, r2⟩ := trodAll_cons r1
 obtain ⟨rfl, rfl, rfl⟩ := trodAll_nil r2
 obtain rfl : args = #[v0, v1, v2] := by cases args; simp_all
 obtain ⟨a0, rfl, rfl, rfl, wf0⟩ := Go.ChangeMaps.open_string Tryz.underlying9 (hval 0 9 v0 rfl rfl) h0
 obtain ⟨a1, rfl, rfl, rfl, wf1⟩ := Go.ChangeMaps.open_string Tryz.underlying9 (hval 1 9 v1 rfl rfl) h1
 obtain ⟨a2, rfl, rfl, rfl, wf2⟩ := Go.ChangeMaps.open_string Tryz.underlying9 (hval 2 9 v2 rfl rfl) h2
 refine (walk a0 a1 a2 W).mono fun e W' ⟨he, hb⟩ => ?_
 subst he
 exact ⟨_, rfl, law_post rfl rfl (fun gs h => by subst h; rfl) (by rw [Tryz.params4]; exact readable_FnExactNamedSame) laid hW' hb⟩
theorem over : Rows.fnExactNamedSameRow.holds Tryz.pinned (OpenSpec.ofChange Rows.fnExactNamedSameSpec) :=
 OpenClaim.holds_of_wide 4 Tryz.f4 rfl rfl rfl rfl rfl rfl rfl ⟨rfl, rfl, rfl, rfl, rfl⟩ rfl rfl rfl rfl rfl (by kernel_rfl) Tryz.func4 (by kernel_rfl)
  (of_decide_eq_true (by kernel_rfl)) (by unfold Func.isWrapper; first | (rw [if_pos (by decide +kernel)]; kernel_rfl) | (rw [if_neg (by decide +kernel)]; exact ⟨rfl, rfl⟩))
  (fun os started H enc _ => lifted os started H enc)
theorem proved : Rows.FnExactNamedSameSaid :=
 over
end Go.Proofs.YtjdmfegdgpbkgaaGreat.fnExactNamedSame
