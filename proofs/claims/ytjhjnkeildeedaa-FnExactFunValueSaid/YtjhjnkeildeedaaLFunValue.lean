/-
  The law FnExactFunValue: for every number and every list of numbers, FunValue answers as its model and writes into no argument.
-/
import Derived.Test.YtjhjnkeildeedaaOpenL
import Derived.Test.YtjhjnkeildeedaaLawL
import Derived.Test.YtjhjnkeildeedaaTwo
import Derived.Deep.DeepCutAuto
import Derived.Test.YtjhjnkeildeedaaNfB
import Derived.Test.YtjhjnkeildeedaaOpenI
namespace Go.Proofs.Ytjhjnkeildeedaa.fnExactFunValue
open Go.ChangeShapes Go.WideShapes Go.ChangeAt Go.RowKit Go.Deep
set_option linter.unusedVariables false

theorem readable_FnExactFunValue : ∀ t ∈ (#[3, 24] : Array TypeId).toList, Try.prog.readableRec t = true ∧ t < Try.prog.types.size := by
  intro t ht
  simp at ht
  rcases ht with rfl | rfl
  all_goals exact ⟨by kernel_rfl, of_decide_eq_true (by kernel_rfl)⟩
theorem laid : laidOutB Try.prog = true := by kernel_rfl

set_option maxRecDepth 100000 in
set_option maxHeartbeats 4000000 in
/-- The walk. -/
theorem walk (f : Int) (Np : Int → Int) (lenp : Nat) (w : World) (vp : Value) (hp : Ints w 0 Np lenp vp) : Calls Try.prog 4 #[.int .i64 f, vp] w fun e w' => e = .returned (.bool true) ∧ Below w.heap.size w w' := by
  obtain ⟨pa, pc, rfl⟩ := hp.form
  have HSp := tuck hp
  clear hp
  by_cases hlenp : lenp ≤ 1048576
  rotate_left
  · have hlbp : decide ((1048576 : Int) < (lenp : Int)) = true := by simp; omega
    clear hlenp
    go_enter Try.func4, Try.ntmps4
    go_wp2
    go_ret
    exact ⟨rfl, Below.refl _ _⟩
  have hlbp : decide ((1048576 : Int) < (lenp : Int)) = false := by simp; omega
  obtain ⟨R0, hR0⟩ : ∃ R : Int, R = nfR f Np lenp := ⟨_, rfl⟩
  obtain ⟨R1, hR1⟩ : ∃ R : Bool, R = tr (NfOk f Np lenp) := ⟨_, rfl⟩
  have HSP : Hid (∀ (w : World) (vp : Value), Ints w 0 Np lenp vp → Calls Try.prog 14 #[.int .i64 f, vp] w (fun e w' => Below w.heap.size w w' ∧ e = .returned (.tuple #[.int .i64 R0, .bool R1]))) := fun w vp hp => by subst hR0; subst hR1; exact valS_any f Np lenp w vp hlenp hp
  have HIM : Hid (∀ (w : World) (vp : Value), Ints w 0 Np lenp vp → Calls Try.prog 16 #[.int .i64 f, vp] w (fun e w' => Below w.heap.size w w' ∧ e = .returned (.tuple #[.int .i64 R0, .bool R1]))) := fun w vp hp => by subst hR0; subst hR1; exact valI_any f Np lenp w vp hlenp hp
  clear hR0 hR1
  have HTOp : Hid (∀ (w : World), Ints w 0 Np lenp (.slice pa lenp pc) → Calls Try.prog 15 #[(.slice pa lenp pc)] w (ToInts w Np lenp)) := fun w h => toInts_any Np lenp w _ hlenp h
  have HEQp : Hid (∀ (w : World) (v1 v2 : Value), Ints w 0 Np lenp v1 → Ints w 0 Np lenp v2 → Calls Try.prog 17 #[v1, v2] w (EqPost w true)) := fun w v1 v2 h1 h2 => eqInts_any Np lenp w v1 v2 hlenp h1 h2
  have hrr0 : (R0 != R0) = false := by simp
  have hrr1 : (R1 != R1) = false := by simp
  have hkp : (0 : Int) ≤ 1 ∧ (1 : Int) + (lenp : Int) ≤ 4611686018427387904 := by omega
  have HKp := tuck hkp
  have hkend : ¬ ((1 : Int) + (lenp : Int)) < 0 := by omega
  skip
  have HLENp := tuck hlenp
  clear hlenp
  go_enter Try.func4, Try.ntmps4
  have HB : Hid (Bel w w) := tuck ⟨Below.refl _ _⟩
  go_wp2_with fail
  refine (HTOp.out _ (HSp.out.below HB.out.be)).mono ?_
  rintro e wc8p ⟨hb, v, rfl, hio⟩
  obtain rfl := hio.form
  have H8p := tuck (hio.ints.mono (Nat.zero_le _))
  replace HB := tuck (HB.out.below hb)
  clear hb hio
  go_wp2_with fail
  refine (HSP.out _ _ H8p.out).mono ?_
  rintro e w8 ⟨hb, rfl⟩
  replace HB := tuck (HB.out.below hb)
  clear hb 
  clear H8p
  go_wp2_with fail
  have HBW : Hid (Bel w8 w8) := tuck ⟨Below.refl _ _⟩
  have HL0 : Hid (w.heap.size ≤ w8.heap.size) := tuck HB.out.be.size
  refine (HTOp.out _ (HSp.out.below HB.out.be)).mono ?_
  rintro e wxp ⟨hb, v, rfl, hio⟩
  obtain rfl := hio.form
  have HOp := tuck hio
  have HLp := tuck hio.lt
  have HNp := tuck hb.size
  replace HB := tuck (HB.out.below hb)
  replace HBW := tuck (HBW.out.below hb)
  clear hb hio
  go_wp2_with fail
  refine (HIM.out _ _ (HOp.out.ints.mono (Nat.zero_le _))).mono ?_
  rintro e wG ⟨hb, rfl⟩
  replace HB := tuck (HB.out.below hb)
  replace HBW := tuck (HBW.out.below hb)
  replace HOp := tuck (HOp.out.below hb)
  clear hb
  go_wp2_with fail
  refine (HTOp.out _ (HSp.out.below HB.out.be)).mono ?_
  rintro e w73p ⟨hb, v, rfl, hio⟩
  obtain rfl := hio.form
  have Hyp := tuck (hio.ints.mono (Nat.zero_le _))
  replace HB := tuck (HB.out.below hb)
  replace HBW := tuck (HBW.out.below hb)
  replace HOp := tuck (HOp.out.below hb)
  clear hb hio
  go_wp2_with fail
  refine (HEQp.out _ _ _ (HOp.out.ints.mono (Nat.zero_le _)) Hyp.out).mono ?_
  rintro e w74p ⟨rfl, hb⟩
  replace HB := tuck (HB.out.below hb)
  replace HBW := tuck (HBW.out.below hb)
  replace HOp := tuck (HOp.out.below hb)
  clear hb Hyp
  go_wp2_with fail
  go_ret
  exact ⟨rfl, HB.out.be⟩

set_option maxRecDepth 100000 in
theorem lifted (os : Os) (started : os.Started) (H : Type) (enc : TypeId × Value → H) :
    ReturnsInHanded {} Try.checked os 4 .any (Rows.fnExactFunValueSpec.pre6 enc Try.prog Try.f4 Rows.fnExactFunValueRow.domain false) (Rows.fnExactFunValueSpec.post enc Try.prog Try.f4 false true false false) := by
  refine returnsInHanded_of_change (C := Try.checked) own started (by kernel_rfl) Try.func4
    (ChangeSpec.witness6 (enc := enc) (C := Try.checked) false ⟨#[], #[.int .i64 0, .slice none 0 0], []⟩ 8 (by kernel_rfl) (by kernel_rfl) (by kernel_rfl) (by kernel_rfl)) ?_
  intro W base args ds gs before hval0 hW hcnd _
  have hval : ∀ (j : Nat) t v, Try.f4.params[j]? = some t → args[j]? = some v → Value.okWide Try.prog W .any base t v := hval0
  have hW' := hW
  obtain ⟨p, q, hA0, hV, rfl, hfz, hnd⟩ := hW
  have hA : DataW.TrodAll enc Try.prog W 0 (fun _ => true) true Try.f4.params.toList args.toList ds p := hA0
  rw [Try.params4] at hA hval
  obtain ⟨v0, vs0, d0, ds0, p0, q0, hargs, rfl, rfl, h0, r0⟩ := trodAll_cons hA
  obtain ⟨v1, vs1, d1, ds1, p1, q1, rfl, rfl, rfl, h1, r1⟩ := trodAll_cons r0
  obtain ⟨rfl, rfl, rfl⟩ := trodAll_nil r1
  obtain rfl : args = #[v0, v1] := by cases args; simp_all
  obtain ⟨a0, rfl, rfl, rfl, wf0⟩ := open_int Try.underlying3 (hval 0 3 v0 rfl rfl) h0
  obtain ⟨N1, len1, hi1⟩ := open_intsl (hval 1 24 v1 rfl rfl) h1
  refine (walk a0 N1 len1 W v1 hi1).mono fun e W' ⟨he, hb⟩ => ?_
  subst he
  exact ⟨_, rfl, law_post rfl rfl (fun gs h => by subst h; rfl) (by rw [Try.params4]; exact readable_FnExactFunValue) laid hW' hb⟩

theorem over : Rows.fnExactFunValueRow.holds Try.pinned (OpenSpec.ofChange Rows.fnExactFunValueSpec) :=
  OpenClaim.holds_of_wide 4 Try.f4 rfl rfl rfl rfl rfl rfl rfl ⟨rfl, rfl, rfl, rfl, rfl⟩ rfl rfl rfl rfl rfl (by kernel_rfl) Try.func4 (by kernel_rfl)
    (of_decide_eq_true (by kernel_rfl)) (by unfold Func.isWrapper; first | (rw [if_pos (by decide +kernel)]; kernel_rfl) | (rw [if_neg (by decide +kernel)]; exact ⟨rfl, rfl⟩))
    (fun os started H enc _ => lifted os started H enc)

theorem proved : Rows.FnExactFunValueSaid :=
  over
end Go.Proofs.Ytjhjnkeildeedaa.fnExactFunValue
