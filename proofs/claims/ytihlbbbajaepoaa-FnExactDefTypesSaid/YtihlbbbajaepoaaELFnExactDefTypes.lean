/-
  The law FnExactDefTypes: for every list of definitions (no ring among the parts of its terms), DefTypes answers as its model, writes into no argument, and its answer is memory of its own.
-/
import Derived.Test.YtihlbbbajaepoaaE02
import Derived.Test.YtihlbbbajaepoaaE19
import Derived.Test.YtihlbbbajaepoaaE22
import Derived.Test.YtihlbbbajaepoaaE43
import Derived.Deep.DeepCutAuto
namespace Go.Proofs.Ytihlbbbajaepoaa.fnExactDefTypes
open Go.ChangeShapes Go.WideShapes Go.ChangeAt Go.RowKit Go.Deep
set_option linter.unusedVariables false
theorem readable_FnExactDefTypes : ∀ t ∈ (#[37] : Array TypeId).toList, Try.prog.readableRec t = true ∧ t < Try.prog.types.size := by
 intro t ht
 simp at ht
 subst ht
 all_goals exact ⟨by kernel_rfl, of_decide_eq_true (by kernel_rfl)⟩
theorem laid : laidOutB Try.prog = true := by kernel_rfl
set_option maxRecDepth 100000 in
set_option maxHeartbeats 4000000 in
/-- The walk. -/
theorem walk (l : List (Tm × Tm)) (w : World) (vl : Value) (hl : DfIn w 0 l vl) : Calls Try.prog 6 #[vl] w fun e w' => e = .returned (.bool true) ∧ Below w.heap.size w w' := by
 obtain ⟨la, lc, rfl⟩ := hl.form
 have HSl := tuck hl
 clear hl
 have HSZl : Hid (∀ (w : World), DfIn w 0 l (.slice la l.length lc) → Calls Try.prog 19 #[(.slice la l.length lc), .int .i64 1048576] w (SzPost w (if (dsizes l : Int) ≤ 1048576 then 1048576 - dsizes l else -1))) := fun w h => szDefS_any l 1048576 w _ (by omega) (by omega) h
 by_cases hszl : (dsizes l : Int) ≤ 1048576
 rotate_left
 ·rw [if_neg (by omega)] at HSZl
  clear hszl
  go_enter Try.func6, Try.ntmps6
  go_wp2_with fail
  refine (HSZl.out _ (HSl.out.below (Below.refl _ _))).mono ?_
  rintro e w1 ⟨rfl, hb⟩
  have HB : Hid (Bel w w1) := tuck ⟨bAfter (Below.refl _ _) hb⟩
  clear hb
  go_wp2_with fail
  go_ret
  exact ⟨rfl, HB.out.be⟩
 rw [if_pos (by omega)] at HSZl
 obtain ⟨left1, hleft1⟩ : ∃ left : Int, left = 1048576 - (dsizes l : Int) := ⟨_, rfl⟩
 have hl1a : (0 : Int) ≤ left1 := by omega
 have hl1b : left1 ≤ 1048576 := by omega
 rw [← hleft1] at HSZl
 obtain ⟨R0, hR0⟩ : ∃ R : List Tm, R = orNil (DefsOk l) (l.map (·.1)) := ⟨_, rfl⟩
 obtain ⟨R1, hR1⟩ : ∃ R : Bool, R = tr (DefsOk l) := ⟨_, rfl⟩
 have HSP : Hid (∀ (w : World) (vl : Value), DfIn w 0 l vl → Calls Try.prog 24 #[vl] w (fun e w' => Below w.heap.size w w' ∧ ∃ (a0 : Option Addr) (c0 : Nat), e = .returned (.tuple #[.slice a0 R0.length c0, .bool R1]) ∧ SlIn w' w.heap.size R0 (.slice a0 R0.length c0))) := fun w vl hl => by subst hR0; subst hR1; exact defTypesS_any l w vl hl
 have HIM : Hid (∀ (w : World) (vl : Value), DfIn w 0 l vl → Calls Try.prog 25 #[vl] w (fun e w' => Below w.heap.size w w' ∧ ∃ (a0 : Option Addr) (c0 : Nat) (F0 : List Nat), e = .returned (.tuple #[.slice a0 R0.length c0, .bool R1]) ∧ SlOwn w' R0 (.slice a0 R0.length c0) F0 ∧ (F0).Nodup ∧ ∀ g ∈ F0, w.heap.size ≤ g ∧ g < w'.heap.size)) := fun w vl hl => by subst hR0; subst hR1; exact defTypesI_any l w vl hl
 have hszR0 : sizes R0 ≤ 1000000 := by subst hR0; subst hR1; exact types_sizes l
 clear hR0 hR1
 have hdll : l.length ≤ 1048576 := by have := dsizes_len l; omega
 have HDLl := tuck hdll
 have hfll : sizes (flat l) ≤ 2097152 := by have h1 := flat_sizes l; have h2 := dsizes_len l; omega
 have HTOl : Hid (∀ (w : World), DfIn w 0 l (.slice la l.length lc) → Calls Try.prog 21 #[(.slice la l.length lc)] w (ToDsOPost w l)) := fun w h => toDefSO_any l w _ (by omega) h
 have HEQl : Hid (∀ (w : World) (v1 v2 : Value), DfIn w 0 l v1 → DfIn w 0 l v2 → Calls Try.prog 23 #[v1, v2] w (EqPost w true)) := fun w v1 v2 h1 h2 => eqDefS_any l w v1 v2 HDLl.out h1 h2
 have HEQR0 : Hid (∀ (w : World) (v1 v2 : Value), SlIn w 0 R0 v1 → SlIn w 0 R0 v2 → Calls Try.prog 26 #[v1, v2] w (EqPost w true)) := fun w v1 v2 h1 h2 => by have := eqS_any R0 R0 w v1 v2 h1 h2; rwa [same_self] at this
 have hrr1 : (R1 != R1) = false := by simp
 have hkl : (0 : Int) ≤ 1 ∧ (1 : Int) + 2 * (sizes (flat l) : Int) ≤ 4611686018427387904 := by omega
 have HKl := tuck hkl
 have hkend : ¬ ((1 : Int) + 2 * (sizes (flat l) : Int)) < 0 := by omega
 have hm0 : (0 : Int) ≤ 1 ∧ (1 : Int) + 2 * (sizes R0 : Int) ≤ 4611686018427387904 := by omega
 have HM0 := tuck hm0
 have hmn0 : ¬ ((1 : Int) + 2 * (sizes R0 : Int)) < 0 := by omega
 clear hszR0 hszl hleft1 hl1b hkl hdll hfll hm0
 go_enter Try.func6, Try.ntmps6
 go_wp2_with fail
 refine (HSZl.out _ (HSl.out.below (Below.refl _ _))).mono ?_
 rintro e w1 ⟨rfl, hb⟩
 have HB : Hid (Bel w w1) := tuck ⟨bAfter (Below.refl _ _) hb⟩
 clear hb
 go_wp2_with fail
 refine (HTOl.out _ (HSl.out.below HB.out.be)).mono ?_
 rintro e wc8l ⟨hb, u8la, u8lc, FUl, rfl, hsx, hnx, hFx⟩
 have H8l := tuck (hsx.df (B := 0) (fun _ _ => Nat.zero_le _) (fun g hg => (hFx g hg).2))
 replace HB := tuck (HB.out.below hb)
 clear hb hsx hnx hFx
 go_wp2_with fail
 refine (HSP.out _ _ H8l.out).mono ?_
 rintro e w8 ⟨hb, u8a0, u8c0, rfl, hw0⟩
 have H8W0 := tuck (hw0.mono (B' := 0) (Nat.zero_le _))
 replace HB := tuck (HB.out.below hb)
 clear hb hw0
 clear H8l
 go_wp2_with fail
 have HBW : Hid (Bel w8 w8) := tuck ⟨Below.refl _ _⟩
 have HL0 : Hid (w.heap.size ≤ w8.heap.size) := tuck HB.out.be.size
 refine (HTOl.out _ (HSl.out.below HB.out.be)).mono ?_
 rintro e wxl ⟨hb, uxla, uxlc, Fl, rfl, hsx, hnx, hFx⟩
 have HOl := tuck (OwnD.of hsx hnx hFx)
 have HNl := tuck hb.size
 replace HB := tuck (HB.out.below hb)
 replace HBW := tuck (HBW.out.below hb)
 clear hb hsx hnx hFx
 go_wp2_with fail
 refine (HIM.out _ _ HOl.out.sl).mono ?_
 rintro e wG ⟨hb, Ga0, Gc0, FG0, rfl, hw0, hnd, hF⟩
 have HOG0 := tuck (OwnB.of hw0 hnd hF)
 have HNG := tuck hb.size
 replace HB := tuck (HB.out.below hb)
 replace HBW := tuck (HBW.out.below hb)
 replace HOl := tuck (HOl.out.below hb)
 clear hb hnd hF hw0
 go_wp2_with fail
 refine (HEQR0.out _ _ _ (HOG0.out.sl) (H8W0.out.below HBW.out.be)).mono ?_
 rintro e wE0 ⟨rfl, hb⟩
 replace HB := tuck (HB.out.below hb)
 replace HBW := tuck (HBW.out.below hb)
 replace HOl := tuck (HOl.out.below hb)
 replace HOG0 := tuck (HOG0.out.below hb)
 clear hb
 go_wp2_with fail
 refine (HTOl.out _ (HSl.out.below HB.out.be)).mono ?_
 rintro e w73l ⟨hb, uyla, uylc, FUl, rfl, hsx, hnx, hFx⟩
 have Hyl := tuck (hsx.df (B := 0) (fun _ _ => Nat.zero_le _) (fun g hg => (hFx g hg).2))
 replace HB := tuck (HB.out.below hb)
 replace HBW := tuck (HBW.out.below hb)
 replace HOl := tuck (HOl.out.below hb)
 replace HOG0 := tuck (HOG0.out.below hb)
 clear hb hsx hnx hFx
 go_wp2_with fail
 refine (HEQl.out _ _ _ HOl.out.sl Hyl.out).mono ?_
 rintro e w74l ⟨rfl, hb⟩
 replace HB := tuck (HB.out.below hb)
 replace HBW := tuck (HBW.out.below hb)
 replace HOl := tuck (HOl.out.below hb)
 replace HOG0 := tuck (HOG0.out.below hb)
 clear hb Hyl
 go_wp2_with fail
 have geHOl := HOl.out.ge
 have ltHOl := HOl.out.lt
 have geHOG0 := HOG0.out.ge
 have ltHOG0 := HOG0.out.lt
 refine (markDefS_but l Fl (1) _ _ HKl.out.1 HKl.out.2 HOl.out.nd HOl.out.own).mono ?_
 rintro e wml ⟨rfl, hown, hbut⟩
 have e0 := HL0.out; have e1 := HNl.out; have e2 := HNG.out
 skip
 replace HB := tuck (HB.out.but hbut (fun g hf => by have h1 := geHOl _ hf; have h2 := ltHOl _ hf; omega))
 replace HBW := tuck (HBW.out.but hbut (fun g hf => by have h1 := geHOl _ hf; have h2 := ltHOl _ hf; omega))
 replace HOG0 := tuck (HOG0.out.but hbut (fun g hg hf => by have h1 := geHOl _ hf; have h2 := ltHOl _ hf; have h3 := geHOG0 _ hg; have h4 := ltHOG0 _ hg; omega))
 clear hbut hown geHOl ltHOl geHOG0 ltHOG0
 clear e0 e1 e2
 clear HOl
 go_wp2_with fail
 refine (HEQR0.out _ _ _ (HOG0.out.sl) (H8W0.out.below HBW.out.be)).mono ?_
 rintro e wK0 ⟨rfl, hb⟩
 replace HB := tuck (HB.out.below hb)
 replace HBW := tuck (HBW.out.below hb)
 replace HOG0 := tuck (HOG0.out.below hb)
 clear hb
 go_wp2_with fail
 have geHOG0 := HOG0.out.ge
 have ltHOG0 := HOG0.out.lt
 refine (markL_but R0 FG0 (1) _ _ HM0.out.1 HM0.out.2 HOG0.out.nd HOG0.out.own).mono ?_
 rintro e wn0 ⟨rfl, hown, hbut⟩
 have e0 := HL0.out; have e1 := HNl.out; have e2 := HNG.out
 skip
 replace HB := tuck (HB.out.but hbut (fun g hf => by have h1 := geHOG0 _ hf; have h2 := ltHOG0 _ hf; omega))
 replace HBW := tuck (HBW.out.but hbut (fun g hf => by have h1 := geHOG0 _ hf; have h2 := ltHOG0 _ hf; omega))
 replace HOG0 := tuck (HOG0.out.marked hown hbut.size)
 clear hbut hown geHOG0 ltHOG0
 clear e0 e1 e2
 go_wp2_with fail
 refine (heldL_any R0 0 (1) _ _ HM0.out.1 HM0.out.2 HOG0.out.sl).mono ?_
 rintro e wh0 ⟨rfl, hb⟩
 replace HB := tuck (HB.out.below hb)
 replace HBW := tuck (HBW.out.below hb)
 replace HOG0 := tuck (HOG0.out.below hb)
 clear hb
 go_wp2_with fail
 refine (HTOl.out _ (HSl.out.below HB.out.be)).mono ?_
 rintro e wcHl ⟨hb, uHla, uHlc, FUl, rfl, hsx, hnx, hFx⟩
 have HHl := tuck (hsx.df (B := 0) (fun _ _ => Nat.zero_le _) (fun g hg => (hFx g hg).2))
 replace HB := tuck (HB.out.below hb)
 replace HBW := tuck (HBW.out.below hb)
 replace HOG0 := tuck (HOG0.out.below hb)
 clear hb hsx hnx hFx
 go_wp2_with fail
 refine (HIM.out _ _ HHl.out).mono ?_
 rintro e wH ⟨hb, uHa0, uHc0, FH0, rfl, hw0, hnd, hF⟩
 have HHW0 := tuck (hw0.sl (B := 0) (fun _ _ => Nat.zero_le _))
 replace HB := tuck (HB.out.below hb)
 replace HBW := tuck (HBW.out.below hb)
 replace HOG0 := tuck (HOG0.out.below hb)
 clear hb hnd hF hw0
 clear HHl
 go_wp2_with fail
 refine (HEQR0.out _ _ _ (HHW0.out) (H8W0.out.below HBW.out.be)).mono ?_
 rintro e wF0 ⟨rfl, hb⟩
 replace HB := tuck (HB.out.below hb)
 replace HBW := tuck (HBW.out.below hb)
 replace HOG0 := tuck (HOG0.out.below hb)
 replace HHW0 := tuck (HHW0.out.below hb)
 clear hb
 go_wp2_with fail
 refine (heldL_any R0 0 (1) _ _ HM0.out.1 HM0.out.2 HOG0.out.sl).mono ?_
 rintro e wi0 ⟨rfl, hb⟩
 replace HB := tuck (HB.out.below hb)
 replace HBW := tuck (HBW.out.below hb)
 replace HOG0 := tuck (HOG0.out.below hb)
 clear hb
 go_wp2_with fail
 go_ret
 exact ⟨rfl, HB.out.be⟩
set_option maxRecDepth 100000 in
theorem lifted (os : Os) (started : os.Started) (H : Type) (enc : TypeId × Value → H) :
  ReturnsInHanded {} Try.checked os 6 .any (Rows.fnExactDefTypesSpec.pre6 enc Try.prog Try.f6 Rows.fnExactDefTypesRow.domain false) (Rows.fnExactDefTypesSpec.post enc Try.prog Try.f6 false true false false) := by
 refine returnsInHanded_of_change (C := Try.checked) own started (by kernel_rfl) Try.func6
  (ChangeSpec.witness6 (enc := enc) (C := Try.checked) false ⟨#[], #[.slice none 0 0], []⟩ 8 (by kernel_rfl) (by kernel_rfl) (by kernel_rfl) (by kernel_rfl)) ?_
 intro W base args ds gs before hval0 hW hcnd _
 have hval : ∀ (j : Nat) t v, Try.f6.params[j]? = some t → args[j]? = some v → Value.okWide Try.prog W .any base t v := hval0
 have hW' := hW
 obtain ⟨p, q, hA0, hV, rfl, hfz, hnd⟩ := hW
 have hA : DataW.TrodAll enc Try.prog W 0 (fun _ => true) true Try.f6.params.toList args.toList ds p := hA0
 rw [Try.params6] at hA hval
 obtain ⟨v0, vs0, d0, ds0, p0, q0, hargs, rfl, rfl, h0, r0⟩ := trodAll_cons hA
 obtain ⟨rfl, rfl, rfl⟩ := trodAll_nil r0
 obtain rfl : args = #[v0] := by cases args; simp_all
 obtain ⟨l0, hl0⟩ := open_defs (hval 0 37 v0 rfl rfl) h0
 refine (walk l0 W v0 hl0).mono fun e W' ⟨he, hb⟩ => ?_
 subst he
 exact ⟨_, rfl, law_post rfl rfl (fun gs h => by subst h; rfl) (by rw [Try.params6]; exact readable_FnExactDefTypes) laid hW' hb⟩
theorem over : Rows.fnExactDefTypesRow.holds Try.pinned (OpenSpec.ofChange Rows.fnExactDefTypesSpec) :=
 OpenClaim.holds_of_wide 6 Try.f6 rfl rfl rfl rfl rfl rfl rfl ⟨rfl, rfl, rfl, rfl, rfl⟩ rfl rfl rfl rfl rfl (by kernel_rfl) Try.func6 (by kernel_rfl)
  (of_decide_eq_true (by kernel_rfl)) (by unfold Func.isWrapper; first | (rw [if_pos (by decide +kernel)]; kernel_rfl) | (rw [if_neg (by decide +kernel)]; exact ⟨rfl, rfl⟩))
  (fun os started H enc _ => lifted os started H enc)
theorem proved : Rows.FnExactDefTypesSaid :=
 over
end Go.Proofs.Ytihlbbbajaepoaa.fnExactDefTypes
