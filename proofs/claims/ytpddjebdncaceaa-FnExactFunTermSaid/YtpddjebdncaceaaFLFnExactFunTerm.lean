/-
  The law FnExactFunTerm: for every number, FunTerm answers as its model, and its answer is memory of its own.
-/
import Derived.Test.YtpddjebdncaceaaF02
import Derived.Test.YtpddjebdncaceaaF03
import Derived.Test.YtpddjebdncaceaaF04
import Derived.Test.YtpddjebdncaceaaF07
import Derived.Test.YtpddjebdncaceaaF08
import Derived.Test.YtpddjebdncaceaaF09
import Derived.Test.YtpddjebdncaceaaF10
import Derived.Test.YtpddjebdncaceaaF11
import Derived.Test.YtpddjebdncaceaaF12
import Derived.Test.YtpddjebdncaceaaF42
import Derived.Deep.DeepCutAuto
import Derived.Deep.RegionHeld3
import Derived.IntWalk
import Derived.RowKit
namespace Go.Proofs.Ytpddjebdncaceaa.fnExactFunTerm
open Go.ChangeShapes Go.WideShapes Go.ChangeAt Go.RowKit Go.Deep
set_option linter.unusedVariables false
theorem readable_FnExactFunTerm : ∀ t ∈ (#[3] : Array TypeId).toList, Try.prog.readableRec t = true ∧ t < Try.prog.types.size := by
 intro t ht
 simp at ht
 subst ht
 all_goals exact ⟨by kernel_rfl, of_decide_eq_true (by kernel_rfl)⟩
theorem laid : laidOutB Try.prog = true := by kernel_rfl
set_option maxRecDepth 100000 in
set_option maxHeartbeats 4000000 in
/-- The walk. -/
theorem walk (f : Int) (w : World) : Calls Try.prog 3 #[.int .i64 f] w fun e w' => e = .returned (.bool true) ∧ Below w.heap.size w w' := by
 skip
 obtain ⟨R0, hR0⟩ : ∃ R : Tm, R = (parsed (nfT f)).getD zeroT := ⟨_, rfl⟩
 obtain ⟨R1, hR1⟩ : ∃ R : Bool, R = (parsed (nfT f)).isSome := ⟨_, rfl⟩
 have HSP : Hid (∀ (w : World), Calls Try.prog 4 #[.int .i64 f] w (fun e w' => Below w.heap.size w w' ∧ ∃ (a0 : Option Addr) (c0 : Nat), e = .returned (.tuple #[.agg #[.int .i64 R0.kind, .int .i64 R0.num, .slice a0 R0.kids.length c0], .bool R1]) ∧ SlIn w' w.heap.size R0.kids (.slice a0 R0.kids.length c0))) := fun w => by subst hR0; subst hR1; exact funTermS_any f w
 have HIM : Hid (∀ (w : World), Calls Try.prog 5 #[.int .i64 f] w (fun e w' => Below w.heap.size w w' ∧ ∃ (a0 : Option Addr) (c0 : Nat) (F0 : List Nat), e = .returned (.tuple #[.agg #[.int .i64 R0.kind, .int .i64 R0.num, .slice a0 R0.kids.length c0], .bool R1]) ∧ SlOwn w' R0.kids (.slice a0 R0.kids.length c0) F0 ∧ (F0).Nodup ∧ ∀ g ∈ F0, w.heap.size ≤ g ∧ g < w'.heap.size)) := fun w => by subst hR0; subst hR1; exact funTermI_any f w
 have hszR0 : sizes R0.kids ≤ 1000000 := by subst hR0; subst hR1; exact parsed_size (nfT f)
 clear hR0 hR1
 have HEQR0 : Hid (∀ (w : World) (v1 v2 : Value), TmIn w 0 R0 v1 → TmIn w 0 R0 v2 → Calls Try.prog 6 #[v1, v2] w (EqPost w true)) := fun w v1 v2 h1 h2 => by have := eqT_any R0 R0 w v1 v2 h1 h2; rwa [same_self] at this
 have hrr1 : (R1 != R1) = false := by simp
 have hm0 : (0 : Int) ≤ 1 ∧ (1 : Int) + 2 * (sizes R0.kids : Int) ≤ 4611686018427387904 := by omega
 have HM0 := tuck hm0
 have hmn0 : ¬ ((1 : Int) + 2 * (sizes R0.kids : Int)) < 0 := by omega
 clear hszR0 hm0
 go_enter Try.func3, Try.ntmps3
 have HB : Hid (Bel w w) := tuck ⟨Below.refl _ _⟩
 go_wp2_with fail
 refine (HSP.out _  ).mono ?_
 rintro e w8 ⟨hb, u8a0, u8c0, rfl, hw0⟩
 have H8W0 := tuck (hw0.mono (B' := 0) (Nat.zero_le _))
 replace HB := tuck (HB.out.below hb)
 clear hb hw0
 go_wp2_with fail
 have hbx := below1 w8 (.cells #[.int .i64 R0.kind, .int .i64 R0.num, .slice u8a0 R0.kids.length u8c0] 24)
 have V8 := tuck (VarAt.new w8 R0.kind R0.num (.slice u8a0 R0.kids.length u8c0))
 have hzz : w8.heap.size < (w8.alloc (.cells #[.int .i64 R0.kind, .int .i64 R0.num, .slice u8a0 R0.kids.length u8c0] 24)).heap.size := by simp
 replace HB := tuck (HB.out.below hbx)
 replace H8W0 := tuck (H8W0.out.below hbx)
 clear hbx
 generalize w8.alloc (.cells #[.int .i64 R0.kind, .int .i64 R0.num, .slice u8a0 R0.kids.length u8c0] 24) = W8 at *
 generalize w8.heap.size = g8 at *
 have HZ8 := tuck hzz
 clear hzz
 have HBW : Hid (Bel W8 W8) := tuck ⟨Below.refl _ _⟩
 have HL0 : Hid (w.heap.size ≤ W8.heap.size) := tuck HB.out.be.size
 have HL8 : Hid (g8 < W8.heap.size) := tuck V8.out.facts.1
 refine (HIM.out _  ).mono ?_
 rintro e wG ⟨hb, Ga0, Gc0, FG0, rfl, hw0, hnd, hF⟩
 have HOG0 := tuck (OwnB.of hw0 hnd hF)
 have HNG := tuck hb.size
 replace HB := tuck (HB.out.below hb)
 replace V8 := tuck (V8.out.below hb)
 replace HBW := tuck (HBW.out.below hb)
 clear hb hnd hF hw0
 obtain ⟨z8, b0, b1, b2, bf⟩ := V8.out.facts
 go_wp2_with fail
 clear z8 b0 b1 b2 bf
 have hbx := below1 wG (.cells #[.int .i64 R0.kind, .int .i64 R0.num, .slice Ga0 R0.kids.length Gc0] 24)
 have VG := tuck (VarAt.new wG R0.kind R0.num (.slice Ga0 R0.kids.length Gc0))
 have hzz : wG.heap.size < (wG.alloc (.cells #[.int .i64 R0.kind, .int .i64 R0.num, .slice Ga0 R0.kids.length Gc0] 24)).heap.size := by simp
 replace HB := tuck (HB.out.below hbx)
 replace V8 := tuck (V8.out.below hbx)
 replace HBW := tuck (HBW.out.below hbx)
 replace HOG0 := tuck (HOG0.out.below hbx)
 clear hbx
 generalize wG.alloc (.cells #[.int .i64 R0.kind, .int .i64 R0.num, .slice Ga0 R0.kids.length Gc0] 24) = WG at *
 generalize wG.heap.size = gG at *
 have HZG := tuck hzz
 clear hzz
 refine (HEQR0.out _ _ _ ⟨_, rfl, HOG0.out.sl⟩ ⟨_, rfl, H8W0.out.below HBW.out.be⟩).mono ?_
 rintro e wE0 ⟨rfl, hb⟩
 replace HB := tuck (HB.out.below hb)
 replace V8 := tuck (V8.out.below hb)
 replace HBW := tuck (HBW.out.below hb)
 replace HOG0 := tuck (HOG0.out.below hb)
 replace VG := tuck (VG.out.below hb)
 clear hb
 obtain ⟨z8, b0, b1, b2, bf⟩ := V8.out.facts
 obtain ⟨z11, d0, d1, d2, df⟩ := VG.out.facts
 go_wp2_with fail
 clear z8 b0 b1 b2 bf z11 d0 d1 d2 df
 have geHOG0 := HOG0.out.ge
 have ltHOG0 := HOG0.out.lt
 refine (markT_any R0 FG0 (1) _ _ HM0.out.1 HM0.out.2 HOG0.out.nd HOG0.out.lts HOG0.out.own).mono ?_
 rintro e wn0 ⟨rfl, hown, hbut⟩
 have e0 := HL0.out; have e1 := HL8.out; have e2 := HNG.out; have e3 := HZG.out
 skip
 replace HB := tuck (HB.out.but hbut (fun g hf => by have h1 := geHOG0 _ hf; have h2 := ltHOG0 _ hf; omega))
 replace V8 := tuck (V8.out.but hbut (fun hf => by have h1 := geHOG0 _ hf; have h2 := ltHOG0 _ hf; omega))
 replace HBW := tuck (HBW.out.but hbut (fun g hf => by have h1 := geHOG0 _ hf; have h2 := ltHOG0 _ hf; omega))
 replace VG := tuck (VG.out.but hbut (fun hf => by have h1 := geHOG0 _ hf; have h2 := ltHOG0 _ hf; omega))
 replace HOG0 := tuck (HOG0.out.marked hown hbut.size)
 clear hbut hown geHOG0 ltHOG0
 clear e0 e1 e2 e3
 obtain ⟨z8, b0, b1, b2, bf⟩ := V8.out.facts
 obtain ⟨z11, d0, d1, d2, df⟩ := VG.out.facts
 go_wp2_with fail
 clear z8 b0 b1 b2 bf z11 d0 d1 d2 df
 refine (heldT_any R0 R0.kids 0 (1) _ _ HM0.out.1 HM0.out.2 HOG0.out.sl).mono ?_
 rintro e wh0 ⟨rfl, hb⟩
 replace HB := tuck (HB.out.below hb)
 replace V8 := tuck (V8.out.below hb)
 replace HBW := tuck (HBW.out.below hb)
 replace HOG0 := tuck (HOG0.out.below hb)
 replace VG := tuck (VG.out.below hb)
 clear hb
 obtain ⟨z8, b0, b1, b2, bf⟩ := V8.out.facts
 obtain ⟨z11, d0, d1, d2, df⟩ := VG.out.facts
 go_wp2_with fail
 clear z8 b0 b1 b2 bf z11 d0 d1 d2 df
 refine (HIM.out _  ).mono ?_
 rintro e wH ⟨hb, uHa0, uHc0, FH0, rfl, hw0, hnd, hF⟩
 have HHW0 := tuck (hw0.sl (B := 0) (fun _ _ => Nat.zero_le _))
 replace HB := tuck (HB.out.below hb)
 replace V8 := tuck (V8.out.below hb)
 replace HBW := tuck (HBW.out.below hb)
 replace HOG0 := tuck (HOG0.out.below hb)
 replace VG := tuck (VG.out.below hb)
 clear hb hnd hF hw0
 obtain ⟨z8, b0, b1, b2, bf⟩ := V8.out.facts
 obtain ⟨z11, d0, d1, d2, df⟩ := VG.out.facts
 go_wp2_with fail
 clear z8 b0 b1 b2 bf z11 d0 d1 d2 df
 have hbx := below1 wH (.cells #[.int .i64 R0.kind, .int .i64 R0.num, .slice uHa0 R0.kids.length uHc0] 24)
 have VH := tuck (VarAt.new wH R0.kind R0.num (.slice uHa0 R0.kids.length uHc0))
 have hzz : wH.heap.size < (wH.alloc (.cells #[.int .i64 R0.kind, .int .i64 R0.num, .slice uHa0 R0.kids.length uHc0] 24)).heap.size := by simp
 replace HB := tuck (HB.out.below hbx)
 replace V8 := tuck (V8.out.below hbx)
 replace HBW := tuck (HBW.out.below hbx)
 replace HOG0 := tuck (HOG0.out.below hbx)
 replace VG := tuck (VG.out.below hbx)
 replace HHW0 := tuck (HHW0.out.below hbx)
 clear hbx
 generalize wH.alloc (.cells #[.int .i64 R0.kind, .int .i64 R0.num, .slice uHa0 R0.kids.length uHc0] 24) = WH at *
 generalize wH.heap.size = gH at *
 have HZH := tuck hzz
 clear hzz
 refine (HEQR0.out _ _ _ ⟨_, rfl, HHW0.out⟩ ⟨_, rfl, H8W0.out.below HBW.out.be⟩).mono ?_
 rintro e wF0 ⟨rfl, hb⟩
 replace HB := tuck (HB.out.below hb)
 replace V8 := tuck (V8.out.below hb)
 replace HBW := tuck (HBW.out.below hb)
 replace HOG0 := tuck (HOG0.out.below hb)
 replace VG := tuck (VG.out.below hb)
 replace VH := tuck (VH.out.below hb)
 replace HHW0 := tuck (HHW0.out.below hb)
 clear hb
 obtain ⟨z8, b0, b1, b2, bf⟩ := V8.out.facts
 obtain ⟨z11, d0, d1, d2, df⟩ := VG.out.facts
 obtain ⟨zh, y0, y1, y2, yf⟩ := VH.out.facts
 go_wp2_with fail
 clear z8 b0 b1 b2 bf z11 d0 d1 d2 df zh y0 y1 y2 yf
 refine (heldT_any R0 R0.kids 0 (1) _ _ HM0.out.1 HM0.out.2 HOG0.out.sl).mono ?_
 rintro e wi0 ⟨rfl, hb⟩
 replace HB := tuck (HB.out.below hb)
 replace V8 := tuck (V8.out.below hb)
 replace HBW := tuck (HBW.out.below hb)
 replace HOG0 := tuck (HOG0.out.below hb)
 replace VG := tuck (VG.out.below hb)
 replace VH := tuck (VH.out.below hb)
 clear hb
 go_wp2_with fail
 go_ret
 exact ⟨rfl, HB.out.be⟩
set_option maxRecDepth 100000 in
theorem lifted (os : Os) (started : os.Started) (H : Type) (enc : TypeId × Value → H) :
  ReturnsInHanded {} Try.checked os 3 .any (Rows.fnExactFunTermSpec.pre6 enc Try.prog Try.f3 Rows.fnExactFunTermRow.domain false) (Rows.fnExactFunTermSpec.post enc Try.prog Try.f3 false true false false) := by
 refine returnsInHanded_of_change (C := Try.checked) own started (by kernel_rfl) Try.func3
  (ChangeSpec.witness6 (enc := enc) (C := Try.checked) false ⟨#[], #[.int .i64 0], []⟩ 8 (by kernel_rfl) (by kernel_rfl) (by kernel_rfl) (by kernel_rfl)) ?_
 intro W base args ds gs before hval0 hW hcnd _
 have hval : ∀ (j : Nat) t v, Try.f3.params[j]? = some t → args[j]? = some v → Value.okWide Try.prog W .any base t v := hval0
 have hW' := hW
 obtain ⟨p, q, hA0, hV, rfl, hfz, hnd⟩ := hW
 have hA : DataW.TrodAll enc Try.prog W 0 (fun _ => true) true Try.f3.params.toList args.toList ds p := hA0
 rw [Try.params3] at hA hval
 obtain ⟨v0, vs0, d0, ds0, p0, q0, hargs, rfl, rfl, h0, r0⟩ := trodAll_cons hA
 obtain ⟨rfl, rfl, rfl⟩ := trodAll_nil r0
 obtain rfl : args = #[v0] := by cases args; simp_all
 obtain ⟨a0, rfl, rfl, rfl, wf0⟩ := open_int Try.underlying3 (hval 0 3 v0 rfl rfl) h0
 refine (walk a0 W).mono fun e W' ⟨he, hb⟩ => ?_
 subst he
 exact ⟨_, rfl, law_post rfl rfl (fun gs h => by subst h; rfl) (by rw [Try.params3]; exact readable_FnExactFunTerm) laid hW' hb⟩
theorem over : Rows.fnExactFunTermRow.holds Try.pinned (OpenSpec.ofChange Rows.fnExactFunTermSpec) :=
 OpenClaim.holds_of_wide 3 Try.f3 rfl rfl rfl rfl rfl rfl rfl ⟨rfl, rfl, rfl, rfl, rfl⟩ rfl rfl rfl rfl rfl (by kernel_rfl) Try.func3 (by kernel_rfl)
  (of_decide_eq_true (by kernel_rfl)) (by unfold Func.isWrapper; first | (rw [if_pos (by decide +kernel)]; kernel_rfl) | (rw [if_neg (by decide +kernel)]; exact ⟨rfl, rfl⟩))
  (fun os started H enc _ => lifted os started H enc)
theorem proved : Rows.FnExactFunTermSaid :=
 over
end Go.Proofs.Ytpddjebdncaceaa.fnExactFunTerm
