/-
  The law FnNormalParts: whatever the bytes, a term is normal exactly if it is no redex and its operands are normal.
-/
import Derived.Test.YtmgoajgjpgamcaaB34
import Derived.Test.YtmgoajgjpgamcaaB43
import Derived.Test.YtmgoajgjpgamcaaB59
import Derived.IntWalk
namespace Go.Proofs.Ytmgoajgjpgamcaa.fnNormalParts
open Go.ChangeShapes Go.WideShapes Go.ChangeAt Go.RowKit Go.Deep
set_option linter.unusedVariables false
theorem readable_FnNormalParts : ∀ t ∈ (#[22] : Array TypeId).toList, Try.prog.readableRec t = true ∧ t < Try.prog.types.size := by
 intro t ht
 simp at ht
 subst ht
 exact ⟨by kernel_rfl, of_decide_eq_true (by kernel_rfl)⟩
theorem laid : laidOutB Try.prog = true := by kernel_rfl
set_option maxRecDepth 100000 in
set_option maxHeartbeats 1600000 in
theorem walk (U : Nat → Int) (a : Option Addr) (b o len cap : Nat) (w : World) (hlc : len ≤ cap) (hcm : cap ≤ maxLen) (hby : Bytes U a b o len w) : Calls Try.prog 6 #[.slice a len cap] w fun e w' => e = .returned (.bool true) ∧ Below w.heap.size w w' := by
 unfold maxLen at hcm
 by_cases hl : 1048576 < len
 ·have hl' : (1048576 : Int) < (len : Int) := by omega
  clear hby
  go_enter Try.func6, Try.ntmps6
  go_wp2
  go_ret
  exact ⟨rfl, Below.refl _ _⟩
 have hl' : ¬ (1048576 : Int) < (len : Int) := by omega
 have HD := tuck (dNormalTerm_any w (by omega) hlc hby)
 clear hby
 go_enter Try.func6, Try.ntmps6
 go_wp2_with fail
 refine HD.out.mono ?_
 rintro e w1 ⟨T, v, rfl, ⟨s, rfl, hin⟩, hsz, hb⟩
 obtain ⟨aV, cV, rfl⟩ := hin.form
 have V := tuck (TV.new (hin.mono (Nat.zero_le _)))
 have HB := tuck (bAfter hb (below1 w1 (.cells #[.int .i64 T.kind, .int .i64 T.num, .slice aV T.kids.length cV] 25)))
 have HSZ : Hid (sizes T.kids ≤ 1048576) := tuck (by have := T.size_eq; omega)
 clear hin hb HD hsz
 go_wp2_with fail
 generalize w1.alloc (.cells #[.int .i64 T.kind, .int .i64 T.num, .slice aV T.kids.length cV] 25) = U0 at *
 generalize w1.heap.size = gV at *
 obtain ⟨r, hr⟩ : ∃ r, normalOf T = r := ⟨_, rfl⟩
 have HCI : Hid (∀ (w : World) (v : Value), TmIn w 0 T v → Calls Try.prog 19 #[v] w (BoolPost w r)) := tuck fun w v h => by
  rw [← hr]; exact normalI_any T w v h
 have HCS : Hid (∀ (w : World) (v : Value), TmIn w 0 T v → Calls Try.prog 21 #[v] w (BoolPost w r)) := tuck fun w v h => by
  rw [← hr]; exact normalS_any T w v h
 have hrr : (r != r) = false := by simp
 have hre : (r == r) = true := by simp
 by_cases hv : T.Valid
 rotate_left
 ·skip
  have HVI : Hid (∀ (w : World) (v : Value), TmIn w 0 T v → Calls Try.prog 12 #[v] w (BoolPost w false)) := tuck fun w v h => by
   have h2 := validI_any T w v h; rwa [tr_not hv] at h2
  clear hv hr
  refine (HCI.out _ _ V.out.tm).mono ?_
  rintro e u21 ⟨rfl, hb⟩
  replace V := tuck (V.out.below hb)
  replace HB := tuck (bAfter HB.out hb)
  clear hb
  obtain ⟨zV, c0V, c1V, c2V, cfV⟩ := V.out.facts
  go_wp2_with fail
  refine (HCS.out _ _ V.out.tm).mono ?_
  rintro e u22 ⟨rfl, hb⟩
  clear zV c0V c1V c2V cfV
  replace V := tuck (V.out.below hb)
  replace HB := tuck (bAfter HB.out hb)
  clear hb
  obtain ⟨zV, c0V, c1V, c2V, cfV⟩ := V.out.facts
  go_wp2_with fail
  refine (HVI.out _ _ V.out.tm).mono ?_
  rintro e u23 ⟨rfl, hb⟩
  clear zV c0V c1V c2V cfV
  replace V := tuck (V.out.below hb)
  replace HB := tuck (bAfter HB.out hb)
  clear hb
  obtain ⟨zV, c0V, c1V, c2V, cfV⟩ := V.out.facts
  go_wp2_with fail
  refine (HCS.out _ _ V.out.tm).mono ?_
  rintro e u24 ⟨rfl, hb⟩
  clear zV c0V c1V c2V cfV
  replace V := tuck (V.out.below hb)
  replace HB := tuck (bAfter HB.out hb)
  clear hb
  obtain ⟨zV, c0V, c1V, c2V, cfV⟩ := V.out.facts
  go_wp2_with fail
  go_ret
  exact ⟨rfl, HB.out⟩
 have HVI : Hid (∀ (w : World) (v : Value), TmIn w 0 T v → Calls Try.prog 12 #[v] w (BoolPost w true)) := tuck fun w v h => by
  have h2 := validI_any T w v h; rwa [tr_of hv] at h2
 obtain ⟨c, hc⟩ : ∃ c, T.redex = c := ⟨_, rfl⟩
 have HRO : Hid (∀ (w : World) (v : Value), TmIn w 0 T v → Calls Try.prog 18 #[v] w (IntPost w c)) := tuck fun w v h => by
  have h2 := redexOfI_any T w v h; rwa [redexOf_valid hv, hc] at h2
 have HK : Hid (∀ (q : Nat) (h1 : q < T.kids.length) (w : World) (v : Value), TmIn w 0 T.kids[q] v → Calls Try.prog 19 #[v] w (BoolPost w T.kids[q].nf)) := tuck fun q h1 w v h => by
  have h2 := normalI_any _ w v h; rwa [normal_valid (kid_valid hv h1)] at h2
 have HRK : Hid (r = ((c == 0) && nfL T.kids)) := tuck (by rw [← hr, ← hc, normal_kids hv]; congr 1)
 clear hv hr hc
 refine (HCI.out _ _ V.out.tm).mono ?_
 rintro e u1 ⟨rfl, hb⟩
 replace V := tuck (V.out.below hb)
 replace HB := tuck (bAfter HB.out hb)
 clear hb
 obtain ⟨zV, c0V, c1V, c2V, cfV⟩ := V.out.facts
 go_wp2_with fail
 refine (HCS.out _ _ V.out.tm).mono ?_
 rintro e u2 ⟨rfl, hb⟩
 clear zV c0V c1V c2V cfV
 replace V := tuck (V.out.below hb)
 replace HB := tuck (bAfter HB.out hb)
 clear hb
 obtain ⟨zV, c0V, c1V, c2V, cfV⟩ := V.out.facts
 go_wp2_with fail
 refine (HVI.out _ _ V.out.tm).mono ?_
 rintro e u3 ⟨rfl, hb⟩
 clear zV c0V c1V c2V cfV
 replace V := tuck (V.out.below hb)
 replace HB := tuck (bAfter HB.out hb)
 clear hb
 obtain ⟨zV, c0V, c1V, c2V, cfV⟩ := V.out.facts
 go_wp2_with fail
 refine (HRO.out _ _ V.out.tm).mono ?_
 rintro e u4 ⟨rfl, hb⟩
 clear zV c0V c1V c2V cfV
 replace V := tuck (V.out.below hb)
 replace HB := tuck (bAfter HB.out hb)
 clear hb
 obtain ⟨zV, c0V, c1V, c2V, cfV⟩ := V.out.facts
 go_wp2_with fail
 clear zV c0V c1V c2V cfV
 go_loopw [5, 6] (fun sm i wr => ∃ (q : Nat) (m : Bool), q ≤ T.kids.length ∧ i = .int .i64 q ∧ sm = .bool m ∧ m = ((c == 0) && nfL (T.kids.take q)) ∧ Below u4.heap.size u4 wr) (fun _ i _ => T.kids.length - (intOf i).toNat)
 case atStart => exact ⟨0, _, Nat.zero_le _, rfl, rfl, by rw [List.take_zero, nfL, Bool.and_true], Below.refl _ _⟩
 case round =>
  obtain ⟨q, m, hq, rfl, rfl, hm, hb⟩ := hrel
  have VR := tuck (V.out.below hb)
  have HBW := tuck hb
  have HM := tuck hm
  clear hb hm
  obtain ⟨z, c0, c1, c2, cf⟩ := VR.out.facts
  by_cases hlt : q < T.kids.length
  rotate_left
  ·have hlti : ¬ ((q : Int) < (T.kids.length : Int)) := by omega
   have hqe : q = T.kids.length := by omega
   have hsum : r = m := by rw [HM.out, hqe, List.take_length]; exact HRK.out
   have HBR := tuck (bAfter HB.out HBW.out)
   have g1 : (r == m) = true := by rw [beq_iff_eq]; exact hsum
   clear hsum
   go_wp2_with fail
   go_ret
   exact ⟨rfl, HBR.out⟩
  have hlti : ((q : Int) < (T.kids.length : Int)) := by omega
  obtain ⟨x1, x2, b1, o1, e1, hl1, hp1, hc1⟩ := VR.out.sl.open
  injection e1 with e11 e12 e13
  subst e11 e13
  obtain ⟨rfl, -, hbw1⟩ := hp1 (by intro e; rw [e] at hlt; simp at hlt)
  obtain ⟨s, k0, k1, k2, hs⟩ := hc1 q hlt
  have HS := tuck hs
  have hlm : T.kids.length ≤ 9223372036854775807 := by unfold maxLen at hl1; omega
  clear hs hc1 hp1 e12 hl1
  have HTQ := tuck (HK.out q hlt)
  have HX : Hid (((c == 0) && nfL (T.kids.take (q + 1))) = (m && T.kids[q].nf)) := tuck (by rw [nfL_take hlt, HM.out, Bool.and_assoc])
  generalize T.kids[q] = xk at *
  obtain ⟨xr, hxr⟩ : ∃ xr, xk.nf = xr := ⟨_, rfl⟩
  rw [hxr] at HTQ HX
  clear hxr HK
  cases m
  ·go_wp2_with fail
   go_roundw
   case rel => exact ⟨q + 1, _, by omega, by go_num, rfl, by rw [HX.out]; rfl, HBW.out⟩
   case measure => simp [intOf]; omega
  go_wp2_with fail
  refine (HTQ.out _ _ ⟨s, rfl, HS.out⟩).mono ?_
  rintro e w' ⟨rfl, hb'⟩
  have HB' := tuck hb'
  clear hb'
  go_wp2_with fail
  go_roundw
  case rel => exact ⟨q + 1, _, by omega, by go_num, rfl, by rw [HX.out, Bool.true_and], HBW.out.trans (HB'.out.mono HBW.out.size)⟩
  case measure => simp [intOf]; omega
set_option maxRecDepth 100000 in
theorem lifted (os : Os) (started : os.Started) (H : Type) (enc : TypeId × Value → H) :
  ReturnsInHanded {} Try.checked os 6 .any (Rows.fnNormalPartsSpec.pre6 enc Try.prog Try.f6 Rows.fnNormalPartsRow.domain false) (Rows.fnNormalPartsSpec.post enc Try.prog Try.f6 false true false false) := by
 refine returnsInHanded_of_change (C := Try.checked) own started (by kernel_rfl) Try.func6
  (ChangeSpec.witness6 (enc := enc) (C := Try.checked) false ⟨#[], #[.slice none 0 0], []⟩ 8 (by kernel_rfl) (by kernel_rfl) (by kernel_rfl) (by kernel_rfl)) ?_
 intro W base args ds gs before hval0 hW hcnd _
 have hval : ∀ (j : Nat) t v, Try.f6.params[j]? = some t → args[j]? = some v → Value.okWide Try.prog W .any base t v := hval0
 have hW' := hW
 obtain ⟨p, q, hA0, hV, rfl, hfz, hnd⟩ := hW
 have hA : DataW.TrodAll enc Try.prog W 0 (fun _ => true) true Try.f6.params.toList args.toList ds p := hA0
 rw [Try.params6] at hA hval
 obtain ⟨v0, vs0, d0, ds0, p0, q0, hargs, rfl, rfl, h0, r0⟩ := trodAll_cons hA
 obtain ⟨rfl, rfl, rfl⟩ := trodAll_nil r0
 obtain rfl : args = #[v0] := by cases args; simp_all
 obtain ⟨U0, ad0, bb0, oo0, len0, cap0, rfl, hlc0, hcm0, hbl0, hby0⟩ := open_bytes (hval 0 22 v0 rfl rfl) h0
 refine (walk U0 ad0 bb0 oo0 len0 cap0 W hlc0 hcm0 hby0).mono fun e W' ⟨he, hb⟩ => ?_
 subst he
 exact ⟨_, rfl, law_post rfl rfl (fun gs h => by subst h; rfl) (by rw [Try.params6]; exact readable_FnNormalParts) laid hW' hb⟩
theorem over : Rows.fnNormalPartsRow.holds Try.pinned (OpenSpec.ofChange Rows.fnNormalPartsSpec) :=
 OpenClaim.holds_of_wide 6 Try.f6 rfl rfl rfl rfl rfl rfl rfl ⟨rfl, rfl, rfl, rfl, rfl⟩ rfl rfl rfl rfl rfl (by kernel_rfl) Try.func6 (by kernel_rfl)
  (of_decide_eq_true (by kernel_rfl)) (by unfold Func.isWrapper; first | (rw [if_pos (by decide +kernel)]; kernel_rfl) | (rw [if_neg (by decide +kernel)]; exact ⟨rfl, rfl⟩))
  (fun os started H enc _ => lifted os started H enc)
theorem proved : Rows.FnNormalPartsSaid :=
 over
end Go.Proofs.Ytmgoajgjpgamcaa.fnNormalParts
