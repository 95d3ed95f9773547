/-
  The law FnTraceEnd: whatever the bytes, a trace that ends before its limit ends at a term that takes no step, and has as many steps as ReduceSteps counts.
-/
import Derived.Test.YtlbikgnanabjgaaGreatQ46
import Derived.Test.YtlbikgnanabjgaaGreatQ51
import Derived.Test.YtlbikgnanabjgaaGreatQ53
import Derived.Test.YtlbikgnanabjgaaGreatQ54
import Derived.IntWalk
namespace Go.Proofs.YtlbikgnanabjgaaGreat.fnTraceEnd
open Go.ChangeShapes Go.WideShapes Go.ChangeAt Go.RowKit Go.Deep
set_option linter.unusedVariables false
theorem readable_FnTraceEnd : ∀ t ∈ (#[22] : Array TypeId).toList, Tryz.prog.readableRec t = true ∧ t < Tryz.prog.types.size := by
 intro t ht
 simp at ht
 subst ht
 exact ⟨by kernel_rfl, of_decide_eq_true (by kernel_rfl)⟩
theorem laid : laidOutB Tryz.prog = true := by kernel_rfl
set_option maxRecDepth 100000 in
set_option maxHeartbeats 6000000 in
theorem walk (U : Nat → Int) (a : Option Addr) (b o len cap : Nat) (w : World) (hlc : len ≤ cap) (hcm : cap ≤ maxLen) (hby : Bytes U a b o len w) : Calls Tryz.prog 4 #[.slice a len cap] w fun e w' => e = .returned (.bool true) ∧ Below w.heap.size w w' := by
 unfold maxLen at hcm
 by_cases hl : 1048576 < len
 ·have hl' : (1048576 : Int) < (len : Int) := by omega
  clear hby
  go_enter Tryz.func4, Tryz.ntmps4
  go_wp2
  go_ret
  exact ⟨rfl, Below.refl _ _⟩
 have hl' : ¬ (1048576 : Int) < (len : Int) := by omega
 have HD := tuck (dTraceTerm_any w (by omega) hlc hby)
 clear hby
 go_enter Tryz.func4, Tryz.ntmps4
 go_wp2_with fail
 refine HD.out.mono ?_
 rintro e w1 ⟨T, v, rfl, ⟨s, rfl, hin⟩, hsz, hb⟩
 obtain ⟨aV, cV, rfl⟩ := hin.form
 have V := tuck (TV.new (hin.mono (Nat.zero_le _)))
 have HB := tuck (bAfter hb (below1 w1 (.cells #[.int .i64 T.kind, .int .i64 T.num, .slice aV T.kids.length cV] 25)))
 have HSZ : Hid (sizes T.kids ≤ 1048576) := tuck (by have := T.size_eq; omega)
 clear hin hb HD hsz
 go_wp2_with fail
 generalize w1.alloc (.cells #[.int .i64 T.kind, .int .i64 T.num, .slice aV T.kids.length cV] 25) = U0 at *
 generalize w1.heap.size = gV at *
 obtain ⟨L, hL⟩ : ∃ L, L = traceL T := ⟨_, rfl⟩
 have HTI : Hid (∀ (w : World) (v : Value), TmIn w 0 T v → Calls Tryz.prog 6 #[v] w (fun e w' => Below w.heap.size w w' ∧ ∃ (aL : Option Addr) (cL : Nat), e = .returned (.slice aL L.length cL) ∧ SlIn w' 0 L (.slice aL L.length cL))) := fun w v h => (traceI_any T w v h).mono fun e w' h1 => by obtain ⟨hb, a, c, F, rfl, hs, -, -⟩ := h1; rw [← hL] at hs ⊢; exact ⟨hb, a, c, rfl, hs.sl fun g _ => Nat.zero_le g⟩
 have HTS : Hid (∀ (w : World) (v : Value), TmIn w 0 T v → Calls Tryz.prog 7 #[v] w (fun e w' => Below w.heap.size w w' ∧ ∃ (aL : Option Addr) (cL : Nat), e = .returned (.slice aL L.length cL) ∧ SlIn w' 0 L (.slice aL L.length cL))) := fun w v h => (traceS_any T w v h).mono fun e w' h1 => by obtain ⟨hb, a, c, rfl, hs⟩ := h1; rw [← hL] at hs ⊢; exact ⟨hb, a, c, rfl, hs.mono (Nat.zero_le _)⟩
 have hall : ∀ x ∈ L, x.Valid := by
  intro x hx
  rw [hL] at hx
  by_cases hv : T.Valid
  ·rw [traceL_yes hv] at hx; exact traceN_all 11 T hv x hx
  ·rw [traceL_no hv] at hx; cases hx
 have HDK : Hid (∀ (w : World) (v1 v2 : Value), SlIn w 0 L v1 → SlIn w 0 L v2 → Calls Tryz.prog 11 #[v1, v2] w (BoolPost w true)) := fun w v1 v2 h1 h2 => dkTerms_any L hall w v1 v2 h1 h2
 have hend : (L.length = 0 ∨ L.length = 12) ∨ ∃ (q : Nat) (x : Tm), L.length = q + 1 ∧ q < 11 ∧ L[q]? = some x ∧ (stepOut false false x).2 ≠ 1 ∧ NormOk T 200 ∧ (normC false false T 200 = 0 → redN T 200 = (q : Int)) := by
  by_cases hv : T.Valid
  ·have h1 := traceN_len 11 T
   rw [traceL_yes hv] at hL
   rw [← hL] at h1
   by_cases h12 : L.length = 12
   ·exact Or.inl (Or.inr h12)
   ·refine Or.inr ⟨L.length - 1, L[L.length - 1]'(by omega), by omega, by omega, List.getElem?_eq_getElem _, ?_, ?_, ?_⟩
    ·exact traceN_last 11 T _ (by rw [← hL]; omega) (by rw [← hL]; exact List.getElem?_eq_getElem _)
    ·exact ⟨hv, by decide, by decide⟩
    ·intro hc
     have hok : NormOk T 200 := ⟨hv, by decide, by decide⟩
     rw [normC_ok hok] at hc
     have h2 := traceN_runs 11 (200 : Int).toNat T hv (by rw [← hL]; omega) hc
     rw [← hL] at h2
     unfold redN
     rw [if_pos hok]
     omega
  ·exact Or.inl (Or.inl (by rw [hL, traceL_no hv]; rfl))
 clear hL hall
 rcases hend with hend | ⟨q, x, hq, hq11, hx, hk, hok, hr⟩
 ·skip
  have hz0 : (((L.length : Int) == 0) || ((L.length : Int) == 12)) = true := by rcases hend with h | h <;> rw [h] <;> rfl
  rcases hend with hend | hend
  ·skip
   have e0 : ((L.length : Int) == 0) = true := by rw [hend]; rfl
   have e12 : ((L.length : Int) == 12) = false := by rw [hend]; rfl
   clear hend hz0
   refine (HTI.out _ _ V.out.tm).mono ?_
   rintro e u41 ⟨hb, aSL, cSL, rfl, hin⟩
   replace V := tuck (V.out.below hb)
   replace HB := tuck (bAfter HB.out hb)
   have SL := tuck hin
   clear hb hin
   obtain ⟨zV, c0V, c1V, c2V, cfV⟩ := V.out.facts
   go_wp2_with fail
   refine (HTS.out _ _ V.out.tm).mono ?_
   rintro e u42 ⟨hb, aSW, cSW, rfl, hin⟩
   clear zV c0V c1V c2V cfV
   replace V := tuck (V.out.below hb)
   replace SL := tuck (SL.out.below hb)
   replace HB := tuck (bAfter HB.out hb)
   have SW := tuck hin
   clear hb hin
   obtain ⟨zV, c0V, c1V, c2V, cfV⟩ := V.out.facts
   go_wp2_with fail
   refine (HDK.out _ _ _ SL.out SW.out).mono ?_
   rintro e u43 ⟨rfl, hb⟩
   clear zV c0V c1V c2V cfV
   replace V := tuck (V.out.below hb)
   replace SL := tuck (SL.out.below hb)
   replace SW := tuck (SW.out.below hb)
   replace HB := tuck (bAfter HB.out hb)
   clear hb
   obtain ⟨zV, c0V, c1V, c2V, cfV⟩ := V.out.facts
   go_wp2_with fail
   refine (HTS.out _ _ V.out.tm).mono ?_
   rintro e u44 ⟨hb, aSX, cSX, rfl, hin⟩
   clear zV c0V c1V c2V cfV
   replace V := tuck (V.out.below hb)
   replace SL := tuck (SL.out.below hb)
   replace HB := tuck (bAfter HB.out hb)
   have SX := tuck hin
   clear hb hin
   obtain ⟨zV, c0V, c1V, c2V, cfV⟩ := V.out.facts
   go_wp2_with fail
   refine (HDK.out _ _ _ SL.out SX.out).mono ?_
   rintro e u45 ⟨rfl, hb⟩
   clear zV c0V c1V c2V cfV
   replace V := tuck (V.out.below hb)
   replace SL := tuck (SL.out.below hb)
   replace SX := tuck (SX.out.below hb)
   replace HB := tuck (bAfter HB.out hb)
   clear hb
   obtain ⟨zV, c0V, c1V, c2V, cfV⟩ := V.out.facts
   go_wp2_with fail
   go_ret
   exact ⟨rfl, HB.out⟩
  ·skip
   have e0 : ((L.length : Int) == 0) = false := by rw [hend]; rfl
   have e12 : ((L.length : Int) == 12) = true := by rw [hend]; rfl
   clear hend hz0
   refine (HTI.out _ _ V.out.tm).mono ?_
   rintro e u41 ⟨hb, aSL, cSL, rfl, hin⟩
   replace V := tuck (V.out.below hb)
   replace HB := tuck (bAfter HB.out hb)
   have SL := tuck hin
   clear hb hin
   obtain ⟨zV, c0V, c1V, c2V, cfV⟩ := V.out.facts
   go_wp2_with fail
   refine (HTS.out _ _ V.out.tm).mono ?_
   rintro e u42 ⟨hb, aSW, cSW, rfl, hin⟩
   clear zV c0V c1V c2V cfV
   replace V := tuck (V.out.below hb)
   replace SL := tuck (SL.out.below hb)
   replace HB := tuck (bAfter HB.out hb)
   have SW := tuck hin
   clear hb hin
   obtain ⟨zV, c0V, c1V, c2V, cfV⟩ := V.out.facts
   go_wp2_with fail
   refine (HDK.out _ _ _ SL.out SW.out).mono ?_
   rintro e u43 ⟨rfl, hb⟩
   clear zV c0V c1V c2V cfV
   replace V := tuck (V.out.below hb)
   replace SL := tuck (SL.out.below hb)
   replace SW := tuck (SW.out.below hb)
   replace HB := tuck (bAfter HB.out hb)
   clear hb
   obtain ⟨zV, c0V, c1V, c2V, cfV⟩ := V.out.facts
   go_wp2_with fail
   refine (HTS.out _ _ V.out.tm).mono ?_
   rintro e u44 ⟨hb, aSX, cSX, rfl, hin⟩
   clear zV c0V c1V c2V cfV
   replace V := tuck (V.out.below hb)
   replace SL := tuck (SL.out.below hb)
   replace HB := tuck (bAfter HB.out hb)
   have SX := tuck hin
   clear hb hin
   obtain ⟨zV, c0V, c1V, c2V, cfV⟩ := V.out.facts
   go_wp2_with fail
   refine (HDK.out _ _ _ SL.out SX.out).mono ?_
   rintro e u45 ⟨rfl, hb⟩
   clear zV c0V c1V c2V cfV
   replace V := tuck (V.out.below hb)
   replace SL := tuck (SL.out.below hb)
   replace SX := tuck (SX.out.below hb)
   replace HB := tuck (bAfter HB.out hb)
   clear hb
   obtain ⟨zV, c0V, c1V, c2V, cfV⟩ := V.out.facts
   go_wp2_with fail
   go_ret
   exact ⟨rfl, HB.out⟩
 ·skip
  have e0 : ((L.length : Int) == 0) = false := by rw [hq, beq_eq_false_iff_ne]; omega
  have e12 : ((L.length : Int) == 12) = false := by rw [hq, beq_eq_false_iff_ne]; omega
  obtain ⟨k, hkk⟩ : ∃ k, k = (stepOut false false x).2 := ⟨_, rfl⟩
  obtain ⟨Y, hY⟩ : ∃ Y, Y = (stepOut false false x).1 := ⟨_, rfl⟩
  have HST : Hid (∀ (w : World) (v : Value), TmIn w 0 x v → Calls Tryz.prog 9 #[v] w (SCodePost w k Y)) := fun w v h => by have h2 := stepI_p x w v h; rwa [← hkk, ← hY] at h2
  obtain ⟨c, hcc⟩ : ∃ c, c = normC false false T 200 := ⟨_, rfl⟩
  obtain ⟨n, hn⟩ : ∃ n, n = redN T 200 := ⟨_, rfl⟩
  have HRD : Hid (∀ (w : World) (v : Value), TmIn w 0 T v → Calls Tryz.prog 12 #[v, .int .i64 200] w (IPair w n c)) := fun w v h => by have h2 := redNI_any T 200 w v h; rwa [← hcc, ← hn] at h2
  have k1 : (k != 1) = true := by rw [hkk, bne_iff_ne]; exact hk
  have kc : c = 0 → n = (q : Int) := by rw [hcc, hn]; exact hr
  have hql : q < L.length := by omega
  have hlx : L[q] = x := by rw [List.getElem?_eq_getElem hql] at hx; exact Option.some.inj hx
  have hq1 : (L.length : Int) - 1 = (q : Int) := by omega
  have hq63 : (q : Int) < 9223372036854775808 := by omega
  clear hk hr hkk hY hcc hn hok hx hq
  refine (HTI.out _ _ V.out.tm).mono ?_
  rintro e u21 ⟨hb, aSL, cSL, rfl, hin⟩
  replace V := tuck (V.out.below hb)
  replace HB := tuck (bAfter HB.out hb)
  have SL := tuck hin
  clear hb hin
  obtain ⟨zV, c0V, c1V, c2V, cfV⟩ := V.out.facts
  go_wp2_with fail
  refine (HTS.out _ _ V.out.tm).mono ?_
  rintro e u22 ⟨hb, aSW, cSW, rfl, hin⟩
  clear zV c0V c1V c2V cfV
  replace V := tuck (V.out.below hb)
  replace SL := tuck (SL.out.below hb)
  replace HB := tuck (bAfter HB.out hb)
  have SW := tuck hin
  clear hb hin
  obtain ⟨zV, c0V, c1V, c2V, cfV⟩ := V.out.facts
  go_wp2_with fail
  refine (HDK.out _ _ _ SL.out SW.out).mono ?_
  rintro e u23 ⟨rfl, hb⟩
  clear zV c0V c1V c2V cfV
  replace V := tuck (V.out.below hb)
  replace SL := tuck (SL.out.below hb)
  replace SW := tuck (SW.out.below hb)
  replace HB := tuck (bAfter HB.out hb)
  clear hb
  clear HDK HTI HTS
  obtain ⟨a0, cap0, b0, o0, hsl, hl, hp, hc⟩ := SL.out.open
  cases hsl
  obtain ⟨hoe, -, hbw⟩ := hp (by intro e; rw [e] at hql; simp at hql)
  subst hoe
  obtain ⟨s, d0, d1, d2, hs⟩ := hc q hql
  rw [hlx] at d0 d1 hs
  obtain ⟨sa, sc, rfl⟩ := hs.form
  have HXS := tuck hs
  clear hs hc hp hlx
  obtain ⟨zV, c0V, c1V, c2V, cfV⟩ := V.out.facts
  go_wp2_with fail
  clear d0 d1 d2
  refine (HST.out _ _ ⟨_, rfl, HXS.out⟩).mono ?_
  rintro e u24 ⟨hb, vv, rfl, ss, rfl, hin⟩
  obtain ⟨aVY, cVY, rfl⟩ := hin.form
  clear zV c0V c1V c2V cfV
  replace V := tuck (V.out.below hb)
  replace SL := tuck (SL.out.below hb)
  replace HB := tuck (bAfter HB.out hb)
  have HNVY := tuck hin
  clear hb hin
  obtain ⟨zV, c0V, c1V, c2V, cfV⟩ := V.out.facts
  go_wp2_with fail
  clear zV c0V c1V c2V cfV
  have VY := tuck (TV.new HNVY.out)
  have hb := below1 u24 (.cells #[.int .i64 Y.kind, .int .i64 Y.num, .slice aVY Y.kids.length cVY] 25)
  replace V := tuck (V.out.below hb)
  replace SL := tuck (SL.out.below hb)
  replace HB := tuck (bAfter HB.out hb)
  clear hb HNVY
  generalize u24.alloc (.cells #[.int .i64 Y.kind, .int .i64 Y.num, .slice aVY Y.kids.length cVY] 25) = U24 at *
  generalize u24.heap.size = gVY at *
  refine (HRD.out _ _ V.out.tm).mono ?_
  rintro e u25 ⟨rfl, hb⟩
  replace V := tuck (V.out.below hb)
  replace VY := tuck (VY.out.below hb)
  replace SL := tuck (SL.out.below hb)
  replace HB := tuck (bAfter HB.out hb)
  clear hb
  have hfin : c = 0 → (n == (q : Int)) = true := fun h => by rw [kc h]; simp
  clear kc
  by_cases hc0 : c = 0
  ·skip
   have kc0 : (c != 0) = false := by rw [hc0]; rfl
   have kc1 := hfin hc0
   clear hfin hc0
   obtain ⟨zV, c0V, c1V, c2V, cfV⟩ := V.out.facts
   obtain ⟨zVY, c0VY, c1VY, c2VY, cfVY⟩ := VY.out.facts
   go_wp2_with fail
   go_ret
   exact ⟨rfl, HB.out⟩
  ·skip
   have kc0 : (c != 0) = true := by rw [bne_iff_ne]; exact hc0
   clear hfin hc0
   obtain ⟨zV, c0V, c1V, c2V, cfV⟩ := V.out.facts
   obtain ⟨zVY, c0VY, c1VY, c2VY, cfVY⟩ := VY.out.facts
   go_wp2_with fail
   go_ret
   exact ⟨rfl, HB.out⟩
set_option maxRecDepth 100000 in
theorem lifted (os : Os) (started : os.Started) (H : Type) (enc : TypeId × Value → H) :
  ReturnsInHanded {} Tryz.checked os 4 .any (Rows.fnTraceEndSpec.pre6 enc Tryz.prog Tryz.f4 Rows.fnTraceEndRow.domain false) (Rows.fnTraceEndSpec.post enc Tryz.prog Tryz.f4 false true false false) := by
 refine returnsInHanded_of_change (C := Tryz.checked) own started (by kernel_rfl) Tryz.func4
  (ChangeSpec.witness6 (enc := enc) (C := Tryz.checked) false ⟨#[], #[.slice none 0 0], []⟩ 8 (by kernel_rfl) (by kernel_rfl) (by kernel_rfl) (by kernel_rfl)) ?_
 intro W base args ds gs before hval0 hW hcnd _
 have hval : ∀ (j : Nat) t v, Tryz.f4.params[j]? = some t → args[j]? = some v → Value.okWide Tryz.prog W .any base t v := hval0
 have hW' := hW
 obtain ⟨p, q, hA0, hV, rfl, hfz, hnd⟩ := hW
 have hA : DataW.TrodAll enc Tryz.prog W 0 (fun _ => true) true Tryz.f4.params.toList args.toList ds p := hA0
 rw [Tryz.params4] at hA hval
 obtain ⟨v0, vs0, d0, ds0, p0, q0, hargs, rfl, rfl, h0, r0⟩ := trodAll_cons hA
 obtain ⟨rfl, rfl, rfl⟩ := trodAll_nil r0
 obtain rfl : args = #[v0] := by cases args; simp_all
 obtain ⟨U0, ad0, bb0, oo0, len0, cap0, rfl, hlc0, hcm0, hbl0, hby0⟩ := open_bytes (hval 0 22 v0 rfl rfl) h0
 refine (walk U0 ad0 bb0 oo0 len0 cap0 W hlc0 hcm0 hby0).mono fun e W' ⟨he, hb⟩ => ?_
 subst he
 exact ⟨_, rfl, law_post rfl rfl (fun gs h => by subst h; rfl) (by rw [Tryz.params4]; exact readable_FnTraceEnd) laid hW' hb⟩
theorem over : Rows.fnTraceEndRow.holds Tryz.pinned (OpenSpec.ofChange Rows.fnTraceEndSpec) :=
 OpenClaim.holds_of_wide 4 Tryz.f4 rfl rfl rfl rfl rfl rfl rfl ⟨rfl, rfl, rfl, rfl, rfl⟩ rfl rfl rfl rfl rfl (by kernel_rfl) Tryz.func4 (by kernel_rfl)
  (of_decide_eq_true (by kernel_rfl)) (by unfold Func.isWrapper; first | (rw [if_pos (by decide +kernel)]; kernel_rfl) | (rw [if_neg (by decide +kernel)]; exact ⟨rfl, rfl⟩))
  (fun os started H enc _ => lifted os started H enc)
theorem proved : Rows.FnTraceEndSaid :=
 over
end Go.Proofs.YtlbikgnanabjgaaGreat.fnTraceEnd
