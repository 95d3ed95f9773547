/-
  The law FnSameParts: whatever the bytes, two terms are equal exactly if their roots and all operands are.
-/
import Derived.Test.YtohlpjfhhbcebaaDrawsE
import Derived.Test.YtohlpjfhhbcebaaVars
import Derived.Test.YtohlpjfhhbcebaaSameS
import Derived.Test.YtohlpjfhhbcebaaSFree
import Derived.IntWalk
namespace Go.Proofs.Ytohlpjfhhbcebaa.fnSameParts
open Go.ChangeShapes Go.WideShapes Go.ChangeAt Go.RowKit Go.Deep
set_option linter.unusedVariables false

theorem readable_FnSameParts : ∀ t ∈ (#[41] : Array TypeId).toList, Try.prog.readableRec t = true ∧ t < Try.prog.types.size := by
  intro t ht
  simp at ht
  subst ht
  exact ⟨by kernel_rfl, of_decide_eq_true (by kernel_rfl)⟩
theorem laid : laidOutB Try.prog = true := by kernel_rfl

theorem valid_kid {t : Tm} (h : t.Valid) {i : Nat} (hi : i < t.kids.length) : t.kids[i].Valid :=
  ⟨(allsOk_iff _).1 (t.allOk_iff.1 h.1).2 _ (List.getElem_mem hi), by have := mem_hgts' hi; have := t.hgt_eq; have := h.2.1; omega, by have := size_get_le t.kids i hi; have := t.size_eq; have := h.2.2; omega⟩

set_option maxRecDepth 100000 in
set_option maxHeartbeats 3200000 in
theorem walk (U : Nat → Int) (a : Option Addr) (b o len cap : Nat) (w : World) (hlc : len ≤ cap) (hcm : cap ≤ maxLen) (hby : Bytes U a b o len w) : Calls Try.prog 13 #[.slice a len cap] w fun e w' => e = .returned (.bool true) ∧ Below w.heap.size w w' := by
  unfold maxLen at hcm
  by_cases hl : 1048576 < len
  · have hl' : (1048576 : Int) < (len : Int) := by omega
    clear hby
    go_enter Try.func13, Try.ntmps13
    go_wp2
    go_ret
    exact ⟨rfl, Below.refl _ _⟩
  have hl' : ¬ (1048576 : Int) < (len : Int) := by omega
  have HD := tuck (dTermSame_any w (by omega) hlc hby)
  clear hby
  go_enter Try.func13, Try.ntmps13
  go_wp2_with fail
  refine HD.out.mono ?_
  rintro e w1 ⟨T, v, S, u, rfl, ⟨s, rfl, hin⟩, ⟨s2, rfl, hin2⟩, hTV, hsz2, hb⟩
  obtain ⟨aV, cV, rfl⟩ := hin.form
  obtain ⟨aVU, cVU, rfl⟩ := hin2.form
  have hs1 : (w1.alloc (.cells #[.int .i64 T.kind, .int .i64 T.num, .slice aV T.kids.length cV] 29)).heap.size = w1.heap.size + 1 := by simp
  have V := tuck ((TV.new hin).below (below1 (w1.alloc (.cells #[.int .i64 T.kind, .int .i64 T.num, .slice aV T.kids.length cV] 29)) (.cells #[.int .i64 S.kind, .int .i64 S.num, .slice aVU S.kids.length cVU] 29)))
  have hvu := TV.new (hin2.below (below1 w1 (.cells #[.int .i64 T.kind, .int .i64 T.num, .slice aV T.kids.length cV] 29)))
  rw [hs1] at hvu
  have VU := tuck hvu
  have HB := tuck (bAfter hb (below2 w1 (.cells #[.int .i64 T.kind, .int .i64 T.num, .slice aV T.kids.length cV] 29) (.cells #[.int .i64 S.kind, .int .i64 S.num, .slice aVU S.kids.length cVU] 29)))
  clear hin hin2 hb HD hvu
  go_wp2_with fail
  generalize (w1.alloc (.cells #[.int .i64 T.kind, .int .i64 T.num, .slice aV T.kids.length cV] 29)).alloc (.cells #[.int .i64 S.kind, .int .i64 S.num, .slice aVU S.kids.length cVU] 29) = U0 at *
  generalize w1.heap.size + 1 = gVU at *
  generalize w1.heap.size = gV at *
  obtain ⟨b', hb'⟩ : ∃ b', b' = same T S := ⟨_, rfl⟩
  have HSI : Hid (∀ (w : World) (v1 v2 : Value), TmIn w 0 T v1 → TmIn w 0 S v2 → Calls Try.prog 43 #[v1, v2] w (BoolPost w b')) := fun w v1 v2 h1 h2 => by rw [hb']; exact termSame_any T S w v1 v2 (Or.inl hTV) h1 h2
  have HSS : Hid (∀ (w : World) (v1 v2 : Value), TmIn w 0 T v1 → TmIn w 0 S v2 → Calls Try.prog 47 #[v1, v2] w (BoolPost w b')) := fun w v1 v2 h1 h2 => by
    obtain ⟨s, rfl, hs⟩ := h1
    have h := sameS_any T.kids T.kind T.num S w s v2 hs h2
    rw [Tm.eta] at h
    rwa [hb']
  have HTV : Hid T.Valid := tuck hTV
  have hbb : (b' != b') = false := by simp
  have HSB : Hid (b' = (rootSame T S && same T.kids S.kids)) := tuck (hb'.trans same_root)
  have HRS : Hid (rootSame T S = tr (T.kind = S.kind ∧ T.num = S.num ∧ T.kids.length = S.kids.length)) := tuck rfl
  clear hb' hTV
  refine (HSI.out _ _ _ V.out.tm VU.out.tm).mono ?_
  rintro e u1 ⟨rfl, hb⟩
  replace V := tuck (V.out.below hb)
  replace VU := tuck (VU.out.below hb)
  replace HB := tuck (bAfter HB.out hb)
  clear hb
  obtain ⟨zV, c0V, c1V, c2V, cfV⟩ := V.out.facts
  obtain ⟨zVU, c0VU, c1VU, c2VU, cfVU⟩ := VU.out.facts
  go_wp2_with fail
  refine (HSS.out _ _ _ V.out.tm VU.out.tm).mono ?_
  rintro e u2 ⟨rfl, hb⟩
  clear zV c0V c1V c2V cfV zVU c0VU c1VU c2VU cfVU
  replace V := tuck (V.out.below hb)
  replace VU := tuck (VU.out.below hb)
  replace HB := tuck (bAfter HB.out hb)
  clear hb
  by_cases e1 : T.kind = S.kind
  rotate_left
  · have g1 : (T.kind == S.kind) = false := by simpa using e1
    have HF : Hid (b' = false) := tuck (by rw [HSB.out, HRS.out, tr_not (fun h => e1 h.1), Bool.false_and])
    clear e1 HSB
    clear HSI HSS HRS HTV
    obtain ⟨z, c0, c1, c2, cf⟩ := V.out.facts
    obtain ⟨y, d0, d1, d2, df⟩ := VU.out.facts
    go_wp2_with fail
    clear z c0 c1 c2 cf y d0 d1 d2 df
    go_loopw [6, 7] (fun al i wr => al = .bool false ∧ i = .int .i64 0 ∧ Below u2.heap.size u2 wr) (fun _ _ _ => 0)
    case atStart => exact ⟨rfl, rfl, Below.refl _ _⟩
    case round =>
      obtain ⟨rfl, rfl, hb⟩ := hrel
      have VR := tuck (V.out.below hb)
      have HBR := tuck (bAfter HB.out hb)
      clear hb
      obtain ⟨z, c0, c1, c2, cf⟩ := VR.out.facts
      generalize T.kids.length = L at *
      by_cases hL : 0 < L
      · have hLd : decide ((0 : Int) < (L : Int)) = true := by simpa using hL
        go_wp2_with fail
        go_ret
        exact ⟨ret_bool (by rw [HF.out]; rfl), HBR.out⟩
      · have hLd : decide ((0 : Int) < (L : Int)) = false := by simpa using hL
        go_wp2_with fail
        go_ret
        exact ⟨ret_bool (by rw [HF.out]; rfl), HBR.out⟩
  have g1 : (T.kind == S.kind) = true := by simpa using e1
  by_cases e2 : T.num = S.num
  rotate_left
  · have g2 : (T.num == S.num) = false := by simpa using e2
    have HF : Hid (b' = false) := tuck (by rw [HSB.out, HRS.out, tr_not (fun h => e2 h.2.1), Bool.false_and])
    clear e1 e2 HSB
    clear HSI HSS HRS HTV
    obtain ⟨z, c0, c1, c2, cf⟩ := V.out.facts
    obtain ⟨y, d0, d1, d2, df⟩ := VU.out.facts
    go_wp2_with fail
    clear z c0 c1 c2 cf y d0 d1 d2 df
    go_loopw [6, 7] (fun al i wr => al = .bool false ∧ i = .int .i64 0 ∧ Below u2.heap.size u2 wr) (fun _ _ _ => 0)
    case atStart => exact ⟨rfl, rfl, Below.refl _ _⟩
    case round =>
      obtain ⟨rfl, rfl, hb⟩ := hrel
      have VR := tuck (V.out.below hb)
      have HBR := tuck (bAfter HB.out hb)
      clear hb
      obtain ⟨z, c0, c1, c2, cf⟩ := VR.out.facts
      generalize T.kids.length = L at *
      by_cases hL : 0 < L
      · have hLd : decide ((0 : Int) < (L : Int)) = true := by simpa using hL
        go_wp2_with fail
        go_ret
        exact ⟨ret_bool (by rw [HF.out]; rfl), HBR.out⟩
      · have hLd : decide ((0 : Int) < (L : Int)) = false := by simpa using hL
        go_wp2_with fail
        go_ret
        exact ⟨ret_bool (by rw [HF.out]; rfl), HBR.out⟩
  have g2 : (T.num == S.num) = true := by simpa using e2
  by_cases e3 : T.kids.length = S.kids.length
  rotate_left
  · have g3 : ((T.kids.length : Int) == (S.kids.length : Int)) = false := by simp; omega
    have HF : Hid (b' = false) := tuck (by rw [HSB.out, HRS.out, tr_not (fun h => e3 h.2.2), Bool.false_and])
    clear e1 e2 e3 HSB
    clear HSI HSS HRS HTV
    obtain ⟨z, c0, c1, c2, cf⟩ := V.out.facts
    obtain ⟨y, d0, d1, d2, df⟩ := VU.out.facts
    go_wp2_with fail
    clear z c0 c1 c2 cf y d0 d1 d2 df
    go_loopw [6, 7] (fun al i wr => al = .bool false ∧ i = .int .i64 0 ∧ Below u2.heap.size u2 wr) (fun _ _ _ => 0)
    case atStart => exact ⟨rfl, rfl, Below.refl _ _⟩
    case round =>
      obtain ⟨rfl, rfl, hb⟩ := hrel
      have VR := tuck (V.out.below hb)
      have HBR := tuck (bAfter HB.out hb)
      clear hb
      obtain ⟨z, c0, c1, c2, cf⟩ := VR.out.facts
      generalize T.kids.length = L at *
      by_cases hL : 0 < L
      · have hLd : decide ((0 : Int) < (L : Int)) = true := by simpa using hL
        go_wp2_with fail
        go_ret
        exact ⟨ret_bool (by rw [HF.out]; rfl), HBR.out⟩
      · have hLd : decide ((0 : Int) < (L : Int)) = false := by simpa using hL
        go_wp2_with fail
        go_ret
        exact ⟨ret_bool (by rw [HF.out]; rfl), HBR.out⟩
  have g3 : ((T.kids.length : Int) == (S.kids.length : Int)) = true := by simp; omega
  have HSB2 : Hid (b' = same T.kids S.kids) := tuck (by rw [HSB.out, HRS.out, tr_of ⟨e1, e2, e3⟩, Bool.true_and])
  have HL : Hid (T.kids.length = S.kids.length) := tuck e3
  have HTK : Hid (∀ (q : Nat) (h1 : q < T.kids.length) (h2 : q < S.kids.length) (w : World) (v1 v2 : Value), TmIn w 0 T.kids[q] v1 → TmIn w 0 S.kids[q] v2 → Calls Try.prog 43 #[v1, v2] w (BoolPost w (same T.kids[q] S.kids[q]))) := tuck fun q h1 h2 w v1 v2 k1 k2 => termSame_any _ _ w v1 v2 (Or.inl (valid_kid HTV.out h1)) k1 k2
  clear HSI HSS HRS HTV HSB e1 e2 e3
  obtain ⟨z, c0, c1, c2, cf⟩ := V.out.facts
  obtain ⟨y, d0, d1, d2, df⟩ := VU.out.facts
  go_wp2_with fail
  clear z c0 c1 c2 cf y d0 d1 d2 df g1 g2 g3
  go_loopw [6, 7] (fun al i wr => ∃ (q : Nat) (r : Bool), q ≤ T.kids.length ∧ i = .int .i64 q ∧ al = .bool r ∧ r = same (T.kids.take q) (S.kids.take q) ∧ Below u2.heap.size u2 wr) (fun _ i _ => T.kids.length - (intOf i).toNat)
  case atStart => exact ⟨0, true, Nat.zero_le _, rfl, rfl, by rw [List.take_zero, List.take_zero, same_self], Below.refl _ _⟩
  case round =>
    obtain ⟨q, r, hq, rfl, rfl, hr, hb⟩ := hrel
    have VR := tuck (V.out.below hb)
    have VUR := tuck (VU.out.below hb)
    have HBW := tuck hb
    have HR := tuck hr
    clear hb hr
    obtain ⟨z, c0, c1, c2, cf⟩ := VR.out.facts
    obtain ⟨y, d0, d1, d2, df⟩ := VUR.out.facts
    by_cases hlt : q < T.kids.length
    rotate_left
    · have hlti : decide ((q : Int) < (T.kids.length : Int)) = false := by simp; omega
      have hqe : q = T.kids.length := by omega
      have hfin : r = b' := by
        have h := HR.out
        rw [hqe, List.take_length, HL.out, List.take_length] at h
        rw [h, HSB2.out]
      have HFIN := tuck hfin
      have hge2 : ¬ ((q : Int) < (T.kids.length : Int)) := by omega
      clear hqe hfin
      go_wp2_with fail
      go_ret
      exact ⟨ret_bool (by rw [HFIN.out]; simp), bAfter HB.out HBW.out⟩
    have hlti : ((q : Int) < (T.kids.length : Int)) := by omega
    cases r
    · have hfin : b' = false := by
        have h := HR.out.symm
        rw [same_false] at h
        rw [HSB2.out, same_false]
        intro e
        exact h (by rw [e])
      have HFIN := tuck hfin
      clear hfin
      go_wp2_with fail
      go_ret
      exact ⟨ret_bool (by rw [HFIN.out]; rfl), bAfter HB.out HBW.out⟩
    have hltm : q < S.kids.length := by have := HL.out; omega
    have hltj : ((q : Int) < (S.kids.length : Int)) := by omega
    obtain ⟨x1, x2, b1, o1, e1, hl1, hp1, hc1⟩ := VR.out.sl.open
    obtain ⟨y1, y2, b2, o2, e2, hl2, hp2, hc2⟩ := VUR.out.sl.open
    injection e1 with e11 e12 e13
    injection e2 with e21 e22 e23
    subst e11 e13 e21 e23
    obtain ⟨rfl, -, -⟩ := hp1 (by intro e; rw [e] at hlt; simp at hlt)
    obtain ⟨rfl, -, -⟩ := hp2 (by intro e; rw [e] at hltm; simp at hltm)
    obtain ⟨s, k0, k1, k2, hs⟩ := hc1 q hlt
    obtain ⟨s', m0, m1, m2, hs'⟩ := hc2 q hltm
    have HS := tuck hs
    have HS' := tuck hs'
    have HTQ := tuck (HTK.out q hlt hltm)
    have hlm : T.kids.length ≤ 9223372036854775807 := by unfold maxLen at hl1; omega
    clear hs hs' hc1 hc2 hp1 hp2 e12 e22 hl1 hl2
    have HX : Hid (∀ r', r' = same T.kids[q] S.kids[q] → r' = same (T.kids.take (q + 1)) (S.kids.take (q + 1))) := tuck (by
      intro r' hr'
      have h := (same_iff.1 HR.out.symm)
      rw [hr', List.take_succ_eq_append_getElem hlt, List.take_succ_eq_append_getElem hltm, h, Bool.eq_iff_iff, same_iff, same_iff]
      constructor
      · intro e; rw [e]
      · intro e; exact (List.cons.inj (List.append_cancel_left e)).1)
    generalize T.kids[q] = xk at *
    generalize S.kids[q] = yk at *
    clear HTK
    go_wp2_with fail
    go_still_tail 10, (by kernel_rfl)
    change wpList _ _ _ _ _ wr.drew
    go_wp2_with (go_at_call 43; refine (HTQ.out _ _ _ ⟨s, rfl, HS.out.below (Below.refl _ _).drew⟩ ⟨s', rfl, HS'.out.below (Below.refl _ _).drew⟩).mono ?_; rintro e w' ⟨rfl, hb'⟩)
    go_roundw
    case rel => exact ⟨q + 1, _, by omega, by go_num, rfl, HX.out _ rfl, HBW.out.drew.trans (hb'.mono HBW.out.size)⟩
    case measure => simp [intOf]; omega

set_option maxRecDepth 100000 in
theorem lifted (os : Os) (started : os.Started) (H : Type) (enc : TypeId × Value → H) :
    ReturnsInHanded {} Try.checked os 13 .any (Rows.fnSamePartsSpec.pre6 enc Try.prog Try.f13 Rows.fnSamePartsRow.domain false) (Rows.fnSamePartsSpec.post enc Try.prog Try.f13 false true false false) := by
  refine returnsInHanded_of_change (C := Try.checked) own started (by kernel_rfl) Try.func13
    (ChangeSpec.witness6 (enc := enc) (C := Try.checked) false ⟨#[], #[.slice none 0 0], []⟩ 8 (by kernel_rfl) (by kernel_rfl) (by kernel_rfl) (by kernel_rfl)) ?_
  intro W base args ds gs before hval0 hW hcnd _
  have hval : ∀ (j : Nat) t v, Try.f13.params[j]? = some t → args[j]? = some v → Value.okWide Try.prog W .any base t v := hval0
  have hW' := hW
  obtain ⟨p, q, hA0, hV, rfl, hfz, hnd⟩ := hW
  have hA : DataW.TrodAll enc Try.prog W 0 (fun _ => true) true Try.f13.params.toList args.toList ds p := hA0
  rw [Try.params13] at hA hval
  obtain ⟨v0, vs0, d0, ds0, p0, q0, hargs, rfl, rfl, h0, r0⟩ := trodAll_cons hA
  obtain ⟨rfl, rfl, rfl⟩ := trodAll_nil r0
  obtain rfl : args = #[v0] := by cases args; simp_all
  obtain ⟨U0, ad0, bb0, oo0, len0, cap0, rfl, hlc0, hcm0, hbl0, hby0⟩ := open_bytes (hval 0 41 v0 rfl rfl) h0
  refine (walk U0 ad0 bb0 oo0 len0 cap0 W hlc0 hcm0 hby0).mono fun e W' ⟨he, hb⟩ => ?_
  subst he
  exact ⟨_, rfl, law_post rfl rfl (fun gs h => by subst h; rfl) (by rw [Try.params13]; exact readable_FnSameParts) laid hW' hb⟩

theorem over : Rows.fnSamePartsRow.holds Try.pinned (OpenSpec.ofChange Rows.fnSamePartsSpec) :=
  OpenClaim.holds_of_wide 13 Try.f13 rfl rfl rfl rfl rfl rfl rfl ⟨rfl, rfl, rfl, rfl, rfl⟩ rfl rfl rfl rfl rfl (by kernel_rfl) Try.func13 (by kernel_rfl)
    (of_decide_eq_true (by kernel_rfl)) (by unfold Func.isWrapper; first | (rw [if_pos (by decide +kernel)]; kernel_rfl) | (rw [if_neg (by decide +kernel)]; exact ⟨rfl, rfl⟩))
    (fun os started H enc _ => lifted os started H enc)

theorem proved : Rows.FnSamePartsSaid :=
  over
end Go.Proofs.Ytohlpjfhhbcebaa.fnSameParts
