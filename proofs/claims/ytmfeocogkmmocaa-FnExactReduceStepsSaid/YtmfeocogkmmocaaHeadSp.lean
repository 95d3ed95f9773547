/-
  The model's head normalization: spec.l3Main, spec.l3HeadStep, spec.l3Fits, spec.l3Head, spec.HeadNormal.
-/
import Derived.Test.YtmfeocogkmmocaaStepS
import Derived.Test.YtmfeocogkmmocaaNodeX
namespace Go.Proofs.Ytmfeocogkmmocaa
open Go.RowKit

theorem lmain_any (k : Int) (w : World) : Calls Try.prog 106 #[.int .i64 k] w fun e w' => e = .returned (.int .i64 (mainIx k)) ∧ w = w' := by
  obtain ⟨post, hpost⟩ : ∃ post : Ending → World → Prop, post = fun e w' => e = .returned (.int .i64 (mainIx k)) ∧ w = w' := ⟨_, rfl⟩
  rw [← hpost]
  have HP : Hid (∀ (i : Int), i = mainIx k → post (.returned (.int .i64 i)) w) := tuck fun i h1 => by rw [hpost, h1]; exact ⟨rfl, rfl⟩
  clear hpost
  by_cases h5 : k = 5
  · subst h5
    have HQ := tuck (HP.out 0 (by decide))
    clear HP
    go_enter Try.func106, Try.ntmps106
    go_wp2_with fail
    exact HQ.out
  by_cases h15 : k = 15
  · subst h15
    have HQ := tuck (HP.out 0 (by decide))
    clear HP
    go_enter Try.func106, Try.ntmps106
    go_wp2_with fail
    exact HQ.out
  by_cases h16 : k = 16
  · subst h16
    have HQ := tuck (HP.out 0 (by decide))
    clear HP
    go_enter Try.func106, Try.ntmps106
    go_wp2_with fail
    exact HQ.out
  by_cases h9 : k = 9
  · subst h9
    have HQ := tuck (HP.out 3 (by decide))
    clear HP
    go_enter Try.func106, Try.ntmps106
    go_wp2_with fail
    exact HQ.out
  by_cases h12 : k = 12
  · subst h12
    have HQ := tuck (HP.out 1 (by decide))
    clear HP
    go_enter Try.func106, Try.ntmps106
    go_wp2_with fail
    exact HQ.out
  have g5 : (k == 5) = false := by simpa using h5
  have g15 : (k == 15) = false := by simpa using h15
  have g16 : (k == 16) = false := by simpa using h16
  have g9 : (k == 9) = false := by simpa using h9
  have g12 : (k == 12) = false := by simpa using h12
  have hm : mainIx k = -1 := by unfold mainIx; (repeat' split) <;> omega
  have HQ := tuck (HP.out (-1) hm.symm)
  clear HP hm
  go_enter Try.func106, Try.ntmps106
  go_wp2_with fail
  exact HQ.out

set_option maxRecDepth 100000 in
set_option maxHeartbeats 4000000 in
theorem lhstep_any : ∀ (l : List Tm) (k n : Int) (w : World) (v : Value), (Tm.mk k n l).Valid → SlIn w 0 l v → Calls Try.prog 73 #[.agg #[.int .i64 k, .int .i64 n, v]] w (StPost w ((Tm.mk k n l).step false true)) := by
  intro l
  induction l using Tm.ind with
  | h l ih =>
  intro k n w v hv hin
  have hroot := hv.root
  have hl4 : l.length ≤ 4 := root_len hroot
  have hsz : sizes l ≤ 1000000 := by have := (valid_bounds hv).1; simp only [Tm.kids] at this; omega
  have hkv : ∀ i (hi : i < l.length), l[i].Valid := fun i hi => hv.get (t := .mk k n l) hi
  obtain ⟨a, cap, b, o, rfl, hlm, hp, hc⟩ := hin.open
  have HRED : Hid (∀ W, Below w.heap.size w W → Calls Try.prog 97 #[.agg #[.int .i64 k, .int .i64 n, .slice a l.length cap]] W (IntPost W (Tm.mk k n l).redex)) := tuck fun W h => redS_any (.mk k n l) hroot W (.slice a l.length cap) (hin.below h)
  have HCON : Hid ((Tm.mk k n l).redex ≠ 0 → ∀ W, Below w.heap.size w W → Calls Try.prog 98 #[.agg #[.int .i64 k, .int .i64 n, .slice a l.length cap]] W (SPost W (Tm.mk k n l).contr)) := tuck fun hR W h => lcontract_any (.mk k n l) hroot hkv hR W (.slice a l.length cap) (hin.below h)
  have HWITH : Hid (∀ q (_ : q < l.length) (K : Tm) (L' : List Tm) (_ : L' = l.set q K) (W : World) (kv : Value), Below w.heap.size w W → w.heap.size + 2 ≤ W.heap.size → SlIn W (w.heap.size + 2) K.kids kv → Calls Try.prog 99 #[.agg #[.int .i64 k, .int .i64 n, .slice a l.length cap], .int .i64 q, .agg #[.int .i64 K.kind, .int .i64 K.num, kv]] W (BPost (w.heap.size + 2) W (.mk k n L'))) := tuck fun q hq K L' hL W kv hb h2 hk => hL ▸ lwith_any (w.heap.size + 2) l k n q hq K W h2 (.slice a l.length cap) kv hl4 hsz (hin.below hb) hk
  have HIH : Hid (∀ q (hq : q < l.length) (W : World) (s : Value), SlIn W 0 l[q].kids s → Calls Try.prog 73 #[.agg #[.int .i64 l[q].kind, .int .i64 l[q].num, s]] W (StPost W (l[q].step false true))) := tuck fun q hq W s h => by
    have := ih q hq l[q].kind l[q].num W s (by rw [Tm.eta]; exact hkv q hq) h
    rwa [Tm.eta] at this
  have hstep := Tm.step_head hroot
  have HMX : Hid (mainIx k ≠ -1 → (mainIx k).toNat < l.length ∧ 0 ≤ mainIx k) := tuck fun h => mainIx_lt (t := .mk k n l) hroot h
  have HS := tuck hstep
  have HNO : Hid ((Tm.mk k n l).step false true = none → ∀ w' (k' n' : Int) (a' : Option Addr) (L' c' : Nat), Below w.heap.size w w' → StPost w ((Tm.mk k n l).step false true) (.returned (.tuple #[.agg #[.int .i64 k', .int .i64 n', .slice a' L' c'], .bool false])) w') := tuck fun e w' k' n' a' L' c' h => by rw [e]; exact ⟨h, k', n', a', L', c', rfl⟩
  have HYES : Hid (∀ T, (Tm.mk k n l).step false true = some T → ∀ w' (a : Option Addr) (c : Nat), Below w.heap.size w w' → SlIn w' w.heap.size T.kids (.slice a T.kids.length c) → StPost w ((Tm.mk k n l).step false true) (.returned (.tuple #[.agg #[.int .i64 T.kind, .int .i64 T.num, .slice a T.kids.length c], .bool true])) w') := tuck fun T e w' a c h1 h2 => by rw [e]; exact ⟨h1, a, c, rfl, h2⟩
  have hb2 := below2 w (.cells #[.int .i64 k, .int .i64 n, .slice a l.length cap] 28) (.cells #[.int .i64 0, .int .i64 0, .slice none 0 0] 28)
  have HV0 := tuck ((VarAt.new w k n (.slice a l.length cap)).below (below1 _ (.cells #[.int .i64 0, .int .i64 0, .slice none 0 0] 28)))
  have HV1 := tuck (var_new1 w (.cells #[.int .i64 k, .int .i64 n, .slice a l.length cap] 28) 0 0 (.slice none 0 0))
  have HB2 := tuck hb2
  have HP := tuck hp
  have HC := tuck hc
  have HZ : Hid (((w.alloc (.cells #[.int .i64 k, .int .i64 n, .slice a l.length cap] 28)).alloc (.cells #[.int .i64 0, .int .i64 0, .slice none 0 0] 28)).heap.size = w.heap.size + 2) := tuck (by simp)
  generalize StPost w ((Tm.mk k n l).step false true) = post at *
  clear ih hp hc hin hv hroot hkv hsz hl4 hb2 hstep
  unfold maxLen at hlm
  by_cases hR : (Tm.mk k n l).redex ≠ 0
  · have hfin : (Tm.mk k n l).step false true = some (Tm.mk k n l).contr := by rw [HS.out, if_pos hR]
    replace HYES := tuck (HYES.out _ hfin)
    replace HCON := tuck (HCON.out hR)
    have hRi : ((Tm.mk k n l).redex != 0) = true := by simp [hR]
    clear hfin HNO HWITH HIH HS HMX
    generalize (Tm.mk k n l).redex = R at *
    generalize (Tm.mk k n l).contr = T at *
    go_enter Try.func73, Try.ntmps73
    go_wp2_with fail
    generalize (w.alloc (.cells #[.int .i64 k, .int .i64 n, .slice a l.length cap] 28)).alloc (.cells #[.int .i64 0, .int .i64 0, .slice none 0 0] 28) = W0 at *
    refine (HRED.out _ HB2.out).mono ?_
    rintro e w1 ⟨rfl, hb1⟩
    have HVA := tuck (HV0.out.below hb1)
    have HVR := tuck (HV1.out.below hb1)
    have HB1 := tuck (bAfter HB2.out hb1)
    have HZ1 : Hid (w.heap.size + 2 ≤ w1.heap.size) := tuck (by have := HZ.out; have := hb1.size; omega)
    obtain ⟨z0, a0, a1, a2, -⟩ := HVA.out.facts
    obtain ⟨z1, r0, r1, r2, rf⟩ := HVR.out.facts
    clear hb1 HRED
    go_wp2_with fail
    refine (HCON.out _ HB1.out).mono ?_
    rintro e w4 hp4
    obtain ⟨ua, uc, rfl, hb4, hs4⟩ := hp4.open
    obtain ⟨z1', r0', r1', r2', rf'⟩ := (HVR.out.below hb4).facts
    have HB4 := tuck (bAfter HB1.out hb4)
    have HS4 := tuck hs4
    have HSZ : Hid (w.heap.size + 1 < w1.heap.size) := tuck z1
    clear hp4 hb4 hs4 HCON
    go_wp2_with fail
    refine bodyPost_ret (v := .tuple #[.agg #[.int .i64 T.kind, .int .i64 T.num, .slice ua T.kids.length uc], .bool true]) (by simp [results, Try.results73, go_sem, *]) rfl (HYES.out _ ua uc ?_ ?_)
    · exact bSet3 HB4.out (Nat.le_succ _) _ _ _ _ _ _
    · exact (SlIn.set3 HS4.out HSZ.out).mono HB1.out.size
  · have hR0 : (Tm.mk k n l).redex = 0 := Classical.byContradiction hR
    rw [hR0] at HRED
    replace HS : Hid ((Tm.mk k n l).step false true = if mainIx k = -1 then none else ((kidT (.mk k n l) (mainIx k).toNat).step false true).map fun x => .mk k n (l.set (mainIx k).toNat x)) := tuck (by rw [HS.out, if_neg hR]; rfl)
    clear HCON hR hR0
    have HLM := tuck (lmain_any k)
    by_cases hm : mainIx k = -1
    · have hfin : (Tm.mk k n l).step false true = none := by rw [HS.out, if_pos hm]
      replace HNO := tuck (HNO.out hfin)
      rw [hm] at HLM
      clear hfin HYES HWITH HIH HS HMX hm
      go_enter Try.func73, Try.ntmps73
      go_wp2_with fail
      generalize (w.alloc (.cells #[.int .i64 k, .int .i64 n, .slice a l.length cap] 28)).alloc (.cells #[.int .i64 0, .int .i64 0, .slice none 0 0] 28) = W0 at *
      refine (HRED.out _ HB2.out).mono ?_
      rintro e w1 ⟨rfl, hb1⟩
      have HVA := tuck (HV0.out.below hb1)
      have HVR := tuck (HV1.out.below hb1)
      have HB1 := tuck (bAfter HB2.out hb1)
      have HZ1 : Hid (w.heap.size + 2 ≤ w1.heap.size) := tuck (by have := HZ.out; have := hb1.size; omega)
      obtain ⟨z0, a0, a1, a2, -⟩ := HVA.out.facts
      obtain ⟨z1, r0, r1, r2, rf⟩ := HVR.out.facts
      clear hb1 HRED
      go_wp2_with fail
      refine (HLM.out _).mono ?_
      rintro e w3 ⟨rfl, rfl⟩
      go_wp2_with fail
      refine bodyPost_ret (v := .tuple #[.agg #[.int .i64 k, .int .i64 n, .slice a l.length cap], .bool false]) (by simp [results, Try.results73, go_sem, *]) rfl (HNO.out _ _ _ _ _ _ ?_)
      exact bSet3 HB1.out (Nat.le_succ _) _ _ _ _ _ _
    · obtain ⟨hlt, h0⟩ := HMX.out hm
      obtain ⟨q, hqq⟩ : ∃ q : Nat, mainIx k = (q : Int) := ⟨(mainIx k).toNat, by omega⟩
      rw [hqq] at HLM
      have hqn : (mainIx k).toNat = q := by omega
      rw [hqn] at hlt
      replace HS : Hid ((Tm.mk k n l).step false true = (l[q].step false true).map fun x => .mk k n (l.set q x)) := tuck (by rw [HS.out, if_neg hm, hqn, kidT_eq hlt]; rfl)
      clear HMX hm h0 hqq hqn
      have hlti : ((q : Int) < (l.length : Int)) := by omega
      have hq0 : ¬ ((q : Int) < 0) := by omega
      have hq00 : (0 : Int) ≤ (q : Int) := by omega
      obtain ⟨rfl, _, hbw⟩ := HP.out (by intro e; rw [e] at hlt; simp at hlt)
      obtain ⟨s, c0, c1, c2, hs⟩ := HC.out q hlt
      obtain ⟨sa, sc, rfl⟩ := hs.form
      have HSK := tuck hs
      have HC0 := tuck c0
      have HC1 := tuck c1
      have HC2 := tuck c2
      have HIQ := tuck (fun W s h => HIH.out q hlt W s h)
      have HWQ := tuck (HWITH.out q hlt)
      clear hs HIH HWITH c0 c1 c2 HC HP
      cases hst : l[q].step false true with
      | none =>
        have hfin : (Tm.mk k n l).step false true = none := by rw [HS.out, hst]; rfl
        replace HNO := tuck (HNO.out hfin)
        rw [hst] at HIQ
        clear hfin hst HS HYES HWQ
        generalize l[q] = x at *
        go_enter Try.func73, Try.ntmps73
        go_wp2_with fail
        generalize (w.alloc (.cells #[.int .i64 k, .int .i64 n, .slice (some ⟨b, o, none⟩) l.length cap] 28)).alloc (.cells #[.int .i64 0, .int .i64 0, .slice none 0 0] 28) = W0 at *
        refine (HRED.out _ HB2.out).mono ?_
        rintro e w1 ⟨rfl, hb1⟩
        have HVA := tuck (HV0.out.below hb1)
        have HVR := tuck (HV1.out.below hb1)
        have HB1 := tuck (bAfter HB2.out hb1)
        have HZ1 : Hid (w.heap.size + 2 ≤ w1.heap.size) := tuck (by have := HZ.out; have := hb1.size; omega)
        obtain ⟨z0, a0, a1, a2, -⟩ := HVA.out.facts
        obtain ⟨z1, r0, r1, r2, rf⟩ := HVR.out.facts
        clear hb1 HRED
        go_wp2_with fail
        refine (HLM.out _).mono ?_
        rintro e w3 ⟨rfl, rfl⟩
        have c0 := (HB1.out.cell (p := ⟨b, o + q * 3, none⟩) hbw).trans HC0.out
        have c1 := (HB1.out.cell (p := ⟨b, o + q * 3 + 1, none⟩) hbw).trans HC1.out
        have c2 := (HB1.out.cell (p := ⟨b, o + q * 3 + 2, none⟩) hbw).trans HC2.out
        go_wp2_with fail
        refine (HIQ.out _ _ (HSK.out.below HB1.out)).mono ?_
        rintro e w4 hp4
        obtain ⟨hb3, k3, n3, a3, L3, c3, rfl⟩ := StPost.no hp4
        have hbx := below1 w4 (.cells #[.int .i64 k3, .int .i64 n3, .slice a3 L3 c3] 28)
        have HB4 := tuck (bAfter HB1.out (bAfter hb3 hbx))
        have hva4 := (HVA.out.below hb3).below hbx
        have hvr4 := (HVR.out.below hb3).below hbx
        clear z0 a0 a1 a2 z1 r0 r1 r2 rf c0 c1 c2 hp4
        obtain ⟨z0, a0, a1, a2, -⟩ := hva4.facts
        obtain ⟨z1, r0, r1, r2, rf⟩ := hvr4.facts
        clear hb3 hbx hva4 hvr4 HIQ
        go_wp2_with fail
        refine bodyPost_ret (v := .tuple #[.agg #[.int .i64 k, .int .i64 n, .slice (some ⟨b, o, none⟩) l.length cap], .bool false]) (by simp [results, Try.results73, go_sem, *]) rfl (HNO.out _ _ _ _ _ _ ?_)
        exact bSet3 HB4.out (Nat.le_succ _) _ _ _ _ _ _
      | some T =>
        obtain ⟨L', hL'⟩ : ∃ L', L' = l.set q T := ⟨_, rfl⟩
        have HLQ := tuck hL'
        have hfin : (Tm.mk k n l).step false true = some (.mk k n L') := by rw [HS.out, hst, hL']; rfl
        replace HYES := tuck (HYES.out _ hfin)
        rw [hst] at HIQ
        clear hfin hst HS HNO hL'
        generalize l[q] = x at *
        go_enter Try.func73, Try.ntmps73
        go_wp2_with fail
        generalize (w.alloc (.cells #[.int .i64 k, .int .i64 n, .slice (some ⟨b, o, none⟩) l.length cap] 28)).alloc (.cells #[.int .i64 0, .int .i64 0, .slice none 0 0] 28) = W0 at *
        refine (HRED.out _ HB2.out).mono ?_
        rintro e w1 ⟨rfl, hb1⟩
        have HVA := tuck (HV0.out.below hb1)
        have HVR := tuck (HV1.out.below hb1)
        have HB1 := tuck (bAfter HB2.out hb1)
        have HZ1 : Hid (w.heap.size + 2 ≤ w1.heap.size) := tuck (by have := HZ.out; have := hb1.size; omega)
        obtain ⟨z0, a0, a1, a2, -⟩ := HVA.out.facts
        obtain ⟨z1, r0, r1, r2, rf⟩ := HVR.out.facts
        clear hb1 HRED
        go_wp2_with fail
        refine (HLM.out _).mono ?_
        rintro e w3 ⟨rfl, rfl⟩
        have c0 := (HB1.out.cell (p := ⟨b, o + q * 3, none⟩) hbw).trans HC0.out
        have c1 := (HB1.out.cell (p := ⟨b, o + q * 3 + 1, none⟩) hbw).trans HC1.out
        have c2 := (HB1.out.cell (p := ⟨b, o + q * 3 + 2, none⟩) hbw).trans HC2.out
        go_wp2_with fail
        refine (HIQ.out _ _ (HSK.out.below HB1.out)).mono ?_
        rintro e w4 hp4
        obtain ⟨hb3, ta, tc, rfl, hs3⟩ := StPost.yes hp4
        have hbx := below1 w4 (.cells #[.int .i64 T.kind, .int .i64 T.num, .slice ta T.kids.length tc] 28)
        have HVA4 := tuck ((HVA.out.below hb3).below hbx)
        have HVR4 := tuck ((HVR.out.below hb3).below hbx)
        have HB4 := tuck (bAfter HB1.out (bAfter hb3 hbx))
        have HVK := tuck (VarAt.new w4 T.kind T.num (.slice ta T.kids.length tc))
        have HW4 := tuck (HWQ.out T L' HLQ.out _ _ HB4.out (by have := hbx.size; have := hb3.size; have := HZ1.out; omega) ((hs3.below hbx).mono HZ1.out))
        clear z0 a0 a1 a2 z1 r0 r1 r2 rf c0 c1 c2 hp4 hb3 hs3 hbx HIQ HWQ
        obtain ⟨y0, b0, b1, b2, -⟩ := HVA4.out.facts
        obtain ⟨y1, d0, d1, d2, -⟩ := HVK.out.facts
        go_wp2_with fail
        generalize w4.alloc (.cells #[.int .i64 T.kind, .int .i64 T.num, .slice ta T.kids.length tc] 28) = W4 at *
        refine HW4.out.mono ?_
        rintro e w5 ⟨hb5, ua, uc, rfl, hs5⟩
        obtain ⟨z1, r0, r1, r2, rf⟩ := (HVR4.out.below hb5).facts
        have HB5 := tuck (bAfter HB4.out hb5)
        have HS5 := tuck hs5
        clear hb5 hs5 HW4
        go_wp2_with fail
        refine bodyPost_ret (v := .tuple #[.agg #[.int .i64 k, .int .i64 n, .slice ua L'.length uc], .bool true]) (by simp [results, Try.results73, go_sem, Tm.kind, Tm.num, Tm.kids, *]) rfl (HYES.out _ ua uc ?_ ?_)
        · exact bSet3 HB5.out (Nat.le_succ _) _ _ _ _ _ _
        · exact (SlIn.set3 HS5.out (Nat.lt_succ_self _)).mono (by omega)

set_option maxRecDepth 100000 in
theorem fits_any (t : Tm) (fuel : Int) (w : World) (v : Value) (hs : SlIn w 0 t.kids v) : Calls Try.prog 45 #[.agg #[.int .i64 t.kind, .int .i64 t.num, v], .int .i64 fuel] w (BoolPost w (tr (NormOk t fuel))) := by
  obtain ⟨a, c, rfl⟩ := hs.form
  have HS := tuck hs
  have hb1 := below1 w (.cells #[.int .i64 t.kind, .int .i64 t.num, .slice a t.kids.length c] 28)
  have HB1 := tuck hb1
  have HV0 := tuck (VarAt.new w t.kind t.num (.slice a t.kids.length c))
  have HVAL := tuck (validS_any t _ _ ⟨_, rfl, hs.below hb1⟩)
  obtain ⟨z0, a0, a1, a2, -⟩ := HV0.out.facts
  by_cases hv : t.Valid
  · rw [tr_of hv] at HVAL
    by_cases h0 : 0 ≤ fuel
    · have hg0 : (fuel ≥ 0) := h0
      by_cases h1 : fuel ≤ 200
      · rw [tr_of (show NormOk t fuel from ⟨hv, h0, h1⟩)]
        clear hs hb1
        go_enter Try.func45, Try.ntmps45
        go_wp2_with fail
        refine HVAL.out.mono ?_
        rintro e w3 ⟨rfl, hb3⟩
        go_wp2_with fail
        go_ret
        exact ⟨rfl, bAfter HB1.out hb3⟩
      · rw [tr_not (show ¬ NormOk t fuel from fun h => h1 h.2.2)]
        have hd1 : decide (fuel ≤ 200) = false := decide_eq_false h1
        clear hs hb1
        go_enter Try.func45, Try.ntmps45
        go_wp2_with fail
        refine HVAL.out.mono ?_
        rintro e w3 ⟨rfl, hb3⟩
        go_wp2_with fail
        go_ret
        exact ⟨rfl, bAfter HB1.out hb3⟩
    · rw [tr_not (show ¬ NormOk t fuel from fun h => h0 h.2.1)]
      clear hs hb1
      go_enter Try.func45, Try.ntmps45
      go_wp2_with fail
      refine HVAL.out.mono ?_
      rintro e w3 ⟨rfl, hb3⟩
      go_wp2_with fail
      go_ret
      exact ⟨rfl, bAfter HB1.out hb3⟩
  · rw [tr_not hv] at HVAL
    rw [tr_not (show ¬ NormOk t fuel from fun h => hv h.1)]
    clear hs hb1
    go_enter Try.func45, Try.ntmps45
    go_wp2_with fail
    refine HVAL.out.mono ?_
    rintro e w3 ⟨rfl, hb3⟩
    go_wp2_with fail
    go_ret
    exact ⟨rfl, bAfter HB1.out hb3⟩

theorem orZeroH_yes {P : Prop} {T : Tm} (h : P) : orZero P T = T := if_pos h
theorem orZeroH_no {P : Prop} {T : Tm} (h : ¬ P) : orZero P T = zeroT := if_neg h

end Go.Proofs.Ytmfeocogkmmocaa
