/-
  HeadU.
-/
import Derived.Test.YtabbbnddfcbdiaaGreatC10
import Derived.Test.YtabbbnddfcbdiaaGreatC24
namespace Go.Proofs.YtabbbnddfcbdiaaGreat
open Go.RowKit
theorem lmain_any (k : Int) (w : World) : Calls Tryz.prog 132 #[.int .i64 k] w fun e w' => e = .returned (.int .i64 (mainIx k)) ∧ w = w' := by
 obtain ⟨post, hpost⟩ : ∃ post : Ending → World → Prop, post = fun e w' => e = .returned (.int .i64 (mainIx k)) ∧ w = w' := ⟨_, rfl⟩
 rw [← hpost]
 have HP : Hid (∀ (i : Int), i = mainIx k → post (.returned (.int .i64 i)) w) := tuck fun i h1 => by rw [hpost, h1]; exact ⟨rfl, rfl⟩
 clear hpost
 by_cases h5 : k = 5
 ·subst h5
  have HQ := tuck (HP.out 0 (by decide))
  clear HP
  go_enter Tryz.func132, Tryz.ntmps132
  go_wp2_with fail
  exact HQ.out
 by_cases h15 : k = 15
 ·subst h15
  have HQ := tuck (HP.out 0 (by decide))
  clear HP
  go_enter Tryz.func132, Tryz.ntmps132
  go_wp2_with fail
  exact HQ.out
 by_cases h16 : k = 16
 ·subst h16
  have HQ := tuck (HP.out 0 (by decide))
  clear HP
  go_enter Tryz.func132, Tryz.ntmps132
  go_wp2_with fail
  exact HQ.out
 by_cases h9 : k = 9
 ·subst h9
  have HQ := tuck (HP.out 3 (by decide))
  clear HP
  go_enter Tryz.func132, Tryz.ntmps132
  go_wp2_with fail
  exact HQ.out
 by_cases h12 : k = 12
 ·subst h12
  have HQ := tuck (HP.out 1 (by decide))
  clear HP
  go_enter Tryz.func132, Tryz.ntmps132
  go_wp2_with fail
  exact HQ.out
 have g5 : (k == 5) = false := by simpa using h5
 have g15 : (k == 15) = false := by simpa using h15
 have g16 : (k == 16) = false := by simpa using h16
 have g9 : (k == 9) = false := by simpa using h9
 have g12 : (k == 12) = false := by simpa using h12
 have hm : mainIx k = -1 := by unfold mainIx; (repeat' split) <;> omega
 have HQ := tuck (HP.out (-1) hm.symm)
 clear HP hm
 go_enter Tryz.func132, Tryz.ntmps132
 go_wp2_with fail
 exact HQ.out
set_option maxRecDepth 100000 in
set_option maxHeartbeats 4000000 in
theorem lhstep_any : ∀ (l : List Tm) (k n : Int) (w : World) (v : Value), (Tm.mk k n l).Valid → SlIn w 0 l v → Calls Tryz.prog 111 #[.agg #[.int .i64 k, .int .i64 n, v]] w (StPost w ((Tm.mk k n l).step false true)) := by
 intro l
 induction l using Tm.ind with
 | h l ih =>
 intro k n w v hv hin
 have hroot := hv.root
 have hl4 : l.length ≤ 4 := root_len hroot
 have hsz : sizes l ≤ 1000000 := by have := (valid_bounds hv).1; simp only [Tm.kids] at this; omega
 have hkv : ∀ i (hi : i < l.length), l[i].Valid := fun i hi => hv.get (t := .mk k n l) hi
 obtain ⟨a, cap, b, o, rfl, hlm, hp, hc⟩ := hin.open
 have HRED : Hid (∀ W, Below w.heap.size w W → Calls Tryz.prog 103 #[.agg #[.int .i64 k, .int .i64 n, .slice a l.length cap]] W (IntPost W (Tm.mk k n l).redex)) := tuck fun W h => redS_any (.mk k n l) hroot W (.slice a l.length cap) (hin.below h)
 have HCON : Hid ((Tm.mk k n l).redex ≠ 0 → ∀ W, Below w.heap.size w W → Calls Tryz.prog 67 #[.agg #[.int .i64 k, .int .i64 n, .slice a l.length cap]] W (SPost W (Tm.mk k n l).contr)) := tuck fun hR W h => lcontract_any (.mk k n l) hroot hkv hR W (.slice a l.length cap) (hin.below h)
 have HWITH : Hid (∀ q (_ : q < l.length) (K : Tm) (L' : List Tm) (_ : L' = l.set q K) (W : World) (kv : Value), Below w.heap.size w W → w.heap.size + 2 ≤ W.heap.size → SlIn W (w.heap.size + 2) K.kids kv → Calls Tryz.prog 122 #[.agg #[.int .i64 k, .int .i64 n, .slice a l.length cap], .int .i64 q, .agg #[.int .i64 K.kind, .int .i64 K.num, kv]] W (BPost (w.heap.size + 2) W (.mk k n L'))) := tuck fun q hq K L' hL W kv hb h2 hk => hL ▸ lwith_any (w.heap.size + 2) l k n q hq K W h2 (.slice a l.length cap) kv hl4 hsz (hin.below hb) hk
 have HIH : Hid (∀ q (hq : q < l.length) (W : World) (s : Value), SlIn W 0 l[q].kids s → Calls Tryz.prog 111 #[.agg #[.int .i64 l[q].kind, .int .i64 l[q].num, s]] W (StPost W (l[q].step false true))) := tuck fun q hq W s h => by
  have := ih q hq l[q].kind l[q].num W s (by rw [Tm.eta]; exact hkv q hq) h
  rwa [Tm.eta] at this
 have hstep := Tm.step_head hroot
 have HMX : Hid (mainIx k ≠ -1 → (mainIx k).toNat < l.length ∧ 0 ≤ mainIx k) := tuck fun h => mainIx_lt (t := .mk k n l) hroot h
 have HS := tuck hstep
 have HNO : Hid ((Tm.mk k n l).step false true = none → ∀ w' (k' n' : Int) (a' : Option Addr) (L' c' : Nat), Below w.heap.size w w' → StPost w ((Tm.mk k n l).step false true) (.returned (.tuple #[.agg #[.int .i64 k', .int .i64 n', .slice a' L' c'], .bool false])) w') := tuck fun e w' k' n' a' L' c' h => by rw [e]; exact ⟨h, k', n', a', L', c', rfl⟩
 have HYES : Hid (∀ T, (Tm.mk k n l).step false true = some T → ∀ w' (a : Option Addr) (c : Nat), Below w.heap.size w w' → SlIn w' w.heap.size T.kids (.slice a T.kids.length c) → StPost w ((Tm.mk k n l).step false true) (.returned (.tuple #[.agg #[.int .i64 T.kind, .int .i64 T.num, .slice a T.kids.length c], .bool true])) w') := tuck fun T e w' a c h1 h2 => by rw [e]; exact ⟨h1, a, c, rfl, h2⟩
 have hb2 := below2 w (.cells #[.int .i64 k, .int .i64 n, .slice a l.length cap] 25) (.cells #[.int .i64 0, .int .i64 0, .slice none 0 0] 25)
 have HV0 := tuck ((VarAt.new w k n (.slice a l.length cap)).below (below1 _ (.cells #[.int .i64 0, .int .i64 0, .slice none 0 0] 25)))
 have HV1 := tuck (var_new1 w (.cells #[.int .i64 k, .int .i64 n, .slice a l.length cap] 25) 0 0 (.slice none 0 0))
 have HB2 := tuck hb2
 have HP := tuck hp
 have HC := tuck hc
 have HZ : Hid (((w.alloc (.cells #[.int .i64 k, .int .i64 n, .slice a l.length cap] 25)).alloc (.cells #[.int .i64 0, .int .i64 0, .slice none 0 0] 25)).heap.size = w.heap.size + 2) := tuck (by simp)
 generalize StPost w ((Tm.mk k n l).step false true) = post at *
 clear ih hp hc hin hv hroot hkv hsz hl4 hb2 hstep
 unfold maxLen at hlm
 by_cases hR : (Tm.mk k n l).redex ≠ 0
 ·have hfin : (Tm.mk k n l).step false true = some (Tm.mk k n l).contr := by rw [HS.out, if_pos hR]
  replace HYES := tuck (HYES.out _ hfin)
  replace HCON := tuck (HCON.out hR)
  have hRi : ((Tm.mk k n l).redex != 0) = true := by simp [hR]
  clear hfin HNO HWITH HIH HS HMX
  generalize (Tm.mk k n l).redex = R at *
  generalize (Tm.mk k n l).contr = T at *
  go_enter Tryz.func111, Tryz.ntmps111
  go_wp2_with fail
  generalize (w.alloc (.cells #[.int .i64 k, .int .i64 n, .slice a l.length cap] 25)).alloc (.cells #[.int .i64 0, .int .i64 0, .slice none 0 0] 25) = W0 at *
  refine (HRED.out _ HB2.out).mono ?_
  rintro e w1 ⟨rfl, hb1⟩
  have HVA := tuck (HV0.out.below hb1)
  have HVR := tuck (HV1.out.below hb1)
  have HB1 := tuck (bAfter HB2.out hb1)
  have HZ1 : Hid (w.heap.size + 2 ≤ w1.heap.size) := tuck (by have := HZ.out; have := hb1.size; omega)
  obtain ⟨z0, a0, a1, a2, -⟩ := HVA.out.facts
  obtain ⟨z1, r0, r1, r2, rf⟩ := HVR.out.facts
  clear hb1 HRED
  go_wp2_with fail
  refine (HCON.out _ HB1.out).mono ?_
  rintro e w4 hp4
  obtain ⟨ua, uc, rfl, hb4, hs4⟩ := hp4.open
  obtain ⟨z1', r0', r1', r2', rf'⟩ := (HVR.out.below hb4).facts
  have HB4 := tuck (bAfter HB1.out hb4)
  have HS4 := tuck hs4
  have HSZ : Hid (w.heap.size + 1 < w1.heap.size) := tuck z1
  clear hp4 hb4 hs4 HCON
  go_wp2_with fail
  refine bodyPost_ret (v := .tuple #[.agg #[.int .i64 T.kind, .int .i64 T.num, .slice ua T.kids.length uc], .bool true]) (by simp [results, Tryz.results111, go_sem, *]) rfl (HYES.out _ ua uc ?_ ?_)
  ·exact bSet3 HB4.out (Nat.le_succ _) _ _ _ _ _ _
  ·exact (SlIn.set3 HS4.out HSZ.out).mono HB1.out.size
 ·have hR0 : (Tm.mk k n l).redex = 0 := Classical.byContradiction hR
  rw [hR0] at HRED
  replace HS : Hid ((Tm.mk k n l).step false true = if mainIx k = -1 then none else ((kidT (.mk k n l) (mainIx k).toNat).step false true).map fun x => .mk k n (l.set (mainIx k).toNat x)) := tuck (by rw [HS.out, if_neg hR]; rfl)
  clear HCON hR hR0
  have HLM := tuck (lmain_any k)
  by_cases hm : mainIx k = -1
  ·have hfin : (Tm.mk k n l).step false true = none := by rw [HS.out, if_pos hm]
   replace HNO := tuck (HNO.out hfin)
   rw [hm] at HLM
   clear hfin HYES HWITH HIH HS HMX hm
   go_enter Tryz.func111, Tryz.ntmps111
   go_wp2_with fail
   generalize (w.alloc (.cells #[.int .i64 k, .int .i64 n, .slice a l.length cap] 25)).alloc (.cells #[.int .i64 0, .int .i64 0, .slice none 0 0] 25) = W0 at *
   refine (HRED.out _ HB2.out).mono ?_
   rintro e w1 ⟨rfl, hb1⟩
   have HVA := tuck (HV0.out.below hb1)
   have HVR := tuck (HV1.out.below hb1)
   have HB1 := tuck (bAfter HB2.out hb1)
   have HZ1 : Hid (w.heap.size + 2 ≤ w1.heap.size) := tuck (by have := HZ.out; have := hb1.size; omega)
   obtain ⟨z0, a0, a1, a2, -⟩ := HVA.out.facts
   obtain ⟨z1, r0, r1, r2, rf⟩ := HVR.out.facts
   clear hb1 HRED
   go_wp2_with fail
   refine (HLM.out _).mono ?_
   rintro e w3 ⟨rfl, rfl⟩
   go_wp2_with fail
   refine bodyPost_ret (v := .tuple #[.agg #[.int .i64 k, .int .i64 n, .slice a l.length cap], .bool false]) (by simp [results, Tryz.results111, go_sem, *]) rfl (HNO.out _ _ _ _ _ _ ?_)
   exact bSet3 HB1.out (Nat.le_succ _) _ _ _ _ _ _
  ·obtain ⟨hlt, h0⟩ := HMX.out hm
   obtain ⟨q, hqq⟩ : ∃ q : Nat, mainIx k = (q : Int) := ⟨(mainIx k).toNat, by omega⟩
   rw [hqq] at HLM
   have hqn : (mainIx k).toNat = q := by omega
   rw [hqn] at hlt
   replace HS : Hid ((Tm.mk k n l).step false true = (l[q].step false true).map fun x => .mk k n (l.set q x)) := tuck (by rw [HS.out, if_neg hm, hqn, kidT_eq hlt]; rfl)
   clear HMX hm h0 hqq hqn
   have hlti : ((q : Int) < (l.length : Int)) := by omega
   have hq0 : ¬ ((q : Int) < 0) := by omega
   have hq00 : (0 : Int) ≤ (q : Int) := by omega
   obtain ⟨rfl, _, hbw⟩ := HP.out (by intro e; rw [e] at hlt; simp at hlt)
   obtain ⟨s, c0, c1, c2, hs⟩ := HC.out q hlt
   obtain ⟨sa, sc, rfl⟩ := hs.form
   have HSK := tuck hs
   have HC0 := tuck c0
   have HC1 := tuck c1
   have HC2 := tuck c2
   have HIQ := tuck (fun W s h => HIH.out q hlt W s h)
   have HWQ := tuck (HWITH.out q hlt)
   clear hs HIH HWITH c0 c1 c2 HC HP
   cases hst : l[q].step false true with
   | none =>
    have hfin : (Tm.mk k n l).step false true = none := by rw [HS.out, hst]; rfl
    replace HNO := tuck (HNO.out hfin)
    rw [hst] at HIQ
    clear hfin hst HS HYES HWQ
    generalize l[q] = x at *
    go_enter Tryz.func111, Tryz.ntmps111
    go_wp2_with fail
    generalize (w.alloc (.cells #[.int .i64 k, .int .i64 n, .slice (some ⟨b, o, none⟩) l.length cap] 25)).alloc (.cells #[.int .i64 0, .int .i64 0, .slice none 0 0] 25) = W0 at *
    refine (HRED.out _ HB2.out).mono ?_
    rintro e w1 ⟨rfl, hb1⟩
    have HVA := tuck (HV0.out.below hb1)
    have HVR := tuck (HV1.out.below hb1)
    have HB1 := tuck (bAfter HB2.out hb1)
    have HZ1 : Hid (w.heap.size + 2 ≤ w1.heap.size) := tuck (by have := HZ.out; have := hb1.size; omega)
    obtain ⟨z0, a0, a1, a2, -⟩ := HVA.out.facts
    obtain ⟨z1, r0, r1, r2, rf⟩ := HVR.out.facts
    clear hb1 HRED
    go_wp2_with fail
    refine (HLM.out _).mono ?_
    rintro e w3 ⟨rfl, rfl⟩
    have c0 := (HB1.out.cell (p := ⟨b, o + q * 3, none⟩) hbw).trans HC0.out
    have c1 := (HB1.out.cell (p := ⟨b, o + q * 3 + 1, none⟩) hbw).trans HC1.out
    have c2 := (HB1.out.cell (p := ⟨b, o + q * 3 + 2, none⟩) hbw).trans HC2.out
    go_wp2_with fail
    refine (HIQ.out _ _ (HSK.out.below HB1.out)).mono ?_
    rintro e w4 hp4
    obtain ⟨hb3, k3, n3, a3, L3, c3, rfl⟩ := StPost.no hp4
    have hbx := below1 w4 (.cells #[.int .i64 k3, .int .i64 n3, .slice a3 L3 c3] 25)
    have HB4 := tuck (bAfter HB1.out (bAfter hb3 hbx))
    have hva4 := (HVA.out.below hb3).below hbx
    have hvr4 := (HVR.out.below hb3).below hbx
    clear z0 a0 a1 a2 z1 r0 r1 r2 rf c0 c1 c2 hp4
    obtain ⟨z0, a0, a1, a2, -⟩ := hva4.facts
    obtain ⟨z1, r0, r1, r2, rf⟩ := hvr4.facts
    clear hb3 hbx hva4 hvr4 HIQ
    go_wp2_with fail
    refine bodyPost_ret (v := .tuple #[.agg #[.int .i64 k, .int .i64 n, .slice (some ⟨b, o, none⟩) l.length cap], .bool false]) (by simp [results, Tryz.results111, go_sem, *]) rfl (HNO.out _ _ _ _ _ _ ?_)
    exact bSet3 HB4.out (Nat.le_succ _) _ _ _ _ _ _
   | some T =>
    obtain ⟨L', hL'⟩ : ∃ L', L' = l.set q T := ⟨_, rfl⟩
    have HLQ := tuck hL'
    have hfin : (Tm.mk k n l).step false true = some (.mk k n L') := by rw [HS.out, hst, hL']; rfl
    replace HYES := tuck (HYES.out _ hfin)
    rw [hst] at HIQ
    clear hfin hst HS HNO hL'
    generalize l[q] = x at *
    go_enter Tryz.func111, Tryz.ntmps111
    go_wp2_with fail
    generalize (w.alloc (.cells #[.int .i64 k, .int .i64 n, .slice (some ⟨b, o, none⟩) l.length cap] 25)).alloc (.cells #[.int .i64 0, .int .i64 0, .slice none 0 0] 25) = W0 at *
    refine (HRED.out _ HB2.out).mono ?_
    rintro e w1 ⟨rfl, hb1⟩
    have HVA := tuck (HV0.out.below hb1)
    have HVR := tuck (HV1.out.below hb1)
    have HB1 := tuck (bAfter HB2.out hb1)
    have HZ1 : Hid (w.heap.size + 2 ≤ w1.heap.size) := tuck (by have := HZ.out; have := hb1.size; omega)
    obtain ⟨z0, a0, a1, a2, -⟩ := HVA.out.facts
    obtain ⟨z1, r0, r1, r2, rf⟩ := HVR.out.facts
    clear hb1 HRED
    go_wp2_with fail
    refine (HLM.out _).mono ?_
    rintro e w3 ⟨rfl, rfl⟩
    have c0 := (HB1.out.cell (p := ⟨b, o + q * 3, none⟩) hbw).trans HC0.out
    have c1 := (HB1.out.cell (p := ⟨b, o + q * 3 + 1, none⟩) hbw).trans HC1.out
    have c2 := (HB1.out.cell (p := ⟨b, o + q * 3 + 2, none⟩) hbw).trans HC2.out
    go_wp2_with fail
    refine (HIQ.out _ _ (HSK.out.below HB1.out)).mono ?_
    rintro e w4 hp4
    obtain ⟨hb3, ta, tc, rfl, hs3⟩ := StPost.yes hp4
    have hbx := below1 w4 (.cells #[.int .i64 T.kind, .int .i64 T.num, .slice ta T.kids.length tc] 25)
    have HVA4 := tuck ((HVA.out.below hb3).below hbx)
    have HVR4 := tuck ((HVR.out.below hb3).below hbx)
    have HB4 := tuck (bAfter HB1.out (bAfter hb3 hbx))
    have HVK := tuck (VarAt.new w4 T.kind T.num (.slice ta T.kids.length tc))
    have HW4 := tuck (HWQ.out T L' HLQ.out _ _ HB4.out (by have := hbx.size; have := hb3.size; have := HZ1.out; omega) ((hs3.below hbx).mono HZ1.out))
    clear z0 a0 a1 a2 z1 r0 r1 r2 rf c0 c1 c2 hp4 hb3 hs3 hbx HIQ HWQ
    obtain ⟨y0, b0, b1, b2, -⟩ := HVA4.out.facts
    obtain ⟨y1, d0, d1, d2, -⟩ := HVK.out.facts
    go_wp2_with fail
    generalize w4.alloc (.cells #[.int .i64 T.kind, .int .i64 T.num, .slice ta T.kids.length tc] 25) = W4 at *
    refine HW4.out.mono ?_
    rintro e w5 ⟨hb5, ua, uc, rfl, hs5⟩
    obtain ⟨z1, r0, r1, r2, rf⟩ := (HVR4.out.below hb5).facts
    have HB5 := tuck (bAfter HB4.out hb5)
    have HS5 := tuck hs5
    clear hb5 hs5 HW4
    go_wp2_with fail
    refine bodyPost_ret (v := .tuple #[.agg #[.int .i64 k, .int .i64 n, .slice ua L'.length uc], .bool true]) (by simp [results, Tryz.results111, go_sem, Tm.kind, Tm.num, Tm.kids, *]) rfl (HYES.out _ ua uc ?_ ?_)
    ·exact bSet3 HB5.out (Nat.le_succ _) _ _ _ _ _ _
    ·exact (SlIn.set3 HS5.out (Nat.lt_succ_self _)).mono (by omega)
set_option maxRecDepth 100000 in
theorem fits_any (t : Tm) (fuel : Int) (w : World) (v : Value) (hs : SlIn w 0 t.kids v) : Calls Tryz.prog 52 #[.agg #[.int .i64 t.kind, .int .i64 t.num, v], .int .i64 fuel] w (BoolPost w (tr (NormOk t fuel))) := by
 obtain ⟨a, c, rfl⟩ := hs.form
 have HS := tuck hs
 have hb1 := below1 w (.cells #[.int .i64 t.kind, .int .i64 t.num, .slice a t.kids.length c] 25)
 have HB1 := tuck hb1
 have HV0 := tuck (VarAt.new w t.kind t.num (.slice a t.kids.length c))
 have HVAL := tuck (validS_any t _ _ ⟨_, rfl, hs.below hb1⟩)
 obtain ⟨z0, a0, a1, a2, -⟩ := HV0.out.facts
 by_cases hv : t.Valid
 ·rw [tr_of hv] at HVAL
  by_cases h0 : 0 ≤ fuel
  ·have hg0 : (fuel ≥ 0) := h0
   by_cases h1 : fuel ≤ 200
   ·rw [tr_of (show NormOk t fuel from ⟨hv, h0, h1⟩)]
    clear hs hb1
    go_enter Tryz.func52, Tryz.ntmps52
    go_wp2_with fail
    refine HVAL.out.mono ?_
    rintro e w3 ⟨rfl, hb3⟩
    go_wp2_with fail
    go_ret
    exact ⟨rfl, bAfter HB1.out hb3⟩
   ·rw [tr_not (show ¬ NormOk t fuel from fun h => h1 h.2.2)]
    have hd1 : decide (fuel ≤ 200) = false := decide_eq_false h1
    clear hs hb1
    go_enter Tryz.func52, Tryz.ntmps52
    go_wp2_with fail
    refine HVAL.out.mono ?_
    rintro e w3 ⟨rfl, hb3⟩
    go_wp2_with fail
    go_ret
    exact ⟨rfl, bAfter HB1.out hb3⟩
  ·rw [tr_not (show ¬ NormOk t fuel from fun h => h0 h.2.1)]
   clear hs hb1
   go_enter Tryz.func52, Tryz.ntmps52
   go_wp2_with fail
   refine HVAL.out.mono ?_
   rintro e w3 ⟨rfl, hb3⟩
   go_wp2_with fail
   go_ret
   exact ⟨rfl, bAfter HB1.out hb3⟩
 ·rw [tr_not hv] at HVAL
  rw [tr_not (show ¬ NormOk t fuel from fun h => hv h.1)]
  clear hs hb1
  go_enter Tryz.func52, Tryz.ntmps52
  go_wp2_with fail
  refine HVAL.out.mono ?_
  rintro e w3 ⟨rfl, hb3⟩
  go_wp2_with fail
  go_ret
  exact ⟨rfl, bAfter HB1.out hb3⟩
theorem orZeroH_yes {P : Prop} {T : Tm} (h : P) : orZero P T = T := if_pos h
theorem orZeroH_no {P : Prop} {T : Tm} (h : ¬ P) : orZero P T = zeroT := if_neg h
theorem lheadstep_any (t : Tm) (hv : t.Valid) (w : World) (v : Value) (hs : SlIn w 0 t.kids v) : Calls Tryz.prog 111 #[.agg #[.int .i64 t.kind, .int .i64 t.num, v]] w (StPost w (t.step false true)) := by
 obtain ⟨k, n, l⟩ := t
 exact lhstep_any l k n w v hv hs
set_option maxRecDepth 100000 in
set_option maxHeartbeats 4000000 in
theorem lhead_any (t : Tm) (hv : t.Valid) (fuel : Nat) (hf : fuel ≤ 1000) (w : World) (v : Value) (hs : SlIn w 0 t.kids v) : Calls Tryz.prog 71 #[.agg #[.int .i64 t.kind, .int .i64 t.num, v], .int .i64 fuel] w (OnePost w (runGo false true fuel t).2.1 (orZero ((runGo false true fuel t).2.1 = 0) (runGo false true fuel t).1)) := by
 obtain ⟨a, c, rfl⟩ := hs.form
 have hb2 := below2 w (.cells #[.int .i64 t.kind, .int .i64 t.num, .slice a t.kids.length c] 25) (.cells #[.int .i64 0, .int .i64 0, .slice none 0 0] 25)
 have HV0 := tuck ((VarAt.new w t.kind t.num (.slice a t.kids.length c)).below (below1 _ (.cells #[.int .i64 0, .int .i64 0, .slice none 0 0] 25)))
 have HV1 := tuck (var_new1 w (.cells #[.int .i64 t.kind, .int .i64 t.num, .slice a t.kids.length c] 25) 0 0 (.slice none 0 0))
 have HB2 := tuck hb2
 have HS : Hid (SlX ((w.alloc (.cells #[.int .i64 t.kind, .int .i64 t.num, .slice a t.kids.length c] 25)).alloc (.cells #[.int .i64 0, .int .i64 0, .slice none 0 0] 25)) (fun i => i = w.heap.size ∨ i = w.heap.size + 1) t.kids (.slice a t.kids.length c)) := tuck ((SlX.of_view (hs) (View.self fun i hi => by rcases hi with rfl | rfl <;> omega)).below hb2)
 have HPOK : Hid ((runGo false true fuel t).2.1 = 0 → ∀ w' (a' : Option Addr) (c' : Nat), Below w.heap.size w w' → SlIn w' w.heap.size (runGo false true fuel t).1.kids (.slice a' (runGo false true fuel t).1.kids.length c') → OnePost w (runGo false true fuel t).2.1 (orZero ((runGo false true fuel t).2.1 = 0) (runGo false true fuel t).1) (.returned (.tuple #[.agg #[.int .i64 (runGo false true fuel t).1.kind, .int .i64 (runGo false true fuel t).1.num, .slice a' (runGo false true fuel t).1.kids.length c'], .int .i64 0])) w') := tuck fun h w' a' c' h1 h2 => by
  rw [orZeroH_yes h, h]; exact ⟨h1, a', c', rfl, h2⟩
 have HPNO : Hid (∀ x : Int, x ≠ 0 → (runGo false true fuel t).2.1 = x → ∀ w', Below w.heap.size w w' → OnePost w (runGo false true fuel t).2.1 (orZero ((runGo false true fuel t).2.1 = 0) (runGo false true fuel t).1) (.returned (.tuple #[.agg #[.int .i64 0, .int .i64 0, .slice none 0 0], .int .i64 x])) w') := tuck fun x h0 h w' h1 => by
  rw [orZeroH_no (by rw [h]; exact h0), h]; exact OnePost.zero h1
 have HVAL : Hid t.Valid := tuck hv
 generalize OnePost w (runGo false true fuel t).2.1 (orZero ((runGo false true fuel t).2.1 = 0) (runGo false true fuel t).1) = post at *
 have HRUN : Hid (∃ (T0 : Tm) (C0 : Int), (runGo false true fuel t).1 = T0 ∧ (runGo false true fuel t).2.1 = C0) := tuck ⟨_, _, rfl, rfl⟩
 obtain ⟨T0, C0, hT0, hC0⟩ := HRUN.out
 rw [hT0, hC0] at HPOK
 rw [hC0] at HPNO
 have HT := tuck hT0
 have HC := tuck hC0
 have HZ : Hid (((w.alloc (.cells #[.int .i64 t.kind, .int .i64 t.num, .slice a t.kids.length c] 25)).alloc (.cells #[.int .i64 0, .int .i64 0, .slice none 0 0] 25)).heap.size = w.heap.size + 2) := tuck (by simp)
 clear hs hb2 hv HRUN hT0 hC0
 go_enter Tryz.func71, Tryz.ntmps71
 go_wp2_with fail
 generalize (w.alloc (.cells #[.int .i64 t.kind, .int .i64 t.num, .slice a t.kids.length c] 25)).alloc (.cells #[.int .i64 0, .int .i64 0, .slice none 0 0] 25) = W0 at *
 go_loopw [1] (fun i wr => ∃ (f : Nat) (t' : Tm) (s' : Value), i = .int .i64 f ∧ f ≤ fuel ∧ t'.Valid ∧ (runGo false true f t').1 = T0 ∧ (runGo false true f t').2.1 = C0 ∧ Below w.heap.size w wr ∧ VarAt w.heap.size t'.kind t'.num s' wr ∧ VarAt (w.heap.size + 1) 0 0 (.slice none 0 0) wr ∧ SlX wr (fun i => i = w.heap.size ∨ i = w.heap.size + 1) t'.kids s') (fun i _ => (intOf i).toNat)
 case atStart => exact ⟨fuel, t, _, rfl, Nat.le_refl _, HVAL.out, HT.out, HC.out, HB2.out, HV0.out, HV1.out, HS.out⟩
 case round =>
  obtain ⟨f, t', s', rfl, hf', hv', hT, hC, hb, hva, hvr, hsx⟩ := hrel
  obtain ⟨sa, sc, rfl⟩ := hsx.form
  have HON := tuck (lheadstep_any t' hv' wr _ hsx.sl)
  have HVA := tuck hva
  have HVR := tuck hvr
  have HB := tuck hb
  have HSX := tuck hsx
  obtain ⟨z0, a0, a1, a2, -⟩ := hva.facts
  have hsz1 : w.heap.size + 1 < wr.heap.size := hvr.facts.1
  have HSZ1 := tuck hsz1
  have HSZ0 : Hid (w.heap.size ≤ wr.heap.size) := tuck hb.size
  have hf3 : f ≤ 1000 := by omega
  clear hva hvr hb hsx HV0 HV1 HB2 HS HVAL HT HC
  cases hstep : t'.step false true with
  | none =>
   rw [hstep] at HON
   rw [runGo_none hstep] at hT hC
   obtain rfl : t' = T0 := hT
   obtain rfl : (0 : Int) = C0 := hC
   replace HPOK := tuck (HPOK.out rfl)
   have HCP : Hid (∀ W s, SlIn W 0 t'.kids s → Calls Tryz.prog 78 #[.agg #[.int .i64 t'.kind, .int .i64 t'.num, s]] W (MadePost W t')) := tuck fun W s h => by
    have := lcopy_any t'.kids t'.kind t'.num W s (by have := (valid_bounds hv').1; omega) h
    rwa [Tm.eta] at this
   clear hstep HPNO hv'
   go_wp2_with fail
   refine HON.out.mono ?_
   rintro e w3 hp3
   obtain ⟨hb3, k3, n3, a3, L3, c3, rfl⟩ := StPost.no hp3
   have hbx := below1 w3 (.cells #[.int .i64 k3, .int .i64 n3, .slice a3 L3 c3] 25)
   have HB3 := tuck (bAfter HB.out (bAfter hb3 hbx))
   have hva3 := (HVA.out.below hb3).below hbx
   have HVR3 := tuck ((HVR.out.below hb3).below hbx)
   have HC3 := tuck (HCP.out _ _ ((HSX.out.below hb3).below hbx).sl)
   clear hp3 hb3 hbx HON a0 a1 a2 z0 HCP
   obtain ⟨z0, a0, a1, a2, -⟩ := hva3.facts
   clear hva3
   go_wp2_with fail
   refine HC3.out.mono ?_
   rintro e w5 hp5
   obtain ⟨ua, uc, rfl, hb5, hs5⟩ := hp5.s.open
   obtain ⟨z1, r0, r1, r2, rf⟩ := (HVR3.out.below hb5).facts
   have HB5 := tuck (bAfter HB3.out hb5)
   have HS5 := tuck hs5
   have HZ5 : Hid (w.heap.size + 1 < (w3.alloc (.cells #[.int .i64 k3, .int .i64 n3, .slice a3 L3 c3] 25)).heap.size ∧ w.heap.size ≤ (w3.alloc (.cells #[.int .i64 k3, .int .i64 n3, .slice a3 L3 c3] 25)).heap.size) := tuck ⟨HVR3.out.facts.1, HB3.out.size⟩
   clear hp5 hb5 hs5 HC3
   go_wp2_with fail
   refine bodyPost_ret (v := .tuple #[.agg #[.int .i64 t'.kind, .int .i64 t'.num, .slice ua t'.kids.length uc], .int .i64 0]) (by simp [results, Tryz.results71, go_sem, *]) rfl (HPOK.out _ ua uc ?_ ?_)
   ·exact bSet3 HB5.out (Nat.le_succ _) _ _ _ _ _ _
   ·exact (SlIn.set3 HS5.out HZ5.out.1).mono HZ5.out.2
  | some t'' =>
   rw [hstep] at HON
   have HVL : Hid (∀ (W : World) (s : Value), SlIn W 0 t''.kids s → Calls Tryz.prog 60 #[.agg #[.int .i64 t''.kind, .int .i64 t''.num, s]] W (BoolPost W (tr t''.Valid))) := tuck fun W s h => validS_any t'' W _ ⟨_, rfl, h⟩
   match f, hf' , hT, hC, hf3 with
   | 0, _, hT, hC, _ =>
    rw [runGo_zero hstep] at hT hC
    obtain rfl : (1 : Int) = C0 := hC
    replace HPNO := tuck (HPNO.out 1 (by decide) rfl)
    clear hstep HPOK hv' hT HVL
    go_wp2_with fail
    refine HON.out.mono ?_
    rintro e w3 hp3
    obtain ⟨hb3, ua, uc, rfl, hs3⟩ := StPost.yes hp3
    have hbx := below1 w3 (.cells #[.int .i64 t''.kind, .int .i64 t''.num, .slice ua t''.kids.length uc] 25)
    have HB3 := tuck (bAfter HB.out (bAfter hb3 hbx))
    obtain ⟨z1, r0, r1, r2, rf⟩ := ((HVR.out.below hb3).below hbx).facts
    clear hp3 hb3 hs3 hbx HON a0 a1 a2 z0
    go_wp2_with fail
    refine bodyPost_ret (v := .tuple #[.agg #[.int .i64 0, .int .i64 0, .slice none 0 0], .int .i64 1]) (by simp [results, Tryz.results71, go_sem, *]) rfl (HPNO.out _ ?_)
    exact bSet3 HB3.out (Nat.le_succ _) _ _ _ _ _ _
   | f + 1, hf', hT, hC, hf3 =>
    have hfi : ¬ (((f + 1 : Nat) : Int) < 1) := by omega
    by_cases hv'' : t''.Valid
    ·rw [tr_of hv''] at HVL
     rw [runGo_took hstep hv''] at hT hC
     have HT : Hid ((runGo false true f t'').1 = T0) := tuck hT
     have HC : Hid ((runGo false true f t'').2.1 = C0) := tuck hC
     clear hstep HPOK HPNO hv' hT hC
     go_wp2_with fail
     refine HON.out.mono ?_
     rintro e w3 hp3
     obtain ⟨hb3, ua, uc, rfl, hs3⟩ := StPost.yes hp3
     have hbx := below1 w3 (.cells #[.int .i64 t''.kind, .int .i64 t''.num, .slice ua t''.kids.length uc] 25)
     have HVO := tuck (VarAt.new w3 t''.kind t''.num (.slice ua t''.kids.length uc))
     have HB3 := tuck (bAfter HB.out (bAfter hb3 hbx))
     have HVA3 := tuck ((HVA.out.below hb3).below hbx)
     have HVR3 := tuck ((HVR.out.below hb3).below hbx)
     have HC3 := tuck (HVL.out _ _ ((hs3.below hbx).mono (Nat.zero_le _)))
     have HS3 := tuck (SlX.of_sl (X := (fun i => i = w.heap.size ∨ i = w.heap.size + 1)) (hs3.below hbx) (fun i hi => by have := HSZ1.out; rcases hi with rfl | rfl <;> omega))
     obtain ⟨y0, b0, b1, b2, -⟩ := HVO.out.facts
     clear hp3 hb3 hs3 hbx HON a0 a1 a2 z0
     go_wp2_with fail
     refine HC3.out.mono ?_
     rintro e w4 ⟨rfl, hb4⟩
     obtain ⟨z1, r0, r1, r2, rf⟩ := (HVA3.out.below hb4).facts
     obtain ⟨y0', b0', b1', b2', -⟩ := (HVO.out.below hb4).facts
     have HB4 := tuck (bAfter HB3.out hb4)
     have HVA4 := tuck (HVA3.out.below hb4)
     have HVR4 := tuck (HVR3.out.below hb4)
     have HS4 := tuck (HS3.out.below hb4)
     clear hb4 HC3 y0 b0 b1 b2
     go_wp2_with fail
     go_roundw
     case rel => exact ⟨f, t'', _, by go_num, by omega, hv'', HT.out, HC.out, bSet3 HB4.out (Nat.le_refl _) _ _ _ _ _ _, HVA4.out.set3, HVR4.out.far3 (by omega) _ _ _ _ _ _, HS4.out.put (Or.inl rfl) _ _ _ _ _ _⟩
     case measure => (simp [intOf]; try omega)
    ·rw [tr_not hv''] at HVL
     rw [runGo_large hstep hv''] at hT hC
     obtain rfl : (2 : Int) = C0 := hC
     replace HPNO := tuck (HPNO.out 2 (by decide) rfl)
     clear hstep HPOK hv' hT
     go_wp2_with fail
     refine HON.out.mono ?_
     rintro e w3 hp3
     obtain ⟨hb3, ua, uc, rfl, hs3⟩ := StPost.yes hp3
     have hbx := below1 w3 (.cells #[.int .i64 t''.kind, .int .i64 t''.num, .slice ua t''.kids.length uc] 25)
     have HVO := tuck (VarAt.new w3 t''.kind t''.num (.slice ua t''.kids.length uc))
     have HB3 := tuck (bAfter HB.out (bAfter hb3 hbx))
     have HVR3 := tuck ((HVR.out.below hb3).below hbx)
     have HC3 := tuck (HVL.out _ _ ((hs3.below hbx).mono (Nat.zero_le _)))
     obtain ⟨y0, b0, b1, b2, -⟩ := HVO.out.facts
     clear hp3 hb3 hs3 hbx HON a0 a1 a2 z0
     go_wp2_with fail
     refine HC3.out.mono ?_
     rintro e w4 ⟨rfl, hb4⟩
     obtain ⟨z1, r0, r1, r2, rf⟩ := (HVR3.out.below hb4).facts
     have HB4 := tuck (bAfter HB3.out hb4)
     clear hb4 HC3 y0 b0 b1 b2
     go_wp2_with fail
     refine bodyPost_ret (v := .tuple #[.agg #[.int .i64 0, .int .i64 0, .slice none 0 0], .int .i64 2]) (by simp [results, Tryz.results71, go_sem, *]) rfl (HPNO.out _ ?_)
     exact bSet3 HB4.out (Nat.le_succ _) _ _ _ _ _ _
set_option maxRecDepth 100000 in
set_option maxHeartbeats 4000000 in
theorem headS_any (t : Tm) (fuel : Int) (w : World) (v : Value) (h : TmIn w 0 t v) : Calls Tryz.prog 36 #[v, .int .i64 fuel] w (SCodePost w (normC false true t fuel) (normT false true t fuel)) := by
 obtain ⟨s, rfl, hs⟩ := h
 obtain ⟨a, c, rfl⟩ := hs.form
 have hb2 := below2 w (.cells #[.int .i64 t.kind, .int .i64 t.num, .slice a t.kids.length c] 25) (.cells #[.int .i64 0, .int .i64 0, .slice none 0 0] 25)
 have HV0 := tuck ((VarAt.new w t.kind t.num (.slice a t.kids.length c)).below (below1 _ (.cells #[.int .i64 0, .int .i64 0, .slice none 0 0] 25)))
 have HV1 := tuck (var_new1 w (.cells #[.int .i64 t.kind, .int .i64 t.num, .slice a t.kids.length c] 25) 0 0 (.slice none 0 0))
 have HB2 := tuck hb2
 have HS := tuck hs
 have HFI := tuck (fits_any t fuel _ _ (hs.below hb2))
 by_cases hok : NormOk t fuel
 ·rw [tr_of hok] at HFI
  obtain ⟨F, rfl⟩ : ∃ F : Nat, fuel = (F : Int) := ⟨fuel.toNat, by have := hok.2.1; omega⟩
  have hC : normC false true t F = (runGo false true F t).2.1 := by unfold normC; rw [if_pos hok]; rfl
  have hT : normT false true t F = orZero ((runGo false true F t).2.1 = 0) (runGo false true F t).1 := by unfold normT; rw [hC]; rfl
  rw [hC, hT]
  have HHE : Hid (∀ W, Below w.heap.size w W → Calls Tryz.prog 71 #[.agg #[.int .i64 t.kind, .int .i64 t.num, .slice a t.kids.length c], .int .i64 F] W (OnePost W (runGo false true F t).2.1 (orZero ((runGo false true F t).2.1 = 0) (runGo false true F t).1))) := tuck fun W hb => lhead_any t hok.1 F (by have := hok.2.2; omega) W _ (HS.out.below hb)
  have HP1 : Hid (∀ w' (a' : Option Addr) (c' : Nat), Below w.heap.size w w' → SlIn w' 0 (orZero ((runGo false true F t).2.1 = 0) (runGo false true F t).1).kids (.slice a' (orZero ((runGo false true F t).2.1 = 0) (runGo false true F t).1).kids.length c') → SCodePost w (runGo false true F t).2.1 (orZero ((runGo false true F t).2.1 = 0) (runGo false true F t).1) (.returned (.tuple #[.agg #[.int .i64 (orZero ((runGo false true F t).2.1 = 0) (runGo false true F t).1).kind, .int .i64 (orZero ((runGo false true F t).2.1 = 0) (runGo false true F t).1).num, .slice a' (orZero ((runGo false true F t).2.1 = 0) (runGo false true F t).1).kids.length c'], .int .i64 (runGo false true F t).2.1])) w') := tuck fun w' a' c' h1 h2 => ⟨h1, _, rfl, _, rfl, h2⟩
  generalize SCodePost w (runGo false true F t).2.1 (orZero ((runGo false true F t).2.1 = 0) (runGo false true F t).1) = post at *
  generalize orZero ((runGo false true F t).2.1 = 0) (runGo false true F t).1 = U at *
  generalize (runGo false true F t).2.1 = cc at *
  clear hs hb2 hok hC hT HS
  go_enter Tryz.func36, Tryz.ntmps36
  go_wp2_with fail
  generalize (w.alloc (.cells #[.int .i64 t.kind, .int .i64 t.num, .slice a t.kids.length c] 25)).alloc (.cells #[.int .i64 0, .int .i64 0, .slice none 0 0] 25) = W0 at *
  refine HFI.out.mono ?_
  rintro e w3 ⟨rfl, hb3⟩
  have HB3 := tuck (bAfter HB2.out hb3)
  have HR3 := tuck (HV1.out.below hb3)
  obtain ⟨z0, a0, a1, a2, -⟩ := (HV0.out.below hb3).facts
  have HH3 := tuck (HHE.out _ HB3.out)
  clear hb3 HHE HFI
  go_wp2_with fail
  refine HH3.out.mono ?_
  rintro e w5 ⟨hb5, xa, xc, rfl, hs5⟩
  obtain ⟨z1, r0, r1, r2, rf⟩ := (HR3.out.below hb5).facts
  have HB5 := tuck (bAfter HB3.out hb5)
  have HS5 := tuck hs5
  have HZ5 : Hid (w.heap.size + 1 < w3.heap.size) := tuck HR3.out.facts.1
  clear hb5 hs5 HH3
  go_wp2_with fail
  refine bodyPost_ret (v := .tuple #[.agg #[.int .i64 U.kind, .int .i64 U.num, .slice xa U.kids.length xc], .int .i64 cc]) (by simp [results, Tryz.results36, go_sem, *]) rfl (HP1.out _ xa xc ?_ ?_)
  ·exact bSet3 HB5.out (Nat.le_succ _) _ _ _ _ _ _
  ·exact (SlIn.set3 HS5.out HZ5.out).mono (Nat.zero_le _)
 ·rw [tr_not hok] at HFI
  have hC : normC false true t fuel = 3 := by unfold normC; exact if_neg hok
  have hT : normT false true t fuel = zeroT := by unfold normT; rw [hC]; exact if_neg (by decide)
  rw [hC, hT]
  have HP2 : Hid (∀ w', Below w.heap.size w w' → SCodePost w 3 zeroT (.returned (.tuple #[.agg #[.int .i64 0, .int .i64 0, .slice none 0 0], .int .i64 3])) w') := tuck fun w' h1 => (OnePost.zero h1).code
  generalize SCodePost w 3 zeroT = post at *
  clear hs hb2 hok hC hT HS
  go_enter Tryz.func36, Tryz.ntmps36
  go_wp2_with fail
  generalize (w.alloc (.cells #[.int .i64 t.kind, .int .i64 t.num, .slice a t.kids.length c] 25)).alloc (.cells #[.int .i64 0, .int .i64 0, .slice none 0 0] 25) = W0 at *
  refine HFI.out.mono ?_
  rintro e w3 ⟨rfl, hb3⟩
  have HB3 := tuck (bAfter HB2.out hb3)
  obtain ⟨z1, r0, r1, r2, rf⟩ := (HV1.out.below hb3).facts
  clear hb3 HFI
  go_wp2_with fail
  refine bodyPost_ret (v := .tuple #[.agg #[.int .i64 0, .int .i64 0, .slice none 0 0], .int .i64 3]) (by simp [results, Tryz.results36, go_sem, *]) rfl (HP2.out _ ?_)
  exact bSet3 HB3.out (Nat.le_succ _) _ _ _ _ _ _
end Go.Proofs.YtabbbnddfcbdiaaGreat
