/-
  StepS.
-/
import Derived.Test.YtlbikgnanabjgaaGreatQ15
import Derived.Test.YtlbikgnanabjgaaGreatQ18
import Derived.Test.YtlbikgnanabjgaaGreatQ32
import Derived.Test.YtlbikgnanabjgaaGreatQ33
import Derived.Test.YtlbikgnanabjgaaGreatQ34
import Derived.Test.YtlbikgnanabjgaaGreatQ36
import Derived.Test.YtlbikgnanabjgaaGreatQ39
namespace Go.Proofs.YtlbikgnanabjgaaGreat
open Go.RowKit
def StPost (w : World) : Option Tm → Ending → World → Prop
 | none, e, w' => Below w.heap.size w w' ∧ ∃ (k n : Int) (a : Option Addr) (L c : Nat), e = .returned (.tuple #[.agg #[.int .i64 k, .int .i64 n, .slice a L c], .bool false])
 | some T, e, w' => Below w.heap.size w w' ∧ ∃ (a : Option Addr) (c : Nat), e = .returned (.tuple #[.agg #[.int .i64 T.kind, .int .i64 T.num, .slice a T.kids.length c], .bool true]) ∧ SlIn w' w.heap.size T.kids (.slice a T.kids.length c)
theorem stepL_at {rl : Bool} (k : Int) : ∀ (l : List Tm) (j q : Nat) (hq : q < l.length) (t' : Tm), (∀ i (hi : i < l.length), i < q → l[i].step rl false = none) → l[q].step rl false = some t' → stepL rl false k l j = some (l.set q t')
 | t :: l, j, 0, _, t', _, h => by
  have h : t.step rl false = some t' := h
  rw [stepL, if_neg (by simp), h]
  rfl
 | t :: l, j, q + 1, hq, t', hn, h => by
  have h0 : t.step rl false = none := hn 0 (by simp) (Nat.succ_pos _)
  rw [stepL, if_neg (by simp), h0]
  have := stepL_at k l (j + 1) q (by simpa using hq) t' (fun i hi hlt => hn (i + 1) (by simpa using hi) (by omega)) (by simpa using h)
  simp only [this, Option.map_some, List.set_cons_succ]
theorem stepL_no {rl : Bool} (k : Int) : ∀ (l : List Tm) (j : Nat), (∀ i (hi : i < l.length), l[i].step rl false = none) → stepL rl false k l j = none
 | [], _, _ => by rw [stepL]
 | t :: l, j, h => by
  have h0 : t.step rl false = none := h 0 (by simp)
  rw [stepL, if_neg (by simp), h0]
  have := stepL_no k l (j + 1) (fun i hi => h (i + 1) (by simpa using hi))
  simp only [this, Option.map_none]
set_option maxRecDepth 100000 in
set_option maxHeartbeats 4000000 in
theorem lstepT_any : ∀ (l : List Tm) (k n : Int) (w : World) (v : Value), (Tm.mk k n l).Valid → SlIn w 0 l v → Calls Tryz.prog 33 #[.agg #[.int .i64 k, .int .i64 n, v], .bool false] w (StPost w ((Tm.mk k n l).step false false)) := by
 intro l
 induction l using Tm.ind with
 | h l ih =>
 intro k n w v hv hin
 have hroot := hv.root
 have hl4 : l.length ≤ 4 := root_len hroot
 have hsz : sizes l ≤ 1000000 := by have := (valid_bounds hv).1; simp only [Tm.kids] at this; omega
 have hkv : ∀ i (hi : i < l.length), l[i].Valid := fun i hi => hv.get (t := .mk k n l) hi
 obtain ⟨a, cap, b, o, rfl, hlm, hp, hc⟩ := hin.open
 have HRED : Hid (∀ W, Below w.heap.size w W → Calls Tryz.prog 50 #[.agg #[.int .i64 k, .int .i64 n, .slice a l.length cap]] W (IntPost W (Tm.mk k n l).redex)) := tuck fun W h => redS_any (.mk k n l) hroot W (.slice a l.length cap) (hin.below h)
 have HCON : Hid ((Tm.mk k n l).redex ≠ 0 → ∀ W, Below w.heap.size w W → Calls Tryz.prog 51 #[.agg #[.int .i64 k, .int .i64 n, .slice a l.length cap]] W (SPost W (Tm.mk k n l).contr)) := tuck fun hR W h => lcontract_any (.mk k n l) hroot hkv hR W (.slice a l.length cap) (hin.below h)
 have HWITH : Hid (∀ q (_ : q < l.length) (K : Tm) (L' : List Tm) (_ : L' = l.set q K) (W : World) (kv : Value), Below w.heap.size w W → w.heap.size + 2 ≤ W.heap.size → SlIn W (w.heap.size + 2) K.kids kv → Calls Tryz.prog 52 #[.agg #[.int .i64 k, .int .i64 n, .slice a l.length cap], .int .i64 q, .agg #[.int .i64 K.kind, .int .i64 K.num, kv]] W (BPost (w.heap.size + 2) W (.mk k n L'))) := tuck fun q hq K L' hL W kv hb h2 hk => hL ▸ lwith_any (w.heap.size + 2) l k n q hq K W h2 (.slice a l.length cap) kv hl4 hsz (hin.below hb) hk
 have HIH : Hid (∀ q (hq : q < l.length) (W : World) (s : Value), SlIn W 0 l[q].kids s → Calls Tryz.prog 33 #[.agg #[.int .i64 l[q].kind, .int .i64 l[q].num, s], .bool false] W (StPost W (l[q].step false false))) := tuck fun q hq W s h => by
  have := ih q hq l[q].kind l[q].num W s (by rw [Tm.eta]; exact hkv q hq) h
  rwa [Tm.eta] at this
 have hstep : (Tm.mk k n l).step false false = if (Tm.mk k n l).redex ≠ 0 ∧ false = false then some (Tm.mk k n l).contr else match stepL false false k l 0 with | some l' => some (.mk k n l') | none => if (Tm.mk k n l).redex ≠ 0 then some (Tm.mk k n l).contr else none := by rw [Tm.step]; rfl
 have HS := tuck hstep
 have HNO : Hid ((Tm.mk k n l).step false false = none → ∀ w' (k' n' : Int) (a' : Option Addr) (L' c' : Nat), Below w.heap.size w w' → StPost w ((Tm.mk k n l).step false false) (.returned (.tuple #[.agg #[.int .i64 k', .int .i64 n', .slice a' L' c'], .bool false])) w') := tuck fun e w' k' n' a' L' c' h => by rw [e]; exact ⟨h, k', n', a', L', c', rfl⟩
 have HYES : Hid (∀ T, (Tm.mk k n l).step false false = some T → ∀ w' (a : Option Addr) (c : Nat), Below w.heap.size w w' → SlIn w' w.heap.size T.kids (.slice a T.kids.length c) → StPost w ((Tm.mk k n l).step false false) (.returned (.tuple #[.agg #[.int .i64 T.kind, .int .i64 T.num, .slice a T.kids.length c], .bool true])) w') := tuck fun T e w' a c h1 h2 => by rw [e]; exact ⟨h1, a, c, rfl, h2⟩
 have hb2 := below2 w (.cells #[.int .i64 k, .int .i64 n, .slice a l.length cap] 25) (.cells #[.int .i64 0, .int .i64 0, .slice none 0 0] 25)
 have HV0 := tuck ((VarAt.new w k n (.slice a l.length cap)).below (below1 _ (.cells #[.int .i64 0, .int .i64 0, .slice none 0 0] 25)))
 have HV1 := tuck (var_new1 w (.cells #[.int .i64 k, .int .i64 n, .slice a l.length cap] 25) 0 0 (.slice none 0 0))
 have HB2 := tuck hb2
 have HP := tuck hp
 have HC := tuck hc
 have HZ : Hid (((w.alloc (.cells #[.int .i64 k, .int .i64 n, .slice a l.length cap] 25)).alloc (.cells #[.int .i64 0, .int .i64 0, .slice none 0 0] 25)).heap.size = w.heap.size + 2) := tuck (by simp)
 generalize StPost w ((Tm.mk k n l).step false false) = post at *
 clear ih hp hc hin hv hroot hkv hsz hl4 hb2 hstep
 unfold maxLen at hlm
 by_cases hR : (Tm.mk k n l).redex ≠ 0
 ·have hfin : (Tm.mk k n l).step false false = some (Tm.mk k n l).contr := by rw [HS.out, if_pos ⟨hR, rfl⟩]
  replace HYES := tuck (HYES.out _ hfin)
  replace HCON := tuck (HCON.out hR)
  have hRi : ((Tm.mk k n l).redex != 0) = true := by simp [hR]
  clear hfin HNO HWITH HIH HS
  generalize (Tm.mk k n l).redex = R at *
  generalize (Tm.mk k n l).contr = T at *
  go_enter Tryz.func33, Tryz.ntmps33
  go_wp2_with fail
  generalize (w.alloc (.cells #[.int .i64 k, .int .i64 n, .slice a l.length cap] 25)).alloc (.cells #[.int .i64 0, .int .i64 0, .slice none 0 0] 25) = W0 at *
  refine (HRED.out _ HB2.out).mono ?_
  rintro e w1 ⟨rfl, hb1⟩
  have HVA := tuck (HV0.out.below hb1)
  have HVR := tuck (HV1.out.below hb1)
  have HB1 := tuck (bAfter HB2.out hb1)
  have HZ1 : Hid (w.heap.size + 2 ≤ w1.heap.size) := tuck (by have := HZ.out; have := hb1.size; omega)
  obtain ⟨z0, a0, a1, a2, -⟩ := HVA.out.facts
  clear hb1 HRED
  go_wp2_with fail
  refine (HCON.out _ HB1.out).mono ?_
  rintro e w4 hp4
  obtain ⟨ua, uc, rfl, hb4, hs4⟩ := hp4.open
  obtain ⟨z1, r0, r1, r2, rf⟩ := (HVR.out.below hb4).facts
  have HB4 := tuck (bAfter HB1.out hb4)
  have HS4 := tuck hs4
  have HSZ : Hid (w.heap.size + 1 < w1.heap.size) := tuck HVR.out.facts.1
  clear hp4 hb4 hs4 HCON
  go_wp2_with fail
  refine bodyPost_ret (v := .tuple #[.agg #[.int .i64 T.kind, .int .i64 T.num, .slice ua T.kids.length uc], .bool true]) (by simp [results, Tryz.results33, go_sem, *]) rfl (HYES.out _ ua uc ?_ ?_)
  ·exact bSet3 HB4.out (Nat.le_succ _) _ _ _ _ _ _
  ·exact (SlIn.set3 HS4.out HSZ.out).mono HB1.out.size
 ·have hR0 : (Tm.mk k n l).redex = 0 := Classical.byContradiction hR
  have hR : ¬ ((Tm.mk k n l).redex ≠ 0) := hR
  rw [hR0] at HRED
  have HHR := tuck hR
  go_enter Tryz.func33, Tryz.ntmps33
  go_wp2_with fail
  generalize (w.alloc (.cells #[.int .i64 k, .int .i64 n, .slice a l.length cap] 25)).alloc (.cells #[.int .i64 0, .int .i64 0, .slice none 0 0] 25) = W0 at *
  refine (HRED.out _ HB2.out).mono ?_
  rintro e w1 ⟨rfl, hb1⟩
  have HVA := tuck (HV0.out.below hb1)
  have HVR := tuck (HV1.out.below hb1)
  have HB1 := tuck (bAfter HB2.out hb1)
  have HZ1 : Hid (w.heap.size + 2 ≤ w1.heap.size) := tuck (by have := HZ.out; have := hb1.size; omega)
  obtain ⟨z0, a0, a1, a2, -⟩ := HVA.out.facts
  clear hb1 HRED
  go_wp2_with fail
  have hb1s : w.heap.size + 2 ≤ w1.heap.size := HZ1.out
  generalize w1 = W1 at *
  have HZW : Hid (w.heap.size + 2 ≤ W1.heap.size) := tuck hb1s
  go_loopw [6] (fun i wr => ∃ q : Nat, q ≤ l.length ∧ i = .int .i64 q ∧ (∀ j (hj : j < l.length), j < q → l[j].step false false = none) ∧ Below W1.heap.size W1 wr) (fun i _ => l.length - (intOf i).toNat)
  case atStart => exact ⟨0, Nat.zero_le _, rfl, fun _ _ h => absurd h (Nat.not_lt_zero _), Below.refl _ _⟩
  case round =>
   obtain ⟨q, hq, rfl, hno, hb⟩ := hrel
   obtain ⟨z0, a0, a1, a2, -⟩ := (HVA.out.below hb).facts
   obtain ⟨z1, r0, r1, r2, rf⟩ := (HVR.out.below hb).facts
   have hbb := bAfter HB1.out hb
   have HBB := tuck hbb
   have HNN := tuck hno
   have HVAr := tuck (HVA.out.below hb)
   have HVRr := tuck (HVR.out.below hb)
   have HBR := tuck hb
   clear hno hb
   by_cases hlt : q < l.length
   ·have hlti : ((q : Int) < (l.length : Int)) := by omega
    obtain ⟨rfl, _, hbw⟩ := HP.out (by intro e; rw [e] at hlt; simp at hlt)
    obtain ⟨s, c0, c1, c2, hs⟩ := HC.out q hlt
    obtain ⟨sa, sc, rfl⟩ := hs.form
    replace c0 := (hbb.cell (p := ⟨b, o + q * 3, none⟩) hbw).trans c0
    replace c1 := (hbb.cell (p := ⟨b, o + q * 3 + 1, none⟩) hbw).trans c1
    replace c2 := (hbb.cell (p := ⟨b, o + q * 3 + 2, none⟩) hbw).trans c2
    have HCALL := tuck (HIH.out q hlt _ _ (hs.below hbb))
    have HWQ := tuck (HWITH.out q hlt)
    clear hs HIH HWITH HCON
    cases hst : l[q].step false false with
    | none =>
     rw [hst] at HCALL
     have HNX : Hid (∀ j (hj : j < l.length), j < q + 1 → l[j].step false false = none) := tuck fun j hj hjq => by
      by_cases e : j = q
      ·subst e; exact hst
      ·exact HNN.out j hj (by omega)
     clear hst
     generalize l[q] = x at *
     go_wp2_with fail
     refine HCALL.out.mono ?_
     rintro e w3 ⟨hb3, k3, n3, a3, L3, c3, rfl⟩
     have HB3 := tuck (bAfter HBR.out (bAfter hb3 (below1 w3 (.cells #[.int .i64 k3, .int .i64 n3, .slice a3 L3 c3] 25))))
     clear hb3 HCALL c0 c1 c2
     go_wp2_with fail
     go_roundw
     case rel => exact ⟨q + 1, by omega, by go_num, HNX.out, HB3.out⟩
     case measure => simp [intOf]; omega
    | some T =>
     rw [hst] at HCALL
     obtain ⟨L', hL'⟩ : ∃ L', L' = l.set q T := ⟨_, rfl⟩
     have HLQ := tuck hL'
     have hfin : (Tm.mk k n l).step false false = some (.mk k n L') := by
      rw [hL', HS.out, if_neg (fun h => hR h.1), stepL_at k l 0 q hlt T (fun i hi h => HNN.out i hi h) hst]
     replace HYES := tuck (HYES.out _ hfin)
     clear hst hfin hL'
     generalize l[q] = x at *
     go_wp2_with fail
     refine HCALL.out.mono ?_
     rintro e w3 ⟨hb3, ta, tc, rfl, hs3⟩
     have hbx := below1 w3 (.cells #[.int .i64 T.kind, .int .i64 T.num, .slice ta T.kids.length tc] 25)
     have HVA4 := tuck ((HVAr.out.below hb3).below hbx)
     have HVR4 := tuck ((HVRr.out.below hb3).below hbx)
     have HB4 := tuck (bAfter HBB.out (bAfter hb3 hbx))
     have HVK := tuck (VarAt.new w3 T.kind T.num (.slice ta T.kids.length tc))
     have HW4 := tuck (HWQ.out T L' HLQ.out _ _ HB4.out (by have := hbx.size; have := hb3.size; have := HBR.out.size; have := HZW.out; omega) ((hs3.below hbx).mono (by have := HBR.out.size; have := HZW.out; omega)))
     obtain ⟨y0, b0, b1, b2, -⟩ := HVA4.out.facts
     obtain ⟨y1, d0, d1, d2, -⟩ := HVK.out.facts
     clear hb3 hs3 hbx HCALL HWQ z0 z1 a0 a1 a2 r0 r1 r2 rf c0 c1 c2
     go_wp2_with fail
     generalize w3.alloc (.cells #[.int .i64 T.kind, .int .i64 T.num, .slice ta T.kids.length tc] 25) = W4 at *
     refine HW4.out.mono ?_
     rintro e w5 ⟨hb5, ua, uc, rfl, hs5⟩
     obtain ⟨z1, r0, r1, r2, rf⟩ := (HVR4.out.below hb5).facts
     have HB5 := tuck (bAfter HB4.out hb5)
     have HS5 := tuck hs5
     clear hb5 hs5 HW4
     go_wp2_with fail
     refine bodyPost_ret (v := .tuple #[.agg #[.int .i64 k, .int .i64 n, .slice ua L'.length uc], .bool true]) (by simp [results, Tryz.results33, go_sem, Tm.kind, Tm.num, Tm.kids, *]) rfl (HYES.out _ ua uc ?_ ?_)
     ·exact bSet3 HB5.out (Nat.le_succ _) _ _ _ _ _ _
     ·exact (SlIn.set3 HS5.out (Nat.lt_succ_self _)).mono (by omega)
   ·have hql : q = l.length := by omega
    subst hql
    have hge2 : ¬ ((l.length : Int) < (l.length : Int)) := by omega
    have hnone : stepL false false k l 0 = none := stepL_no k l 0 fun i hi => HNN.out i hi hi
    have hfin : (Tm.mk k n l).step false false = none := by
     rw [HS.out, if_neg (fun h => hR h.1), hnone]
     exact if_neg hR
    replace HNO := tuck (HNO.out hfin)
    clear hfin hnone HNN HYES
    go_wp2_with fail
    refine bodyPost_ret (v := .tuple #[.agg #[.int .i64 k, .int .i64 n, .slice a l.length cap], .bool false]) (by simp [results, Tryz.results33, go_sem, *]) rfl (HNO.out _ _ _ _ _ _ ?_)
    exact bSet3 HBB.out (Nat.le_succ _) _ _ _ _ _ _
set_option maxRecDepth 100000 in
set_option maxHeartbeats 4000000 in
theorem lstepN_any : ∀ (l : List Tm) (k n : Int) (w : World) (v : Value), (Tm.mk k n l).Valid → SlIn w 0 l v → Calls Tryz.prog 33 #[.agg #[.int .i64 k, .int .i64 n, v], .bool true] w (StPost w ((Tm.mk k n l).step true false)) := by
 intro l
 induction l using Tm.ind with
 | h l ih =>
 intro k n w v hv hin
 have hroot := hv.root
 have hl4 : l.length ≤ 4 := root_len hroot
 have hsz : sizes l ≤ 1000000 := by have := (valid_bounds hv).1; simp only [Tm.kids] at this; omega
 have hkv : ∀ i (hi : i < l.length), l[i].Valid := fun i hi => hv.get (t := .mk k n l) hi
 obtain ⟨a, cap, b, o, rfl, hlm, hp, hc⟩ := hin.open
 have HRED : Hid (∀ W, Below w.heap.size w W → Calls Tryz.prog 50 #[.agg #[.int .i64 k, .int .i64 n, .slice a l.length cap]] W (IntPost W (Tm.mk k n l).redex)) := tuck fun W h => redS_any (.mk k n l) hroot W (.slice a l.length cap) (hin.below h)
 have HCON : Hid ((Tm.mk k n l).redex ≠ 0 → ∀ W, Below w.heap.size w W → Calls Tryz.prog 51 #[.agg #[.int .i64 k, .int .i64 n, .slice a l.length cap]] W (SPost W (Tm.mk k n l).contr)) := tuck fun hR W h => lcontract_any (.mk k n l) hroot hkv hR W (.slice a l.length cap) (hin.below h)
 have HWITH : Hid (∀ q (_ : q < l.length) (K : Tm) (L' : List Tm) (_ : L' = l.set q K) (W : World) (kv : Value), Below w.heap.size w W → w.heap.size + 2 ≤ W.heap.size → SlIn W (w.heap.size + 2) K.kids kv → Calls Tryz.prog 52 #[.agg #[.int .i64 k, .int .i64 n, .slice a l.length cap], .int .i64 q, .agg #[.int .i64 K.kind, .int .i64 K.num, kv]] W (BPost (w.heap.size + 2) W (.mk k n L'))) := tuck fun q hq K L' hL W kv hb h2 hk => hL ▸ lwith_any (w.heap.size + 2) l k n q hq K W h2 (.slice a l.length cap) kv hl4 hsz (hin.below hb) hk
 have HIH : Hid (∀ q (hq : q < l.length) (W : World) (s : Value), SlIn W 0 l[q].kids s → Calls Tryz.prog 33 #[.agg #[.int .i64 l[q].kind, .int .i64 l[q].num, s], .bool true] W (StPost W (l[q].step true false))) := tuck fun q hq W s h => by
  have := ih q hq l[q].kind l[q].num W s (by rw [Tm.eta]; exact hkv q hq) h
  rwa [Tm.eta] at this
 have hstep : (Tm.mk k n l).step true false = if (Tm.mk k n l).redex ≠ 0 ∧ true = false then some (Tm.mk k n l).contr else match stepL true false k l 0 with | some l' => some (.mk k n l') | none => if (Tm.mk k n l).redex ≠ 0 then some (Tm.mk k n l).contr else none := by rw [Tm.step]; rfl
 have HS := tuck hstep
 have HNO : Hid ((Tm.mk k n l).step true false = none → ∀ w' (k' n' : Int) (a' : Option Addr) (L' c' : Nat), Below w.heap.size w w' → StPost w ((Tm.mk k n l).step true false) (.returned (.tuple #[.agg #[.int .i64 k', .int .i64 n', .slice a' L' c'], .bool false])) w') := tuck fun e w' k' n' a' L' c' h => by rw [e]; exact ⟨h, k', n', a', L', c', rfl⟩
 have HYES : Hid (∀ T, (Tm.mk k n l).step true false = some T → ∀ w' (a : Option Addr) (c : Nat), Below w.heap.size w w' → SlIn w' w.heap.size T.kids (.slice a T.kids.length c) → StPost w ((Tm.mk k n l).step true false) (.returned (.tuple #[.agg #[.int .i64 T.kind, .int .i64 T.num, .slice a T.kids.length c], .bool true])) w') := tuck fun T e w' a c h1 h2 => by rw [e]; exact ⟨h1, a, c, rfl, h2⟩
 have hb2 := below2 w (.cells #[.int .i64 k, .int .i64 n, .slice a l.length cap] 25) (.cells #[.int .i64 0, .int .i64 0, .slice none 0 0] 25)
 have HV0 := tuck ((VarAt.new w k n (.slice a l.length cap)).below (below1 _ (.cells #[.int .i64 0, .int .i64 0, .slice none 0 0] 25)))
 have HV1 := tuck (var_new1 w (.cells #[.int .i64 k, .int .i64 n, .slice a l.length cap] 25) 0 0 (.slice none 0 0))
 have HB2 := tuck hb2
 have HP := tuck hp
 have HC := tuck hc
 have HZ : Hid (((w.alloc (.cells #[.int .i64 k, .int .i64 n, .slice a l.length cap] 25)).alloc (.cells #[.int .i64 0, .int .i64 0, .slice none 0 0] 25)).heap.size = w.heap.size + 2) := tuck (by simp)
 generalize StPost w ((Tm.mk k n l).step true false) = post at *
 clear ih hp hc hin hv hroot hkv hsz hl4 hb2 hstep
 unfold maxLen at hlm
 go_enter Tryz.func33, Tryz.ntmps33
 go_wp2_with fail
 have HVA := HV0
 have HVR := HV1
 have HB1 := HB2
 clear HV0 HV1
 generalize (w.alloc (.cells #[.int .i64 k, .int .i64 n, .slice a l.length cap] 25)).alloc (.cells #[.int .i64 0, .int .i64 0, .slice none 0 0] 25) = W1 at *
 have HZW : Hid (w.heap.size + 2 ≤ W1.heap.size) := tuck (Nat.le_of_eq HZ.out.symm)
 go_loopw [6] (fun i wr => ∃ q : Nat, q ≤ l.length ∧ i = .int .i64 q ∧ (∀ j (hj : j < l.length), j < q → l[j].step true false = none) ∧ Below W1.heap.size W1 wr) (fun i _ => l.length - (intOf i).toNat)
 case atStart => exact ⟨0, Nat.zero_le _, rfl, fun _ _ h => absurd h (Nat.not_lt_zero _), Below.refl _ _⟩
 case round =>
  obtain ⟨q, hq, rfl, hno, hb⟩ := hrel
  obtain ⟨z0, a0, a1, a2, -⟩ := (HVA.out.below hb).facts
  obtain ⟨z1, r0, r1, r2, rf⟩ := (HVR.out.below hb).facts
  have hbb := bAfter HB1.out hb
  have HBB := tuck hbb
  have HNN := tuck hno
  have HVAr := tuck (HVA.out.below hb)
  have HVRr := tuck (HVR.out.below hb)
  have HBR := tuck hb
  clear hno hb
  by_cases hlt : q < l.length
  ·have hlti : ((q : Int) < (l.length : Int)) := by omega
   obtain ⟨rfl, _, hbw⟩ := HP.out (by intro e; rw [e] at hlt; simp at hlt)
   obtain ⟨s, c0, c1, c2, hs⟩ := HC.out q hlt
   obtain ⟨sa, sc, rfl⟩ := hs.form
   replace c0 := (hbb.cell (p := ⟨b, o + q * 3, none⟩) hbw).trans c0
   replace c1 := (hbb.cell (p := ⟨b, o + q * 3 + 1, none⟩) hbw).trans c1
   replace c2 := (hbb.cell (p := ⟨b, o + q * 3 + 2, none⟩) hbw).trans c2
   have HCALL := tuck (HIH.out q hlt _ _ (hs.below hbb))
   have HWQ := tuck (HWITH.out q hlt)
   clear hs HIH HWITH HRED HCON
   cases hst : l[q].step true false with
   | none =>
    rw [hst] at HCALL
    have HNX : Hid (∀ j (hj : j < l.length), j < q + 1 → l[j].step true false = none) := tuck fun j hj hjq => by
     by_cases e : j = q
     ·subst e; exact hst
     ·exact HNN.out j hj (by omega)
    clear hst
    generalize l[q] = x at *
    go_wp2_with fail
    refine HCALL.out.mono ?_
    rintro e w3 ⟨hb3, k3, n3, a3, L3, c3, rfl⟩
    have HB3 := tuck (bAfter HBR.out (bAfter hb3 (below1 w3 (.cells #[.int .i64 k3, .int .i64 n3, .slice a3 L3 c3] 25))))
    clear hb3 HCALL c0 c1 c2
    go_wp2_with fail
    go_roundw
    case rel => exact ⟨q + 1, by omega, by go_num, HNX.out, HB3.out⟩
    case measure => simp [intOf]; omega
   | some T =>
    rw [hst] at HCALL
    obtain ⟨L', hL'⟩ : ∃ L', L' = l.set q T := ⟨_, rfl⟩
    have HLQ := tuck hL'
    have hfin : (Tm.mk k n l).step true false = some (.mk k n L') := by
     rw [hL', HS.out, if_neg (fun h => by cases h.2), stepL_at k l 0 q hlt T (fun i hi h => HNN.out i hi h) hst]
    replace HYES := tuck (HYES.out _ hfin)
    clear hst hfin hL'
    generalize l[q] = x at *
    go_wp2_with fail
    refine HCALL.out.mono ?_
    rintro e w3 ⟨hb3, ta, tc, rfl, hs3⟩
    have hbx := below1 w3 (.cells #[.int .i64 T.kind, .int .i64 T.num, .slice ta T.kids.length tc] 25)
    have HVA4 := tuck ((HVAr.out.below hb3).below hbx)
    have HVR4 := tuck ((HVRr.out.below hb3).below hbx)
    have HB4 := tuck (bAfter HBB.out (bAfter hb3 hbx))
    have HVK := tuck (VarAt.new w3 T.kind T.num (.slice ta T.kids.length tc))
    have HW4 := tuck (HWQ.out T L' HLQ.out _ _ HB4.out (by have := hbx.size; have := hb3.size; have := HBR.out.size; have := HZW.out; omega) ((hs3.below hbx).mono (by have := HBR.out.size; have := HZW.out; omega)))
    obtain ⟨y0, b0, b1, b2, -⟩ := HVA4.out.facts
    obtain ⟨y1, d0, d1, d2, -⟩ := HVK.out.facts
    clear hb3 hs3 hbx HCALL HWQ z0 z1 a0 a1 a2 r0 r1 r2 rf c0 c1 c2
    go_wp2_with fail
    generalize w3.alloc (.cells #[.int .i64 T.kind, .int .i64 T.num, .slice ta T.kids.length tc] 25) = W4 at *
    refine HW4.out.mono ?_
    rintro e w5 ⟨hb5, ua, uc, rfl, hs5⟩
    obtain ⟨z1, r0, r1, r2, rf⟩ := (HVR4.out.below hb5).facts
    have HB5 := tuck (bAfter HB4.out hb5)
    have HS5 := tuck hs5
    clear hb5 hs5 HW4
    go_wp2_with fail
    refine bodyPost_ret (v := .tuple #[.agg #[.int .i64 k, .int .i64 n, .slice ua L'.length uc], .bool true]) (by simp [results, Tryz.results33, go_sem, Tm.kind, Tm.num, Tm.kids, *]) rfl (HYES.out _ ua uc ?_ ?_)
    ·exact bSet3 HB5.out (Nat.le_succ _) _ _ _ _ _ _
    ·exact (SlIn.set3 HS5.out (Nat.lt_succ_self _)).mono (by omega)
  ·have hql : q = l.length := by omega
   subst hql
   have hge2 : ¬ ((l.length : Int) < (l.length : Int)) := by omega
   have hnone : stepL true false k l 0 = none := stepL_no k l 0 fun i hi => HNN.out i hi hi
   by_cases hR : (Tm.mk k n l).redex ≠ 0
   ·have hfin : (Tm.mk k n l).step true false = some (Tm.mk k n l).contr := by
     rw [HS.out, if_neg (fun h => by cases h.2), hnone]
     exact if_pos hR
    replace HYES := tuck (HYES.out _ hfin)
    replace HCON := tuck (HCON.out hR)
    have hRi : ((Tm.mk k n l).redex != 0) = true := by simp [hR]
    clear hfin hnone HNN HNO HWITH HIH HS
    generalize (Tm.mk k n l).redex = R at *
    generalize (Tm.mk k n l).contr = T at *
    go_wp2_with fail
    refine (HRED.out _ HBB.out).mono ?_
    rintro e w3 ⟨rfl, hb3⟩
    have HVA3 := tuck (HVAr.out.below hb3)
    have HVR3 := tuck (HVRr.out.below hb3)
    have HB3 := tuck (bAfter HBB.out hb3)
    clear z0 a0 a1 a2 z1 r0 r1 r2 rf
    obtain ⟨z0, a0, a1, a2, -⟩ := HVA3.out.facts
    clear hb3 HRED
    go_wp2_with fail
    refine (HCON.out _ HB3.out).mono ?_
    rintro e w4 hp4
    obtain ⟨ua, uc, rfl, hb4, hs4⟩ := hp4.open
    obtain ⟨z1, r0, r1, r2, rf⟩ := (HVR3.out.below hb4).facts
    have HB4 := tuck (bAfter HB3.out hb4)
    have HS4 := tuck hs4
    have HSZ : Hid (w.heap.size + 1 < w3.heap.size) := tuck HVR3.out.facts.1
    have HSZ2 : Hid (w.heap.size ≤ w3.heap.size) := tuck HB3.out.size
    clear hp4 hb4 hs4 HCON
    go_wp2_with fail
    refine bodyPost_ret (v := .tuple #[.agg #[.int .i64 T.kind, .int .i64 T.num, .slice ua T.kids.length uc], .bool true]) (by simp [results, Tryz.results33, go_sem, *]) rfl (HYES.out _ ua uc ?_ ?_)
    ·exact bSet3 HB4.out (Nat.le_succ _) _ _ _ _ _ _
    ·exact (SlIn.set3 HS4.out HSZ.out).mono HSZ2.out
   ·have hfin : (Tm.mk k n l).step true false = none := by
     rw [HS.out, if_neg (fun h => by cases h.2), hnone]
     exact if_neg hR
    replace HNO := tuck (HNO.out hfin)
    have hR0 : (Tm.mk k n l).redex = 0 := Classical.byContradiction hR
    rw [hR0] at HRED
    clear hfin hnone HNN HYES HWITH HIH HS HCON
    go_wp2_with fail
    refine (HRED.out _ HBB.out).mono ?_
    rintro e w3 ⟨rfl, hb3⟩
    have HVA3 := tuck (HVAr.out.below hb3)
    have HVR3 := tuck (HVRr.out.below hb3)
    have HB3 := tuck (bAfter HBB.out hb3)
    clear z0 a0 a1 a2 z1 r0 r1 r2 rf
    obtain ⟨z0, a0, a1, a2, -⟩ := HVA3.out.facts
    obtain ⟨z1, r0, r1, r2, rf⟩ := HVR3.out.facts
    clear hb3 HRED
    go_wp2_with fail
    refine bodyPost_ret (v := .tuple #[.agg #[.int .i64 k, .int .i64 n, .slice a l.length cap], .bool false]) (by simp [results, Tryz.results33, go_sem, *]) rfl (HNO.out _ _ _ _ _ _ ?_)
    exact bSet3 HB3.out (Nat.le_succ _) _ _ _ _ _ _
def OnePost (w : World) (c : Int) (T : Tm) (e : Ending) (w' : World) : Prop := Below w.heap.size w w' ∧ ∃ (a : Option Addr) (n : Nat), e = .returned (.tuple #[.agg #[.int .i64 T.kind, .int .i64 T.num, .slice a T.kids.length n], .int .i64 c]) ∧ SlIn w' w.heap.size T.kids (.slice a T.kids.length n)
theorem OnePost.zero {w w' : World} {c : Int} (hb : Below w.heap.size w w') : OnePost w c zeroT (.returned (.tuple #[.agg #[.int .i64 0, .int .i64 0, .slice none 0 0], .int .i64 c])) w' := ⟨hb, none, 0, rfl, SlIn.nil _ _ _ _⟩
def SCodePost (w : World) (c : Int) (T : Tm) (e : Ending) (w' : World) : Prop := Below w.heap.size w w' ∧ ∃ v, e = .returned (.tuple #[v, .int .i64 c]) ∧ TmIn w' 0 T v
theorem StPost.yes {w w' : World} {T : Tm} {e : Ending} (h : StPost w (some T) e w') : Below w.heap.size w w' ∧ ∃ (a : Option Addr) (c : Nat), e = .returned (.tuple #[.agg #[.int .i64 T.kind, .int .i64 T.num, .slice a T.kids.length c], .bool true]) ∧ SlIn w' w.heap.size T.kids (.slice a T.kids.length c) := h
theorem StPost.no {w w' : World} {e : Ending} (h : StPost w none e w') : Below w.heap.size w w' ∧ ∃ (k n : Int) (a : Option Addr) (L c : Nat), e = .returned (.tuple #[.agg #[.int .i64 k, .int .i64 n, .slice a L c], .bool false]) := h
theorem lstep_any (rl : Bool) (t : Tm) (hv : t.Valid) (w : World) (v : Value) (hs : SlIn w 0 t.kids v) : Calls Tryz.prog 33 #[.agg #[.int .i64 t.kind, .int .i64 t.num, v], .bool rl] w (StPost w (t.step rl false)) := by
 obtain ⟨k, n, l⟩ := t
 cases rl with
 | false => exact lstepT_any l k n w v hv hs
 | true => exact lstepN_any l k n w v hv hs
set_option maxRecDepth 100000 in
set_option maxHeartbeats 4000000 in
theorem lone_any (rl : Bool) (t : Tm) (hv : t.Valid) (w : World) (v : Value) (hs : SlIn w 0 t.kids v) : Calls Tryz.prog 18 #[.agg #[.int .i64 t.kind, .int .i64 t.num, v], .bool rl] w (OnePost w (stepOut rl false t).2 (stepOut rl false t).1) := by
 obtain ⟨a, c, rfl⟩ := hs.form
 have hb2 := below2 w (.cells #[.int .i64 t.kind, .int .i64 t.num, .slice a t.kids.length c] 25) (.cells #[.int .i64 0, .int .i64 0, .slice none 0 0] 25)
 have HV0 := tuck ((VarAt.new w t.kind t.num (.slice a t.kids.length c)).below (below1 _ (.cells #[.int .i64 0, .int .i64 0, .slice none 0 0] 25)))
 have HV1 := tuck (var_new1 w (.cells #[.int .i64 t.kind, .int .i64 t.num, .slice a t.kids.length c] 25) 0 0 (.slice none 0 0))
 have HB2 := tuck hb2
 have HS := tuck hs
 have HSZ : Hid (w.heap.size + 2 = ((w.alloc (.cells #[.int .i64 t.kind, .int .i64 t.num, .slice a t.kids.length c] 25)).alloc (.cells #[.int .i64 0, .int .i64 0, .slice none 0 0] 25)).heap.size) := tuck (by simp)
 have HST := tuck (lstep_any rl t hv _ _ (hs.below hb2))
 cases hstep : t.step rl false with
 | none =>
  rw [stepOut_none hv hstep]
  rw [hstep] at HST
  have HCP : Hid (∀ W, Below w.heap.size w W → Calls Tryz.prog 17 #[.agg #[.int .i64 t.kind, .int .i64 t.num, .slice a t.kids.length c]] W (MadePost W t)) := tuck fun W h => by
   have := lcopy_any t.kids t.kind t.num W _ (by have := (valid_bounds hv).1; omega) (HS.out.below h)
   rwa [Tm.eta] at this
  have HP : Hid (∀ w' (a' : Option Addr) (c' : Nat), Below w.heap.size w w' → SlIn w' w.heap.size t.kids (.slice a' t.kids.length c') → OnePost w 0 t (.returned (.tuple #[.agg #[.int .i64 t.kind, .int .i64 t.num, .slice a' t.kids.length c'], .int .i64 0])) w') := tuck fun w' a' c' h1 h2 => ⟨h1, a', c', rfl, h2⟩
  show Calls _ _ _ _ (OnePost w 0 t)
  generalize OnePost w 0 t = post at *
  clear hs hb2 hstep hv
  go_enter Tryz.func18, Tryz.ntmps18
  go_wp2_with fail
  generalize (w.alloc (.cells #[.int .i64 t.kind, .int .i64 t.num, .slice a t.kids.length c] 25)).alloc (.cells #[.int .i64 0, .int .i64 0, .slice none 0 0] 25) = W0 at *
  refine HST.out.mono ?_
  rintro e w3 hp3
  obtain ⟨hb3, k3, n3, a3, L3, c3, rfl⟩ := hp3.no
  have hbx := below1 w3 (.cells #[.int .i64 k3, .int .i64 n3, .slice a3 L3 c3] 25)
  have HV4 := tuck ((HV0.out.below hb3).below hbx)
  have HR4 := tuck ((HV1.out.below hb3).below hbx)
  have HB4 := tuck (bAfter HB2.out (bAfter hb3 hbx))
  obtain ⟨z0, a0, a1, a2, -⟩ := HV4.out.facts
  have HW4 := tuck (HCP.out _ HB4.out)
  clear hp3 hb3 hbx HST HCP
  go_wp2_with fail
  generalize w3.alloc (.cells #[.int .i64 k3, .int .i64 n3, .slice a3 L3 c3] 25) = W4 at *
  refine HW4.out.mono ?_
  rintro e w5 hp5
  obtain ⟨ua, uc, rfl, hb5, hs5⟩ := hp5.s.open
  obtain ⟨z1, r0, r1, r2, rf⟩ := (HR4.out.below hb5).facts
  have HB5 := tuck (bAfter HB4.out hb5)
  have HS5 := tuck hs5
  have HZ5 : Hid (w.heap.size + 1 < W4.heap.size) := tuck HR4.out.facts.1
  clear hp5 hb5 hs5 HW4
  go_wp2_with fail
  refine bodyPost_ret (v := .tuple #[.agg #[.int .i64 t.kind, .int .i64 t.num, .slice ua t.kids.length uc], .int .i64 0]) (by simp [results, Tryz.results18, go_sem, *]) rfl (HP.out _ ua uc ?_ ?_)
  ·exact bSet3 HB5.out (Nat.le_succ _) _ _ _ _ _ _
  ·exact (SlIn.set3 HS5.out HZ5.out).mono HB4.out.size
 | some T =>
  rw [hstep] at HST
  have HVAL : Hid (∀ (W : World) (s : Value), SlIn W 0 T.kids s → Calls Tryz.prog 16 #[.agg #[.int .i64 T.kind, .int .i64 T.num, s]] W (BoolPost W (tr T.Valid))) := tuck fun W s h => validS_any T W _ ⟨_, rfl, h⟩
  have HP1 : Hid (T.Valid → ∀ w' (a' : Option Addr) (c' : Nat), Below w.heap.size w w' → SlIn w' w.heap.size T.kids (.slice a' T.kids.length c') → OnePost w (stepOut rl false t).2 (stepOut rl false t).1 (.returned (.tuple #[.agg #[.int .i64 T.kind, .int .i64 T.num, .slice a' T.kids.length c'], .int .i64 1])) w') := tuck fun h w' a' c' h1 h2 => by
   rw [stepOut_took hv hstep h]; exact ⟨h1, a', c', rfl, h2⟩
  have HP2 : Hid (¬ T.Valid → ∀ w', Below w.heap.size w w' → OnePost w (stepOut rl false t).2 (stepOut rl false t).1 (.returned (.tuple #[.agg #[.int .i64 0, .int .i64 0, .slice none 0 0], .int .i64 2])) w') := tuck fun h w' h1 => by
   rw [stepOut_large hv hstep h]; exact OnePost.zero h1
  generalize OnePost w (stepOut rl false t).2 (stepOut rl false t).1 = post at *
  clear hs hb2 hstep hv
  go_enter Tryz.func18, Tryz.ntmps18
  go_wp2_with fail
  generalize (w.alloc (.cells #[.int .i64 t.kind, .int .i64 t.num, .slice a t.kids.length c] 25)).alloc (.cells #[.int .i64 0, .int .i64 0, .slice none 0 0] 25) = W0 at *
  refine HST.out.mono ?_
  rintro e w3 hp3
  obtain ⟨hb3, ua, uc, rfl, hs3⟩ := hp3.yes
  have hbx := below1 w3 (.cells #[.int .i64 T.kind, .int .i64 T.num, .slice ua T.kids.length uc] 25)
  have HR4 := tuck ((HV1.out.below hb3).below hbx)
  have HB4 := tuck (bAfter HB2.out (bAfter hb3 hbx))
  have HS4 := tuck (hs3.below hbx)
  have HVO := tuck (VarAt.new w3 T.kind T.num (.slice ua T.kids.length uc))
  have HW4 := tuck (HVAL.out _ _ (HS4.out.mono (Nat.zero_le _)))
  have HL : Hid (W0.heap.size ≤ w3.heap.size) := tuck hb3.size
  obtain ⟨y0, b0, b1, b2, -⟩ := HVO.out.facts
  clear hp3 hb3 hbx HST HVAL hs3
  go_wp2_with fail
  generalize w3.alloc (.cells #[.int .i64 T.kind, .int .i64 T.num, .slice ua T.kids.length uc] 25) = W4 at *
  refine HW4.out.mono ?_
  rintro e w5 ⟨rfl, hb5⟩
  obtain ⟨z1, r0, r1, r2, rf⟩ := (HR4.out.below hb5).facts
  have HVO5 := tuck (HVO.out.below hb5)
  obtain ⟨y0', b0', b1', b2', -⟩ := HVO5.out.facts
  have HB5 := tuck (bAfter HB4.out hb5)
  have HS5 := tuck (HS4.out.below hb5)
  clear hb5 HW4 y0 b0 b1 b2
  by_cases hv : T.Valid
  ·rw [tr_of hv]
   replace HP1 := tuck (HP1.out hv)
   clear HP2 hv
   go_wp2_with fail
   refine bodyPost_ret (v := .tuple #[.agg #[.int .i64 T.kind, .int .i64 T.num, .slice ua T.kids.length uc], .int .i64 1]) (by simp [results, Tryz.results18, go_sem, *]) rfl (HP1.out _ ua uc ?_ ?_)
   ·exact bSet3 HB5.out (Nat.le_succ _) _ _ _ _ _ _
   ·exact (SlIn.set3 HS5.out (by have := HSZ.out; omega)).mono HB2.out.size
  ·rw [tr_not hv]
   replace HP2 := tuck (HP2.out hv)
   clear HP1 hv
   go_wp2_with fail
   refine bodyPost_ret (v := .tuple #[.agg #[.int .i64 0, .int .i64 0, .slice none 0 0], .int .i64 2]) (by simp [results, Tryz.results18, go_sem, *]) rfl (HP2.out _ ?_)
   exact bSet3 HB5.out (Nat.le_succ _) _ _ _ _ _ _
end Go.Proofs.YtlbikgnanabjgaaGreat
