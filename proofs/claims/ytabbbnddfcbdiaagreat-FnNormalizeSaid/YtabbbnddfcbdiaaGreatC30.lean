/-
  NormSp.
-/
import Derived.Test.YtabbbnddfcbdiaaGreatC10
import Derived.Test.YtabbbnddfcbdiaaGreatC24
namespace Go.Proofs.YtabbbnddfcbdiaaGreat
open Go.RowKit
set_option maxRecDepth 100000 in
theorem fits_any (t : Tm) (fuel : Int) (w : World) (v : Value) (hs : SlIn w 0 t.kids v) : Calls Tryz.prog 52 #[.agg #[.int .i64 t.kind, .int .i64 t.num, v], .int .i64 fuel] w (BoolPost w (tr (NormOk t fuel))) := by
 obtain ⟨a, c, rfl⟩ := hs.form
 have HS := tuck hs
 have hb1 := below1 w (.cells #[.int .i64 t.kind, .int .i64 t.num, .slice a t.kids.length c] 25)
 have HB1 := tuck hb1
 have HV0 := tuck (VarAt.new w t.kind t.num (.slice a t.kids.length c))
 have HVAL := tuck (validS_any t _ _ ⟨_, rfl, hs.below hb1⟩)
 obtain ⟨z0, a0, a1, a2, -⟩ := HV0.out.facts
 by_cases hv : t.Valid
 ·rw [tr_of hv] at HVAL
  by_cases h0 : 0 ≤ fuel
  ·have hg0 : (fuel ≥ 0) := h0
   by_cases h1 : fuel ≤ 200
   ·rw [tr_of (show NormOk t fuel from ⟨hv, h0, h1⟩)]
    clear hs hb1
    go_enter Tryz.func52, Tryz.ntmps52
    go_wp2_with fail
    refine HVAL.out.mono ?_
    rintro e w3 ⟨rfl, hb3⟩
    go_wp2_with fail
    go_ret
    exact ⟨rfl, bAfter HB1.out hb3⟩
   ·rw [tr_not (show ¬ NormOk t fuel from fun h => h1 h.2.2)]
    have hd1 : decide (fuel ≤ 200) = false := decide_eq_false h1
    clear hs hb1
    go_enter Tryz.func52, Tryz.ntmps52
    go_wp2_with fail
    refine HVAL.out.mono ?_
    rintro e w3 ⟨rfl, hb3⟩
    go_wp2_with fail
    go_ret
    exact ⟨rfl, bAfter HB1.out hb3⟩
  ·rw [tr_not (show ¬ NormOk t fuel from fun h => h0 h.2.1)]
   clear hs hb1
   go_enter Tryz.func52, Tryz.ntmps52
   go_wp2_with fail
   refine HVAL.out.mono ?_
   rintro e w3 ⟨rfl, hb3⟩
   go_wp2_with fail
   go_ret
   exact ⟨rfl, bAfter HB1.out hb3⟩
 ·rw [tr_not hv] at HVAL
  rw [tr_not (show ¬ NormOk t fuel from fun h => hv h.1)]
  clear hs hb1
  go_enter Tryz.func52, Tryz.ntmps52
  go_wp2_with fail
  refine HVAL.out.mono ?_
  rintro e w3 ⟨rfl, hb3⟩
  go_wp2_with fail
  go_ret
  exact ⟨rfl, bAfter HB1.out hb3⟩
set_option maxRecDepth 100000 in
set_option maxHeartbeats 4000000 in
theorem lnorm_any (rl : Bool) (t : Tm) (hv : t.Valid) (fuel : Nat) (hf : fuel ≤ 1000) (w : World) (v : Value) (hs : SlIn w 0 t.kids v) : Calls Tryz.prog 53 #[.agg #[.int .i64 t.kind, .int .i64 t.num, v], .int .i64 fuel, .bool rl] w (OnePost w (runGo rl false fuel t).2.1 (orZero ((runGo rl false fuel t).2.1 = 0) (runGo rl false fuel t).1)) := by
 obtain ⟨a, c, rfl⟩ := hs.form
 have hb2 := below2 w (.cells #[.int .i64 t.kind, .int .i64 t.num, .slice a t.kids.length c] 25) (.cells #[.int .i64 0, .int .i64 0, .slice none 0 0] 25)
 have HV0 := tuck ((VarAt.new w t.kind t.num (.slice a t.kids.length c)).below (below1 _ (.cells #[.int .i64 0, .int .i64 0, .slice none 0 0] 25)))
 have HV1 := tuck (var_new1 w (.cells #[.int .i64 t.kind, .int .i64 t.num, .slice a t.kids.length c] 25) 0 0 (.slice none 0 0))
 have HB2 := tuck hb2
 have HS : Hid (SlX ((w.alloc (.cells #[.int .i64 t.kind, .int .i64 t.num, .slice a t.kids.length c] 25)).alloc (.cells #[.int .i64 0, .int .i64 0, .slice none 0 0] 25)) (fun i => i = w.heap.size ∨ i = w.heap.size + 1) t.kids (.slice a t.kids.length c)) := tuck ((SlX.of_view (hs) (View.self fun i hi => by rcases hi with rfl | rfl <;> omega)).below hb2)
 have HPOK : Hid ((runGo rl false fuel t).2.1 = 0 → ∀ w' (a' : Option Addr) (c' : Nat), Below w.heap.size w w' → SlIn w' w.heap.size (runGo rl false fuel t).1.kids (.slice a' (runGo rl false fuel t).1.kids.length c') → OnePost w (runGo rl false fuel t).2.1 (orZero ((runGo rl false fuel t).2.1 = 0) (runGo rl false fuel t).1) (.returned (.tuple #[.agg #[.int .i64 (runGo rl false fuel t).1.kind, .int .i64 (runGo rl false fuel t).1.num, .slice a' (runGo rl false fuel t).1.kids.length c'], .int .i64 0])) w') := tuck fun h w' a' c' h1 h2 => by
  rw [orZero_yes h, h]; exact ⟨h1, a', c', rfl, h2⟩
 have HPNO : Hid (∀ x : Int, x ≠ 0 → (runGo rl false fuel t).2.1 = x → ∀ w', Below w.heap.size w w' → OnePost w (runGo rl false fuel t).2.1 (orZero ((runGo rl false fuel t).2.1 = 0) (runGo rl false fuel t).1) (.returned (.tuple #[.agg #[.int .i64 0, .int .i64 0, .slice none 0 0], .int .i64 x])) w') := tuck fun x h0 h w' h1 => by
  rw [orZero_no (by rw [h]; exact h0), h]; exact OnePost.zero h1
 have HVAL : Hid t.Valid := tuck hv
 have HRUN : Hid ((runGo rl false fuel t).1 = (runGo rl false fuel t).1 ∧ (runGo rl false fuel t).2.1 = (runGo rl false fuel t).2.1) := tuck ⟨rfl, rfl⟩
 generalize OnePost w (runGo rl false fuel t).2.1 (orZero ((runGo rl false fuel t).2.1 = 0) (runGo rl false fuel t).1) = post at *
 have HRUN : Hid (∃ (T0 : Tm) (C0 : Int), (runGo rl false fuel t).1 = T0 ∧ (runGo rl false fuel t).2.1 = C0) := tuck ⟨_, _, rfl, rfl⟩
 obtain ⟨T0, C0, hT0, hC0⟩ := HRUN.out
 rw [hT0, hC0] at HPOK
 rw [hC0] at HPNO
 have HT := tuck hT0
 have HC := tuck hC0
 clear hs hb2 hv HRUN hT0 hC0
 go_enter Tryz.func53, Tryz.ntmps53
 go_wp2_with fail
 generalize (w.alloc (.cells #[.int .i64 t.kind, .int .i64 t.num, .slice a t.kids.length c] 25)).alloc (.cells #[.int .i64 0, .int .i64 0, .slice none 0 0] 25) = W0 at *
 go_loopw [1] (fun i wr => ∃ (f : Nat) (t' : Tm) (s' : Value), i = .int .i64 f ∧ f ≤ fuel ∧ t'.Valid ∧ (runGo rl false f t').1 = T0 ∧ (runGo rl false f t').2.1 = C0 ∧ Below w.heap.size w wr ∧ VarAt w.heap.size t'.kind t'.num s' wr ∧ VarAt (w.heap.size + 1) 0 0 (.slice none 0 0) wr ∧ SlX wr (fun i => i = w.heap.size ∨ i = w.heap.size + 1) t'.kids s') (fun i _ => (intOf i).toNat)
 case atStart => exact ⟨fuel, t, _, rfl, Nat.le_refl _, HVAL.out, HT.out, HC.out, HB2.out, HV0.out, HV1.out, HS.out⟩
 case round =>
  obtain ⟨f, t', s', rfl, hf', hv', hT, hC, hb, hva, hvr, hsx⟩ := hrel
  obtain ⟨sa, sc, rfl⟩ := hsx.form
  have HON := tuck (lone_any rl t' hv' wr _ hsx.sl)
  have HVA := tuck hva
  have HVR := tuck hvr
  have HB := tuck hb
  obtain ⟨z0, a0, a1, a2, -⟩ := hva.facts
  have hsz1 : w.heap.size + 1 < wr.heap.size := hvr.facts.1
  have HSZ1 := tuck hsz1
  have HSZ0 : Hid (w.heap.size ≤ wr.heap.size) := tuck hb.size
  have hf3 : f ≤ 1000 := by omega
  clear hva hvr hb hsx HV0 HV1 HB2 HS HVAL HT HC
  cases hstep : t'.step rl false with
  | none =>
   rw [stepOut_none hv' hstep] at HON
   rw [runGo_none hstep] at hT hC
   obtain rfl : t' = T0 := hT
   obtain rfl : (0 : Int) = C0 := hC
   replace HPOK := tuck (HPOK.out rfl)
   clear hstep HPNO hv'
   dsimp only at HON
   go_wp2_with fail
   refine HON.out.mono ?_
   rintro e w3 ⟨hb3, ua, uc, rfl, hs3⟩
   have hbx := below1 w3 (.cells #[.int .i64 t'.kind, .int .i64 t'.num, .slice ua t'.kids.length uc] 25)
   have HVO := tuck (VarAt.new w3 t'.kind t'.num (.slice ua t'.kids.length uc))
   have HB3 := tuck (bAfter HB.out (bAfter hb3 hbx))
   have HS3 := tuck (hs3.below hbx)
   obtain ⟨y0, b0, b1, b2, -⟩ := HVO.out.facts
   obtain ⟨z1, r0, r1, r2, rf⟩ := ((HVR.out.below hb3).below hbx).facts
   clear hb3 hs3 hbx HON a0 a1 a2 z0
   go_wp2_with fail
   refine bodyPost_ret (v := .tuple #[.agg #[.int .i64 t'.kind, .int .i64 t'.num, .slice ua t'.kids.length uc], .int .i64 0]) (by simp [results, Tryz.results53, go_sem, *]) rfl (HPOK.out _ ua uc ?_ ?_)
   ·exact bSet3 HB3.out (Nat.le_succ _) _ _ _ _ _ _
   ·exact (SlIn.set3 HS3.out HSZ1.out).mono HSZ0.out
  | some t'' =>
   by_cases hv'' : t''.Valid
   ·rw [stepOut_took hv' hstep hv''] at HON
    dsimp only at HON
    have hcd : ((1 : Int) == 0) = false := rfl
    match f, hf' , hT, hC with
    | 0, _, hT, hC =>
     rw [runGo_zero hstep] at hT hC
     obtain rfl : (1 : Int) = C0 := hC
     replace HPNO := tuck (HPNO.out 1 (by decide) rfl)
     clear hstep HPOK hv' hT
     go_wp2_with fail
     refine HON.out.mono ?_
     rintro e w3 ⟨hb3, ua, uc, rfl, hs3⟩
     have hbx := below1 w3 (.cells #[.int .i64 t''.kind, .int .i64 t''.num, .slice ua t''.kids.length uc] 25)
     have HB3 := tuck (bAfter HB.out (bAfter hb3 hbx))
     obtain ⟨z1, r0, r1, r2, rf⟩ := ((HVR.out.below hb3).below hbx).facts
     clear hb3 hs3 hbx HON a0 a1 a2 z0
     go_wp2_with fail
     refine bodyPost_ret (v := .tuple #[.agg #[.int .i64 0, .int .i64 0, .slice none 0 0], .int .i64 1]) (by simp [results, Tryz.results53, go_sem, *]) rfl (HPNO.out _ ?_)
     exact bSet3 HB3.out (Nat.le_succ _) _ _ _ _ _ _
    | f + 1, hf', hT, hC =>
     rw [runGo_took hstep hv''] at hT hC
     have HT : Hid ((runGo rl false f t'').1 = T0) := tuck hT
     have HC : Hid ((runGo rl false f t'').2.1 = C0) := tuck hC
     have hfi : ¬ (((f + 1 : Nat) : Int) < 1) := by omega
     clear hstep HPOK HPNO hv' hT hC
     go_wp2_with fail
     refine HON.out.mono ?_
     rintro e w3 ⟨hb3, ua, uc, rfl, hs3⟩
     have hbx := below1 w3 (.cells #[.int .i64 t''.kind, .int .i64 t''.num, .slice ua t''.kids.length uc] 25)
     have HVO := tuck (VarAt.new w3 t''.kind t''.num (.slice ua t''.kids.length uc))
     have HB3 := tuck (bAfter HB.out (bAfter hb3 hbx))
     have HVA3 := tuck ((HVA.out.below hb3).below hbx)
     have HVR3 := tuck ((HVR.out.below hb3).below hbx)
     have HS3 := tuck (SlX.of_sl (X := (fun i => i = w.heap.size ∨ i = w.heap.size + 1)) (hs3.below hbx) (fun i hi => by have := HSZ1.out; rcases hi with rfl | rfl <;> omega))
     obtain ⟨y0, b0, b1, b2, -⟩ := HVO.out.facts
     obtain ⟨z1, r0, r1, r2, rf⟩ := HVA3.out.facts
     clear hb3 hs3 hbx HON a0 a1 a2 z0
     go_wp2_with fail
     go_roundw
     case rel => exact ⟨f, t'', _, by go_num, by omega, hv'', HT.out, HC.out, bSet3 HB3.out (Nat.le_refl _) _ _ _ _ _ _, HVA3.out.set3, HVR3.out.far3 (by omega) _ _ _ _ _ _, HS3.out.put (Or.inl rfl) _ _ _ _ _ _⟩
     case measure => (simp [intOf]; try omega)
   ·rw [stepOut_large hv' hstep hv''] at HON
    dsimp only at HON
    have hcx : ∃ x : Int, x ≠ 0 ∧ C0 = x ∧ (f = 0 → x = 1) ∧ (f ≠ 0 → x = 2) := by
     match f, hC with
     | 0, hC =>
      rw [runGo_zero hstep] at hC
      exact ⟨1, by decide, hC.symm, fun _ => rfl, fun h => absurd rfl h⟩
     | f + 1, hC =>
      rw [runGo_large hstep hv''] at hC
      exact ⟨2, by decide, hC.symm, fun h => by omega, fun _ => rfl⟩
    obtain ⟨x, hx0, hx1, hx2, hx3⟩ := hcx
    replace HPNO := tuck (HPNO.out x hx0 hx1)
    clear hstep HPOK hv' hT hC hx1 hx0
    by_cases hf0 : f = 0
    ·obtain rfl := hx2 hf0
     have hfi : ((f : Int) < 1) := by omega
     clear hx3 hx2
     go_wp2_with fail
     refine HON.out.mono ?_
     rintro e w3 ⟨hb3, ua, uc, rfl, hs3⟩
     have hbx := below1 w3 (.cells #[.int .i64 zeroT.kind, .int .i64 zeroT.num, .slice ua zeroT.kids.length uc] 25)
     have HB3 := tuck (bAfter HB.out (bAfter hb3 hbx))
     obtain ⟨z1, r0, r1, r2, rf⟩ := ((HVR.out.below hb3).below hbx).facts
     clear hb3 hs3 hbx HON a0 a1 a2 z0
     go_wp2_with fail
     refine bodyPost_ret (v := .tuple #[.agg #[.int .i64 0, .int .i64 0, .slice none 0 0], .int .i64 1]) (by simp [results, Tryz.results53, go_sem, *]) rfl (HPNO.out _ ?_)
     exact bSet3 HB3.out (Nat.le_succ _) _ _ _ _ _ _
    ·obtain rfl := hx3 hf0
     have hfi : ¬ ((f : Int) < 1) := by omega
     clear hx3 hx2
     go_wp2_with fail
     refine HON.out.mono ?_
     rintro e w3 ⟨hb3, ua, uc, rfl, hs3⟩
     have hbx := below1 w3 (.cells #[.int .i64 zeroT.kind, .int .i64 zeroT.num, .slice ua zeroT.kids.length uc] 25)
     have HB3 := tuck (bAfter HB.out (bAfter hb3 hbx))
     obtain ⟨z1, r0, r1, r2, rf⟩ := ((HVR.out.below hb3).below hbx).facts
     clear hb3 hs3 hbx HON a0 a1 a2 z0
     go_wp2_with fail
     refine bodyPost_ret (v := .tuple #[.agg #[.int .i64 0, .int .i64 0, .slice none 0 0], .int .i64 2]) (by simp [results, Tryz.results53, go_sem, *]) rfl (HPNO.out _ ?_)
     exact bSet3 HB3.out (Nat.le_succ _) _ _ _ _ _ _
set_option maxRecDepth 100000 in
set_option maxHeartbeats 4000000 in
theorem normTS_any (t : Tm) (hsz : sizes t.kids ≤ 1048576) (fuel : Int) (w : World) (v : Value) (h : TmIn w 0 t v) : Calls Tryz.prog 18 #[v, .int .i64 fuel] w (SCodePost w (normC false false t fuel) (normT false false t fuel)) := by
 obtain ⟨s, rfl, hs⟩ := h
 obtain ⟨a, c, rfl⟩ := hs.form
 have hb2 := below2 w (.cells #[.int .i64 t.kind, .int .i64 t.num, .slice a t.kids.length c] 25) (.cells #[.int .i64 0, .int .i64 0, .slice none 0 0] 25)
 have HV0 := tuck ((VarAt.new w t.kind t.num (.slice a t.kids.length c)).below (below1 _ (.cells #[.int .i64 0, .int .i64 0, .slice none 0 0] 25)))
 have HV1 := tuck (var_new1 w (.cells #[.int .i64 t.kind, .int .i64 t.num, .slice a t.kids.length c] 25) 0 0 (.slice none 0 0))
 have HB2 := tuck hb2
 have HSZ : Hid (w.heap.size + 2 = ((w.alloc (.cells #[.int .i64 t.kind, .int .i64 t.num, .slice a t.kids.length c] 25)).alloc (.cells #[.int .i64 0, .int .i64 0, .slice none 0 0] 25)).heap.size) := tuck (by simp)
 have HOW := tuck (ownT_any t hsz _ _ (hs.below hb2))
 have HFI : Hid (∀ (W : World) (s : Value), SlIn W 0 t.kids s → Calls Tryz.prog 52 #[.agg #[.int .i64 t.kind, .int .i64 t.num, s], .int .i64 fuel] W (BoolPost W (tr (NormOk t fuel)))) := tuck fun W s h => fits_any t fuel W s h
 by_cases hok : NormOk t fuel
 ·rw [tr_of hok] at HFI
  obtain ⟨F, rfl⟩ : ∃ F : Nat, fuel = (F : Int) := ⟨fuel.toNat, by have := hok.2.1; omega⟩
  have hC : normC false false t F = (runGo false false F t).2.1 := by unfold normC; rw [if_pos hok]; rfl
  have hT : normT false false t F = orZero ((runGo false false F t).2.1 = 0) (runGo false false F t).1 := by unfold normT; rw [hC]; rfl
  rw [hC, hT]
  have HHE : Hid (∀ (W : World) (s : Value), SlIn W 0 t.kids s → Calls Tryz.prog 53 #[.agg #[.int .i64 t.kind, .int .i64 t.num, s], .int .i64 F, .bool false] W (OnePost W (runGo false false F t).2.1 (orZero ((runGo false false F t).2.1 = 0) (runGo false false F t).1))) := tuck fun W s h => lnorm_any false t hok.1 F (by have := hok.2.2; omega) W s h
  have HP1 : Hid (∀ w' (a' : Option Addr) (c' : Nat), Below w.heap.size w w' → SlIn w' 0 (orZero ((runGo false false F t).2.1 = 0) (runGo false false F t).1).kids (.slice a' (orZero ((runGo false false F t).2.1 = 0) (runGo false false F t).1).kids.length c') → SCodePost w (runGo false false F t).2.1 (orZero ((runGo false false F t).2.1 = 0) (runGo false false F t).1) (.returned (.tuple #[.agg #[.int .i64 (orZero ((runGo false false F t).2.1 = 0) (runGo false false F t).1).kind, .int .i64 (orZero ((runGo false false F t).2.1 = 0) (runGo false false F t).1).num, .slice a' (orZero ((runGo false false F t).2.1 = 0) (runGo false false F t).1).kids.length c'], .int .i64 (runGo false false F t).2.1])) w') := tuck fun w' a' c' h1 h2 => ⟨h1, _, rfl, _, rfl, h2⟩
  generalize SCodePost w (runGo false false F t).2.1 (orZero ((runGo false false F t).2.1 = 0) (runGo false false F t).1) = post at *
  generalize orZero ((runGo false false F t).2.1 = 0) (runGo false false F t).1 = U at *
  generalize (runGo false false F t).2.1 = cc at *
  clear hs hb2 hok hC hT hsz
  go_enter Tryz.func18, Tryz.ntmps18
  go_wp2_with fail
  generalize (w.alloc (.cells #[.int .i64 t.kind, .int .i64 t.num, .slice a t.kids.length c] 25)).alloc (.cells #[.int .i64 0, .int .i64 0, .slice none 0 0] 25) = W0 at *
  refine HOW.out.mono ?_
  rintro e w3 hp3
  obtain ⟨ua, uc, rfl, hb3, hs3⟩ := hp3.open
  obtain ⟨z0, a0, a1, a2, af⟩ := (HV0.out.below hb3).facts
  have HV3 := tuck ((HV0.out.below hb3).set3 (k' := t.kind) (n' := t.num) (s' := .slice ua t.kids.length uc))
  have HR3 := tuck ((HV1.out.below hb3).far3 (show w.heap.size + 1 ≠ w.heap.size by omega) 0 1 2 (.int .i64 t.kind) (.int .i64 t.num) (.slice ua t.kids.length uc))
  have HB3 := tuck (bSet3 (bAfter HB2.out hb3) (Nat.le_refl _) 0 1 2 (.int .i64 t.kind) (.int .i64 t.num) (.slice ua t.kids.length uc))
  have HS3 := tuck (SlIn.set3 (g := w.heap.size) (i := 0) (j := 1) (k := 2) (x := .int .i64 t.kind) (y := .int .i64 t.num) (z := .slice ua t.kids.length uc) hs3 (by have := HSZ.out; omega))
  clear hp3 hb3 hs3 HOW
  go_wp2_with fail
  obtain ⟨z0', a0', a1', a2', -⟩ := HV3.out.facts
  generalize ((w3.setCell ⟨w.heap.size, 0, none⟩ (.int .i64 t.kind)).setCell ⟨w.heap.size, 1, none⟩ (.int .i64 t.num)).setCell ⟨w.heap.size, 2, none⟩ (.slice ua t.kids.length uc) = W3 at *
  have HW3 := tuck (HFI.out _ _ (HS3.out.mono (Nat.zero_le _)))
  refine HW3.out.mono ?_
  rintro e w4 ⟨rfl, hb4⟩
  have HV4 := tuck (HV3.out.below hb4)
  have HR4 := tuck (HR3.out.below hb4)
  have HB4 := tuck (bAfter HB3.out hb4)
  have HS4 := tuck (HS3.out.below hb4)
  clear hb4 HW3 z0 a0 a1 a2 af z0' a0' a1' a2'
  have HHE4 := tuck (HHE.out _ _ (HS4.out.mono (Nat.zero_le _)))
  obtain ⟨z0, a0, a1, a2, -⟩ := HV4.out.facts
  clear HHE HFI
  go_wp2_with fail
  refine HHE4.out.mono ?_
  rintro e w5 ⟨hb5, xa, xc, rfl, hs5⟩
  obtain ⟨z1, r0, r1, r2, rf⟩ := (HR4.out.below hb5).facts
  have HB5 := tuck (bAfter HB4.out hb5)
  have HS5 := tuck hs5
  have HZ5 : Hid (w.heap.size + 1 < w4.heap.size) := tuck HR4.out.facts.1
  clear hb5 hs5 HHE4
  go_wp2_with fail
  refine bodyPost_ret (v := .tuple #[.agg #[.int .i64 U.kind, .int .i64 U.num, .slice xa U.kids.length xc], .int .i64 cc]) (by simp [results, Tryz.results18, go_sem, *]) rfl (HP1.out _ xa xc ?_ ?_)
  ·exact bSet3 HB5.out (Nat.le_succ _) _ _ _ _ _ _
  ·exact (SlIn.set3 HS5.out HZ5.out).mono (Nat.zero_le _)
 ·rw [tr_not hok] at HFI
  have hC : normC false false t fuel = 3 := by unfold normC; exact if_neg hok
  have hT : normT false false t fuel = zeroT := by unfold normT; rw [hC]; exact if_neg (by decide)
  rw [hC, hT]
  have HP2 : Hid (∀ w', Below w.heap.size w w' → SCodePost w 3 zeroT (.returned (.tuple #[.agg #[.int .i64 0, .int .i64 0, .slice none 0 0], .int .i64 3])) w') := tuck fun w' h1 => (OnePost.zero h1).code
  generalize SCodePost w 3 zeroT = post at *
  clear hs hb2 hok hC hT hsz
  go_enter Tryz.func18, Tryz.ntmps18
  go_wp2_with fail
  generalize (w.alloc (.cells #[.int .i64 t.kind, .int .i64 t.num, .slice a t.kids.length c] 25)).alloc (.cells #[.int .i64 0, .int .i64 0, .slice none 0 0] 25) = W0 at *
  refine HOW.out.mono ?_
  rintro e w3 hp3
  obtain ⟨ua, uc, rfl, hb3, hs3⟩ := hp3.open
  obtain ⟨z0, a0, a1, a2, af⟩ := (HV0.out.below hb3).facts
  have HV3 := tuck ((HV0.out.below hb3).set3 (k' := t.kind) (n' := t.num) (s' := .slice ua t.kids.length uc))
  have HR3 := tuck ((HV1.out.below hb3).far3 (show w.heap.size + 1 ≠ w.heap.size by omega) 0 1 2 (.int .i64 t.kind) (.int .i64 t.num) (.slice ua t.kids.length uc))
  have HB3 := tuck (bSet3 (bAfter HB2.out hb3) (Nat.le_refl _) 0 1 2 (.int .i64 t.kind) (.int .i64 t.num) (.slice ua t.kids.length uc))
  have HS3 := tuck (SlIn.set3 (g := w.heap.size) (i := 0) (j := 1) (k := 2) (x := .int .i64 t.kind) (y := .int .i64 t.num) (z := .slice ua t.kids.length uc) hs3 (by have := HSZ.out; omega))
  clear hp3 hb3 hs3 HOW
  go_wp2_with fail
  obtain ⟨z0', a0', a1', a2', -⟩ := HV3.out.facts
  generalize ((w3.setCell ⟨w.heap.size, 0, none⟩ (.int .i64 t.kind)).setCell ⟨w.heap.size, 1, none⟩ (.int .i64 t.num)).setCell ⟨w.heap.size, 2, none⟩ (.slice ua t.kids.length uc) = W3 at *
  have HW3 := tuck (HFI.out _ _ (HS3.out.mono (Nat.zero_le _)))
  refine HW3.out.mono ?_
  rintro e w4 ⟨rfl, hb4⟩
  have HV4 := tuck (HV3.out.below hb4)
  have HR4 := tuck (HR3.out.below hb4)
  have HB4 := tuck (bAfter HB3.out hb4)
  have HS4 := tuck (HS3.out.below hb4)
  clear hb4 HW3 z0 a0 a1 a2 af z0' a0' a1' a2'
  obtain ⟨z1, r0, r1, r2, rf⟩ := HR4.out.facts
  clear HFI
  go_wp2_with fail
  refine bodyPost_ret (v := .tuple #[.agg #[.int .i64 0, .int .i64 0, .slice none 0 0], .int .i64 3]) (by simp [results, Tryz.results18, go_sem, *]) rfl (HP2.out _ ?_)
  exact bSet3 HB4.out (Nat.le_succ _) _ _ _ _ _ _
set_option maxRecDepth 100000 in
set_option maxHeartbeats 4000000 in
theorem normNS_any (t : Tm) (hsz : sizes t.kids ≤ 1048576) (fuel : Int) (w : World) (v : Value) (h : TmIn w 0 t v) : Calls Tryz.prog 19 #[v, .int .i64 fuel] w (SCodePost w (normC true false t fuel) (normT true false t fuel)) := by
 obtain ⟨s, rfl, hs⟩ := h
 obtain ⟨a, c, rfl⟩ := hs.form
 have hb2 := below2 w (.cells #[.int .i64 t.kind, .int .i64 t.num, .slice a t.kids.length c] 25) (.cells #[.int .i64 0, .int .i64 0, .slice none 0 0] 25)
 have HV0 := tuck ((VarAt.new w t.kind t.num (.slice a t.kids.length c)).below (below1 _ (.cells #[.int .i64 0, .int .i64 0, .slice none 0 0] 25)))
 have HV1 := tuck (var_new1 w (.cells #[.int .i64 t.kind, .int .i64 t.num, .slice a t.kids.length c] 25) 0 0 (.slice none 0 0))
 have HB2 := tuck hb2
 have HSZ : Hid (w.heap.size + 2 = ((w.alloc (.cells #[.int .i64 t.kind, .int .i64 t.num, .slice a t.kids.length c] 25)).alloc (.cells #[.int .i64 0, .int .i64 0, .slice none 0 0] 25)).heap.size) := tuck (by simp)
 have HOW := tuck (ownT_any t hsz _ _ (hs.below hb2))
 have HFI : Hid (∀ (W : World) (s : Value), SlIn W 0 t.kids s → Calls Tryz.prog 52 #[.agg #[.int .i64 t.kind, .int .i64 t.num, s], .int .i64 fuel] W (BoolPost W (tr (NormOk t fuel)))) := tuck fun W s h => fits_any t fuel W s h
 by_cases hok : NormOk t fuel
 ·rw [tr_of hok] at HFI
  obtain ⟨F, rfl⟩ : ∃ F : Nat, fuel = (F : Int) := ⟨fuel.toNat, by have := hok.2.1; omega⟩
  have hC : normC true false t F = (runGo true false F t).2.1 := by unfold normC; rw [if_pos hok]; rfl
  have hT : normT true false t F = orZero ((runGo true false F t).2.1 = 0) (runGo true false F t).1 := by unfold normT; rw [hC]; rfl
  rw [hC, hT]
  have HHE : Hid (∀ (W : World) (s : Value), SlIn W 0 t.kids s → Calls Tryz.prog 53 #[.agg #[.int .i64 t.kind, .int .i64 t.num, s], .int .i64 F, .bool true] W (OnePost W (runGo true false F t).2.1 (orZero ((runGo true false F t).2.1 = 0) (runGo true false F t).1))) := tuck fun W s h => lnorm_any true t hok.1 F (by have := hok.2.2; omega) W s h
  have HP1 : Hid (∀ w' (a' : Option Addr) (c' : Nat), Below w.heap.size w w' → SlIn w' 0 (orZero ((runGo true false F t).2.1 = 0) (runGo true false F t).1).kids (.slice a' (orZero ((runGo true false F t).2.1 = 0) (runGo true false F t).1).kids.length c') → SCodePost w (runGo true false F t).2.1 (orZero ((runGo true false F t).2.1 = 0) (runGo true false F t).1) (.returned (.tuple #[.agg #[.int .i64 (orZero ((runGo true false F t).2.1 = 0) (runGo true false F t).1).kind, .int .i64 (orZero ((runGo true false F t).2.1 = 0) (runGo true false F t).1).num, .slice a' (orZero ((runGo true false F t).2.1 = 0) (runGo true false F t).1).kids.length c'], .int .i64 (runGo true false F t).2.1])) w') := tuck fun w' a' c' h1 h2 => ⟨h1, _, rfl, _, rfl, h2⟩
  generalize SCodePost w (runGo true false F t).2.1 (orZero ((runGo true false F t).2.1 = 0) (runGo true false F t).1) = post at *
  generalize orZero ((runGo true false F t).2.1 = 0) (runGo true false F t).1 = U at *
  generalize (runGo true false F t).2.1 = cc at *
  clear hs hb2 hok hC hT hsz
  go_enter Tryz.func19, Tryz.ntmps19
  go_wp2_with fail
  generalize (w.alloc (.cells #[.int .i64 t.kind, .int .i64 t.num, .slice a t.kids.length c] 25)).alloc (.cells #[.int .i64 0, .int .i64 0, .slice none 0 0] 25) = W0 at *
  refine HOW.out.mono ?_
  rintro e w3 hp3
  obtain ⟨ua, uc, rfl, hb3, hs3⟩ := hp3.open
  obtain ⟨z0, a0, a1, a2, af⟩ := (HV0.out.below hb3).facts
  have HV3 := tuck ((HV0.out.below hb3).set3 (k' := t.kind) (n' := t.num) (s' := .slice ua t.kids.length uc))
  have HR3 := tuck ((HV1.out.below hb3).far3 (show w.heap.size + 1 ≠ w.heap.size by omega) 0 1 2 (.int .i64 t.kind) (.int .i64 t.num) (.slice ua t.kids.length uc))
  have HB3 := tuck (bSet3 (bAfter HB2.out hb3) (Nat.le_refl _) 0 1 2 (.int .i64 t.kind) (.int .i64 t.num) (.slice ua t.kids.length uc))
  have HS3 := tuck (SlIn.set3 (g := w.heap.size) (i := 0) (j := 1) (k := 2) (x := .int .i64 t.kind) (y := .int .i64 t.num) (z := .slice ua t.kids.length uc) hs3 (by have := HSZ.out; omega))
  clear hp3 hb3 hs3 HOW
  go_wp2_with fail
  obtain ⟨z0', a0', a1', a2', -⟩ := HV3.out.facts
  generalize ((w3.setCell ⟨w.heap.size, 0, none⟩ (.int .i64 t.kind)).setCell ⟨w.heap.size, 1, none⟩ (.int .i64 t.num)).setCell ⟨w.heap.size, 2, none⟩ (.slice ua t.kids.length uc) = W3 at *
  have HW3 := tuck (HFI.out _ _ (HS3.out.mono (Nat.zero_le _)))
  refine HW3.out.mono ?_
  rintro e w4 ⟨rfl, hb4⟩
  have HV4 := tuck (HV3.out.below hb4)
  have HR4 := tuck (HR3.out.below hb4)
  have HB4 := tuck (bAfter HB3.out hb4)
  have HS4 := tuck (HS3.out.below hb4)
  clear hb4 HW3 z0 a0 a1 a2 af z0' a0' a1' a2'
  have HHE4 := tuck (HHE.out _ _ (HS4.out.mono (Nat.zero_le _)))
  obtain ⟨z0, a0, a1, a2, -⟩ := HV4.out.facts
  clear HHE HFI
  go_wp2_with fail
  refine HHE4.out.mono ?_
  rintro e w5 ⟨hb5, xa, xc, rfl, hs5⟩
  obtain ⟨z1, r0, r1, r2, rf⟩ := (HR4.out.below hb5).facts
  have HB5 := tuck (bAfter HB4.out hb5)
  have HS5 := tuck hs5
  have HZ5 : Hid (w.heap.size + 1 < w4.heap.size) := tuck HR4.out.facts.1
  clear hb5 hs5 HHE4
  go_wp2_with fail
  refine bodyPost_ret (v := .tuple #[.agg #[.int .i64 U.kind, .int .i64 U.num, .slice xa U.kids.length xc], .int .i64 cc]) (by simp [results, Tryz.results19, go_sem, *]) rfl (HP1.out _ xa xc ?_ ?_)
  ·exact bSet3 HB5.out (Nat.le_succ _) _ _ _ _ _ _
  ·exact (SlIn.set3 HS5.out HZ5.out).mono (Nat.zero_le _)
 ·rw [tr_not hok] at HFI
  have hC : normC true false t fuel = 3 := by unfold normC; exact if_neg hok
  have hT : normT true false t fuel = zeroT := by unfold normT; rw [hC]; exact if_neg (by decide)
  rw [hC, hT]
  have HP2 : Hid (∀ w', Below w.heap.size w w' → SCodePost w 3 zeroT (.returned (.tuple #[.agg #[.int .i64 0, .int .i64 0, .slice none 0 0], .int .i64 3])) w') := tuck fun w' h1 => (OnePost.zero h1).code
  generalize SCodePost w 3 zeroT = post at *
  clear hs hb2 hok hC hT hsz
  go_enter Tryz.func19, Tryz.ntmps19
  go_wp2_with fail
  generalize (w.alloc (.cells #[.int .i64 t.kind, .int .i64 t.num, .slice a t.kids.length c] 25)).alloc (.cells #[.int .i64 0, .int .i64 0, .slice none 0 0] 25) = W0 at *
  refine HOW.out.mono ?_
  rintro e w3 hp3
  obtain ⟨ua, uc, rfl, hb3, hs3⟩ := hp3.open
  obtain ⟨z0, a0, a1, a2, af⟩ := (HV0.out.below hb3).facts
  have HV3 := tuck ((HV0.out.below hb3).set3 (k' := t.kind) (n' := t.num) (s' := .slice ua t.kids.length uc))
  have HR3 := tuck ((HV1.out.below hb3).far3 (show w.heap.size + 1 ≠ w.heap.size by omega) 0 1 2 (.int .i64 t.kind) (.int .i64 t.num) (.slice ua t.kids.length uc))
  have HB3 := tuck (bSet3 (bAfter HB2.out hb3) (Nat.le_refl _) 0 1 2 (.int .i64 t.kind) (.int .i64 t.num) (.slice ua t.kids.length uc))
  have HS3 := tuck (SlIn.set3 (g := w.heap.size) (i := 0) (j := 1) (k := 2) (x := .int .i64 t.kind) (y := .int .i64 t.num) (z := .slice ua t.kids.length uc) hs3 (by have := HSZ.out; omega))
  clear hp3 hb3 hs3 HOW
  go_wp2_with fail
  obtain ⟨z0', a0', a1', a2', -⟩ := HV3.out.facts
  generalize ((w3.setCell ⟨w.heap.size, 0, none⟩ (.int .i64 t.kind)).setCell ⟨w.heap.size, 1, none⟩ (.int .i64 t.num)).setCell ⟨w.heap.size, 2, none⟩ (.slice ua t.kids.length uc) = W3 at *
  have HW3 := tuck (HFI.out _ _ (HS3.out.mono (Nat.zero_le _)))
  refine HW3.out.mono ?_
  rintro e w4 ⟨rfl, hb4⟩
  have HV4 := tuck (HV3.out.below hb4)
  have HR4 := tuck (HR3.out.below hb4)
  have HB4 := tuck (bAfter HB3.out hb4)
  have HS4 := tuck (HS3.out.below hb4)
  clear hb4 HW3 z0 a0 a1 a2 af z0' a0' a1' a2'
  obtain ⟨z1, r0, r1, r2, rf⟩ := HR4.out.facts
  clear HFI
  go_wp2_with fail
  refine bodyPost_ret (v := .tuple #[.agg #[.int .i64 0, .int .i64 0, .slice none 0 0], .int .i64 3]) (by simp [results, Tryz.results19, go_sem, *]) rfl (HP2.out _ ?_)
  exact bSet3 HB4.out (Nat.le_succ _) _ _ _ _ _ _
end Go.Proofs.YtabbbnddfcbdiaaGreat
