/-
  RedSt.
-/
import Derived.Test.YtabbbnddfcbdiaaGreatC15
import Derived.Test.YtabbbnddfcbdiaaGreatC32
import Derived.Deep.DeepCutAuto
namespace Go.Proofs.YtabbbnddfcbdiaaGreat
open Go.RowKit
def IPair (w : World) (x y : Int) (e : Ending) (w' : World) : Prop := e = .returned (.tuple #[.int .i64 x, .int .i64 y]) ∧ Below w.heap.size w w'
noncomputable def redN (t : Tm) (fuel : Int) : Int := @ite _ (NormOk t fuel) (Classical.propDecidable _) ((runGo false false fuel.toNat t).2.2 : Int) 0
set_option maxRecDepth 100000 in
set_option maxHeartbeats 4000000 in
theorem redNS_any (t : Tm) (fuel : Int) (w : World) (v : Value) (h : TmIn w 0 t v) : Calls Tryz.prog 40 #[v, .int .i64 fuel] w (IPair w (redN t fuel) (normC false false t fuel)) := by
 obtain ⟨s, rfl, hs⟩ := h
 obtain ⟨a, c, rfl⟩ := hs.form
 have hb1 := below1 w (.cells #[.int .i64 t.kind, .int .i64 t.num, .slice a t.kids.length c] 25)
 have HV0 := tuck (VarAt.new w t.kind t.num (.slice a t.kids.length c))
 have HB1 := tuck hb1
 have HS := tuck hs
 have HFI := tuck (fits_any t fuel _ _ (hs.below hb1))
 by_cases hok : NormOk t fuel
 ·rw [tr_of hok] at HFI
  obtain ⟨F, rfl⟩ : ∃ F : Nat, fuel = (F : Int) := ⟨fuel.toNat, by have := hok.2.1; omega⟩
  have hC : normC false false t F = (runGo false false F t).2.1 := by unfold normC; rw [if_pos hok]; rfl
  have hN : redN t F = (runGo false false F t).2.2 := by unfold redN; rw [if_pos hok]; rfl
  rw [hC, hN]
  have hF : F ≤ 200 := by have := hok.2.2; omega
  have HSX : Hid (SlX (w.alloc (.cells #[.int .i64 t.kind, .int .i64 t.num, .slice a t.kids.length c] 25)) (fun i => i = w.heap.size) t.kids (.slice a t.kids.length c)) := tuck ((SlX.of_view hs (View.self fun i hi => by omega)).below hb1)
  have HP : Hid (∀ (x y : Int), ((runGo false false F t).2.2 : Int) = x → (runGo false false F t).2.1 = y → ∀ w', Below w.heap.size w w' → IPair w ((runGo false false F t).2.2 : Int) (runGo false false F t).2.1 (.returned (.tuple #[.int .i64 x, .int .i64 y])) w') := tuck fun x y h1 h2 w' h3 => by rw [h1, h2]; exact ⟨rfl, h3⟩
  have HVT := tuck hok.1
  have HRUN : Hid (∃ (N0 : Nat) (C0 : Int), (runGo false false F t).2.2 = N0 ∧ (runGo false false F t).2.1 = C0) := tuck ⟨_, _, rfl, rfl⟩
  obtain ⟨N0, C0, hN0, hC0⟩ := HRUN.out
  generalize IPair w ((runGo false false F t).2.2 : Int) (runGo false false F t).2.1 = post at *
  rw [hN0, hC0] at HP
  have HN := tuck hN0
  have HC := tuck hC0
  clear hs hb1 hok hC hN HS HRUN hN0 hC0
  go_enter Tryz.func40, Tryz.ntmps40
  go_wp2_with fail
  generalize w.alloc (.cells #[.int .i64 t.kind, .int .i64 t.num, .slice a t.kids.length c] 25) = W0 at *
  refine HFI.out.mono ?_
  rintro e w1 ⟨rfl, hb⟩
  have HB2 := tuck (bAfter HB1.out hb)
  have HV2 := tuck (HV0.out.below hb)
  have HS2 := tuck (HSX.out.below hb)
  clear hb HFI HB1 HV0 HSX
  go_wp2_with fail
  go_loopw [6] (fun i wr => ∃ (n : Nat) (t' : Tm) (s' : Value), i = .int .i64 n ∧ n ≤ F ∧ t'.Valid ∧ (runGo false false (F - n) t').2.2 + n = N0 ∧ (runGo false false (F - n) t').2.1 = C0 ∧ Below w.heap.size w wr ∧ VarAt w.heap.size t'.kind t'.num s' wr ∧ SlX wr (fun i => i = w.heap.size) t'.kids s') (fun i _ => F - (intOf i).toNat)
  case atStart => exact ⟨0, t, _, rfl, Nat.zero_le _, HVT.out, HN.out, HC.out, HB2.out, HV2.out, HS2.out⟩
  case round =>
   obtain ⟨n, t', s', rfl, hn, hv', hN, hC, hb, hva, hsx⟩ := hrel
   obtain ⟨sa, sc, rfl⟩ := hsx.form
   have HON := tuck (lone_any false t' hv' wr _ hsx.sl)
   have HVA := tuck hva
   have HB := tuck hb
   obtain ⟨z0, a0, a1, a2, -⟩ := hva.facts
   have HZ := tuck z0
   have hn3 : n ≤ 200 := by omega
   clear hva hb hsx HB2 HV2 HS2 HN HC HVT
   cases hstep : t'.step false false with
   | none =>
    rw [stepOut_none hv' hstep] at HON
    rw [runGo_none hstep] at hN hC
    dsimp only at HON hN hC
    replace HP := tuck (HP.out (n : Int) 0 (by omega) hC.symm)
    clear hstep hv' hN hC
    go_wp2_with fail
    refine HON.out.mono ?_
    rintro e w3 ⟨hb3, ua, uc, rfl, hs3⟩
    have HB3 := tuck (bAfter HB.out (bAfter hb3 (below1 w3 (.cells #[.int .i64 t'.kind, .int .i64 t'.num, .slice ua t'.kids.length uc] 25))))
    clear hb3 hs3 HON a0 a1 a2
    go_wp2_with fail
    exact HP.out _ HB3.out
   | some t'' =>
    by_cases hnf : n = F
    ·subst hnf
     have hge : ((n : Int) ≥ (n : Int)) := by omega
     rw [Nat.sub_self, runGo_zero hstep] at hN hC
     dsimp only at hN hC
     replace HP := tuck (HP.out (n : Int) 1 (by omega) hC.symm)
     have hcd : ∃ cc : Int, (stepOut false false t').2 = cc ∧ (cc == 0) = false := by
      by_cases hv'' : t''.Valid
      ·rw [stepOut_took hv' hstep hv'']; exact ⟨1, rfl, rfl⟩
      ·rw [stepOut_large hv' hstep hv'']; exact ⟨2, rfl, rfl⟩
     obtain ⟨cc, hcc, hc0⟩ := hcd
     rw [hcc] at HON
     clear hstep hv' hN hC hcc
     generalize (stepOut false false t').1 = U at *
     go_wp2_with fail
     refine HON.out.mono ?_
     rintro e w3 ⟨hb3, ua, uc, rfl, hs3⟩
     have HB3 := tuck (bAfter HB.out (bAfter hb3 (below1 w3 (.cells #[.int .i64 U.kind, .int .i64 U.num, .slice ua U.kids.length uc] 25))))
     clear hb3 hs3 HON a0 a1 a2
     go_wp2_with fail
     exact HP.out _ HB3.out
    ·have hge : ¬ ((n : Int) ≥ (F : Int)) := by omega
     have hge2 : ¬ ((F : Int) ≤ (n : Int)) := by omega
     obtain ⟨d, hd⟩ : ∃ d, F - n = d + 1 := ⟨F - n - 1, by omega⟩
     have hd' : F - (n + 1) = d := by omega
     by_cases hv'' : t''.Valid
     ·rw [stepOut_took hv' hstep hv''] at HON
      rw [hd, runGo_took hstep hv''] at hN hC
      dsimp only at HON hN hC
      have HN : Hid ((runGo false false (F - (n + 1)) t'').2.2 + (n + 1) = N0) := tuck (by rw [hd']; omega)
      have HC : Hid ((runGo false false (F - (n + 1)) t'').2.1 = C0) := tuck (by rw [hd']; exact hC)
      clear hstep hv' hN hC hd hd'
      go_wp2_with fail
      refine HON.out.mono ?_
      rintro e w3 ⟨hb3, ua, uc, rfl, hs3⟩
      have hbx := below1 w3 (.cells #[.int .i64 t''.kind, .int .i64 t''.num, .slice ua t''.kids.length uc] 25)
      have HB3 := tuck (bAfter HB.out (bAfter hb3 hbx))
      have HVA3 := tuck ((HVA.out.below hb3).below hbx)
      have HS3 := tuck (SlX.of_sl (X := (fun i => i = w.heap.size)) (hs3.below hbx) (fun i hi => by have := HZ.out; omega))
      obtain ⟨y0, b0, b1, b2, -⟩ := (VarAt.new w3 t''.kind t''.num (.slice ua t''.kids.length uc)).facts
      obtain ⟨z1, r0, r1, r2, rf⟩ := HVA3.out.facts
      clear hb3 hs3 hbx HON a0 a1 a2
      go_wp2_with fail
      go_roundw
      case rel => exact ⟨n + 1, t'', _, by go_num, by omega, hv'', HN.out, HC.out, bSet3 HB3.out (Nat.le_refl _) _ _ _ _ _ _, HVA3.out.set3, HS3.out.put rfl _ _ _ _ _ _⟩
      case measure => (simp [intOf]; try omega)
     ·rw [stepOut_large hv' hstep hv''] at HON
      rw [hd, runGo_large hstep hv''] at hN hC
      dsimp only at HON hN hC
      replace HP := tuck (HP.out (n : Int) 2 (by omega) hC.symm)
      clear hstep hv' hN hC hd hd'
      go_wp2_with fail
      refine HON.out.mono ?_
      rintro e w3 ⟨hb3, ua, uc, rfl, hs3⟩
      have HB3 := tuck (bAfter HB.out (bAfter hb3 (below1 w3 (.cells #[.int .i64 zeroT.kind, .int .i64 zeroT.num, .slice ua zeroT.kids.length uc] 25))))
      clear hb3 hs3 HON a0 a1 a2
      go_wp2_with fail
      exact HP.out _ HB3.out
 ·rw [tr_not hok] at HFI
  have hC : normC false false t fuel = 3 := by unfold normC; exact if_neg hok
  have hN : redN t fuel = 0 := by unfold redN; exact if_neg hok
  rw [hC, hN]
  have HP : Hid (∀ w', Below w.heap.size w w' → IPair w 0 3 (.returned (.tuple #[.int .i64 0, .int .i64 3])) w') := tuck fun w' h3 => ⟨rfl, h3⟩
  generalize IPair w 0 3 = post at *
  clear hs hb1 hok hC hN HS
  go_enter Tryz.func40, Tryz.ntmps40
  go_wp2_with fail
  refine HFI.out.mono ?_
  rintro e w1 ⟨rfl, hb⟩
  have HB2 := tuck (bAfter HB1.out hb)
  clear hb HFI
  go_wp2_with fail
  exact HP.out _ HB2.out
set_option maxRecDepth 100000 in
set_option maxHeartbeats 4000000 in
theorem redNI_any (t : Tm) (fuel : Int) (w : World) (v : Value) (h : TmIn w 0 t v) : Calls Tryz.prog 39 #[v, .int .i64 fuel] w (IPair w (redN t fuel) (normC false false t fuel)) := by
 obtain ⟨s, rfl, hs⟩ := h
 obtain ⟨a, c, rfl⟩ := hs.form
 have hb1 := below1 w (.cells #[.int .i64 t.kind, .int .i64 t.num, .slice a t.kids.length c] 25)
 have HV0 := tuck (VarAt.new w t.kind t.num (.slice a t.kids.length c))
 have HB1 := tuck hb1
 have HS := tuck hs
 have HVAL := tuck (validI_any t _ _ ⟨_, rfl, hs.below hb1⟩)
 have HFU := tuck (fuelI_any fuel)
 by_cases hv : t.Valid
 ·rw [tr_of hv] at HVAL
  by_cases hfu : 0 ≤ fuel ∧ fuel ≤ 200
  ·rw [tr_of hfu] at HFU
   have hok : NormOk t fuel := ⟨hv, hfu.1, hfu.2⟩
   obtain ⟨F, rfl⟩ : ∃ F : Nat, fuel = (F : Int) := ⟨fuel.toNat, by omega⟩
   have hC : normC false false t F = (runGo false false F t).2.1 := by unfold normC; rw [if_pos hok]; rfl
   have hN : redN t F = (runGo false false F t).2.2 := by unfold redN; rw [if_pos hok]; rfl
   rw [hC, hN]
   have HP : Hid (∀ w', Below w.heap.size w w' → IPair w ((runGo false false F t).2.2 : Int) (runGo false false F t).2.1 (.returned (.tuple #[.int .i64 ((runGo false false F t).2.2 : Int), .int .i64 (runGo false false F t).2.1])) w') := tuck fun w' h3 => ⟨rfl, h3⟩
   have hF2 : F ≤ 1000 := by omega
   have HSTA : Hid (∀ W, Below w.heap.size w W → Calls Tryz.prog 73 #[.agg #[.int .i64 t.kind, .int .i64 t.num, .slice a t.kids.length c], .int .i64 F, .agg #[.bool false, .bool false]] W fun e w' => ∃ g, e = .returned (.pointer (some ⟨g, 0, none⟩)) ∧ W.heap.size ≤ g ∧ Below W.heap.size W w' ∧ RunAt g false false F t W.heap.size W w') := tuck fun W hb => (start_any false false F t hv W _ (HS.out.below hb)).mono fun e w' h => h.run hv
   generalize IPair w ((runGo false false F t).2.2 : Int) (runGo false false F t).2.1 = post at *
   clear hs hb1 hv hfu hok hC hN HS
   go_enter Tryz.func39, Tryz.ntmps39
   go_wp2_with fail
   generalize w.alloc (.cells #[.int .i64 t.kind, .int .i64 t.num, .slice a t.kids.length c] 25) = W0 at *
   refine HVAL.out.mono ?_
   rintro e w1 ⟨rfl, hb1⟩
   have HB2 := tuck (bAfter HB1.out hb1)
   have HVA := tuck (HV0.out.below hb1)
   obtain ⟨z0, a0, a1, a2, -⟩ := HVA.out.facts
   clear hb1 HVAL HB1 HV0
   go_wp2_with fail
   refine (HFU.out _).mono ?_
   rintro e w2 ⟨rfl, rfl⟩
   go_upto_region 3 with fail
   go_cut [6] (fun p wx => ∃ g, p = .pointer (some ⟨g, 0, none⟩) ∧ Below w.heap.size w wx ∧ w.heap.size ≤ wx.heap.size ∧ ∃ B W, Below w.heap.size w W ∧ W.heap.size = B ∧ B ≤ wx.heap.size ∧ RunAt g false false F t B W wx)
   case first =>
    go_region_with (first | (go_at_call 49; refine (outside_any _).mono ?_; rintro e w3 ⟨rfl, hb3⟩; have HB3 := tuck (bAfter HB2.out (bAfter (Below.refl _ _).drew hb3)); have HVA3 := tuck ((HVA.out.below (Below.refl _ _).drew).below hb3); obtain ⟨z3, d0, d1, d2, -⟩ := HVA3.out.facts; clear hb3) | (go_at_call 73; refine (HSTA.out _ HB3.out).mono ?_; rintro e w4 ⟨g, rfl, hg, hb4, hrun⟩; have HB4 := tuck (bAfter HB3.out hb4); have HL4 := tuck hb4.size; have HRUN := tuck hrun; clear hb4 hrun hg))
    all_goals (go_wp2_with fail; go_meet)
    all_goals exact ⟨g, rfl, HB4.out, HB4.out.size, w3.heap.size, w3, HB3.out, rfl, HL4.out, HRUN.out⟩
   case rest =>
   rename World => w3
   obtain ⟨g, rfl, hbx, hlx, B, W, hbW, hWB, hBx, hrun⟩ := hcut
   have HRUN := tuck hrun
   have HBW := tuck hbW
   have HLB := tuck hBx
   subst hWB
   clear hrun hbW hBx hbx hlx HSTA a0 a1 a2 z0
   go_wp2_with fail
   go_loopw [] (fun wr => RunAt g false false F t W.heap.size W wr ∧ W.heap.size ≤ wr.heap.size) (fun wr => F - stepsOf g wr)
   case atStart => exact ⟨HRUN.out, HLB.out⟩
   case round =>
    obtain ⟨hrun, hsz⟩ := hrel
    have HRD := tuck (RunAt.round hF2 hrun hsz)
    have HSZ := tuck hsz
    clear hrun hsz HRUN HLB
    go_wp2_with fail
    refine HRD.out.mono ?_
    rintro e w5 (⟨rfl, hrun5, hs1, hs2, hs3⟩ | ⟨rfl, hend, hs3⟩)
    ·have HR5 := tuck hrun5
     have HM : Hid (stepsOf g wr < F ∧ stepsOf g w5 = stepsOf g wr + 1 ∧ wr.heap.size ≤ w5.heap.size) := tuck ⟨hs1, hs2, hs3⟩
     clear hrun5 hs1 hs2 hs3 HRD
     go_wp2_with fail
     go_roundw
     case rel => exact ⟨HR5.out, Nat.le_trans HSZ.out HM.out.2.2⟩
     case measure =>
      have := HM.out
      omega
    ·obtain ⟨M, hra, hbe, hme⟩ := hend
     obtain ⟨zg, g2, g3, g4, g5, -, g7, g8, gf⟩ := hra.facts
     have HBE := tuck (bAfter HBW.out hbe)
     clear hra hbe hme hs3 HRD HSZ g8 g4 g5
     generalize (runGo false false F t).2.1 = cc at *
     generalize (runGo false false F t).2.2 = nn at *
     go_wp2_with fail
     go_region
     all_goals (try go_wp2_with fail)
     all_goals exact HP.out _ HBE.out.drew
  ·rw [tr_not hfu] at HFU
   have hno : ¬ NormOk t fuel := fun h => hfu h.2
   have hC : normC false false t fuel = 3 := by unfold normC; exact if_neg hno
   have hN : redN t fuel = 0 := by unfold redN; exact if_neg hno
   rw [hC, hN]
   have HP : Hid (∀ w', Below w.heap.size w w' → IPair w 0 3 (.returned (.tuple #[.int .i64 0, .int .i64 3])) w') := tuck fun w' h3 => ⟨rfl, h3⟩
   generalize IPair w 0 3 = post at *
   clear hs hb1 hv hfu hno hC hN HS
   go_enter Tryz.func39, Tryz.ntmps39
   go_wp2_with fail
   refine HVAL.out.mono ?_
   rintro e w1 ⟨rfl, hb1⟩
   have HB2 := tuck (bAfter HB1.out hb1)
   clear hb1 HVAL HB1
   go_wp2_with fail
   refine (HFU.out _).mono ?_
   rintro e w2 ⟨rfl, rfl⟩
   go_wp2_with fail
   exact HP.out _ HB2.out
 ·rw [tr_not hv] at HVAL
  have hno : ¬ NormOk t fuel := fun h => hv h.1
  have hC : normC false false t fuel = 3 := by unfold normC; exact if_neg hno
  have hN : redN t fuel = 0 := by unfold redN; exact if_neg hno
  rw [hC, hN]
  have HP : Hid (∀ w', Below w.heap.size w w' → IPair w 0 3 (.returned (.tuple #[.int .i64 0, .int .i64 3])) w') := tuck fun w' h3 => ⟨rfl, h3⟩
  generalize IPair w 0 3 = post at *
  clear hs hb1 hv hno hC hN HS
  go_enter Tryz.func39, Tryz.ntmps39
  go_wp2_with fail
  refine HVAL.out.mono ?_
  rintro e w1 ⟨rfl, hb1⟩
  have HB2 := tuck (bAfter HB1.out hb1)
  clear hb1 HVAL HB1
  go_wp2_with fail
  exact HP.out _ HB2.out
end Go.Proofs.YtabbbnddfcbdiaaGreat
