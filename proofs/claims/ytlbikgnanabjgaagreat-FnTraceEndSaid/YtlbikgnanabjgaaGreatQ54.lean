/-
  DkT, RedSt.
-/
import Derived.Test.YtlbikgnanabjgaaGreatQ32
import Derived.Test.YtlbikgnanabjgaaGreatQ34
import Derived.Test.YtlbikgnanabjgaaGreatQ40
import Derived.Test.YtlbikgnanabjgaaGreatQ50
import Derived.Deep.DeepCutAuto
namespace Go.Proofs.YtlbikgnanabjgaaGreat
open Go.RowKit
def IPair (w : World) (x y : Int) (e : Ending) (w' : World) : Prop := e = .returned (.tuple #[.int .i64 x, .int .i64 y]) ∧ Below w.heap.size w w'
noncomputable def redN (t : Tm) (fuel : Int) : Int := @ite _ (NormOk t fuel) (Classical.propDecidable _) ((runGo false false fuel.toNat t).2.2 : Int) 0
set_option maxRecDepth 100000 in
set_option maxHeartbeats 4000000 in
theorem redNI_any (t : Tm) (fuel : Int) (w : World) (v : Value) (h : TmIn w 0 t v) : Calls Tryz.prog 12 #[v, .int .i64 fuel] w (IPair w (redN t fuel) (normC false false t fuel)) := by
 obtain ⟨s, rfl, hs⟩ := h
 obtain ⟨a, c, rfl⟩ := hs.form
 have hb1 := below1 w (.cells #[.int .i64 t.kind, .int .i64 t.num, .slice a t.kids.length c] 25)
 have HV0 := tuck (VarAt.new w t.kind t.num (.slice a t.kids.length c))
 have HB1 := tuck hb1
 have HS := tuck hs
 have HVAL := tuck (validI_any t _ _ ⟨_, rfl, hs.below hb1⟩)
 have HFU := tuck (fuelI_any fuel)
 by_cases hv : t.Valid
 ·rw [tr_of hv] at HVAL
  by_cases hfu : 0 ≤ fuel ∧ fuel ≤ 200
  ·rw [tr_of hfu] at HFU
   have hok : NormOk t fuel := ⟨hv, hfu.1, hfu.2⟩
   obtain ⟨F, rfl⟩ : ∃ F : Nat, fuel = (F : Int) := ⟨fuel.toNat, by omega⟩
   have hC : normC false false t F = (runGo false false F t).2.1 := by unfold normC; rw [if_pos hok]; rfl
   have hN : redN t F = (runGo false false F t).2.2 := by unfold redN; rw [if_pos hok]; rfl
   rw [hC, hN]
   have HP : Hid (∀ w', Below w.heap.size w w' → IPair w ((runGo false false F t).2.2 : Int) (runGo false false F t).2.1 (.returned (.tuple #[.int .i64 ((runGo false false F t).2.2 : Int), .int .i64 (runGo false false F t).2.1])) w') := tuck fun w' h3 => ⟨rfl, h3⟩
   have hF2 : F ≤ 1000 := by omega
   have HSTA : Hid (∀ W, Below w.heap.size w W → Calls Tryz.prog 25 #[.agg #[.int .i64 t.kind, .int .i64 t.num, .slice a t.kids.length c], .int .i64 F, .agg #[.bool false, .bool false]] W fun e w' => ∃ g, e = .returned (.pointer (some ⟨g, 0, none⟩)) ∧ W.heap.size ≤ g ∧ Below W.heap.size W w' ∧ RunAt g false false F t W.heap.size W w') := tuck fun W hb => (start_any false false F t hv W _ (HS.out.below hb)).mono fun e w' h => h.run hv
   generalize IPair w ((runGo false false F t).2.2 : Int) (runGo false false F t).2.1 = post at *
   clear hs hb1 hv hfu hok hC hN HS
   go_enter Tryz.func12, Tryz.ntmps12
   go_wp2_with fail
   generalize w.alloc (.cells #[.int .i64 t.kind, .int .i64 t.num, .slice a t.kids.length c] 25) = W0 at *
   refine HVAL.out.mono ?_
   rintro e w1 ⟨rfl, hb1⟩
   have HB2 := tuck (bAfter HB1.out hb1)
   have HVA := tuck (HV0.out.below hb1)
   obtain ⟨z0, a0, a1, a2, -⟩ := HVA.out.facts
   clear hb1 HVAL HB1 HV0
   go_wp2_with fail
   refine (HFU.out _).mono ?_
   rintro e w2 ⟨rfl, rfl⟩
   go_upto_region 3 with fail
   go_cut [6] (fun p wx => ∃ g, p = .pointer (some ⟨g, 0, none⟩) ∧ Below w.heap.size w wx ∧ w.heap.size ≤ wx.heap.size ∧ ∃ B W, Below w.heap.size w W ∧ W.heap.size = B ∧ B ≤ wx.heap.size ∧ RunAt g false false F t B W wx)
   case first =>
    go_region_with (first | (go_at_call 22; refine (outside_any _).mono ?_; rintro e w3 ⟨rfl, hb3⟩; have HB3 := tuck (bAfter HB2.out (bAfter (Below.refl _ _).drew hb3)); have HVA3 := tuck ((HVA.out.below (Below.refl _ _).drew).below hb3); obtain ⟨z3, d0, d1, d2, -⟩ := HVA3.out.facts; clear hb3) | (go_at_call 25; refine (HSTA.out _ HB3.out).mono ?_; rintro e w4 ⟨g, rfl, hg, hb4, hrun⟩; have HB4 := tuck (bAfter HB3.out hb4); have HL4 := tuck hb4.size; have HRUN := tuck hrun; clear hb4 hrun hg))
    all_goals (go_wp2_with fail; go_meet)
    all_goals exact ⟨g, rfl, HB4.out, HB4.out.size, w3.heap.size, w3, HB3.out, rfl, HL4.out, HRUN.out⟩
   case rest =>
   rename World => w3
   obtain ⟨g, rfl, hbx, hlx, B, W, hbW, hWB, hBx, hrun⟩ := hcut
   have HRUN := tuck hrun
   have HBW := tuck hbW
   have HLB := tuck hBx
   subst hWB
   clear hrun hbW hBx hbx hlx HSTA a0 a1 a2 z0
   go_wp2_with fail
   go_loopw [] (fun wr => RunAt g false false F t W.heap.size W wr ∧ W.heap.size ≤ wr.heap.size) (fun wr => F - stepsOf g wr)
   case atStart => exact ⟨HRUN.out, HLB.out⟩
   case round =>
    obtain ⟨hrun, hsz⟩ := hrel
    have HRD := tuck (RunAt.round hF2 hrun hsz)
    have HSZ := tuck hsz
    clear hrun hsz HRUN HLB
    go_wp2_with fail
    refine HRD.out.mono ?_
    rintro e w5 (⟨rfl, hrun5, hs1, hs2, hs3⟩ | ⟨rfl, hend, hs3⟩)
    ·have HR5 := tuck hrun5
     have HM : Hid (stepsOf g wr < F ∧ stepsOf g w5 = stepsOf g wr + 1 ∧ wr.heap.size ≤ w5.heap.size) := tuck ⟨hs1, hs2, hs3⟩
     clear hrun5 hs1 hs2 hs3 HRD
     go_wp2_with fail
     go_roundw
     case rel => exact ⟨HR5.out, Nat.le_trans HSZ.out HM.out.2.2⟩
     case measure =>
      have := HM.out
      omega
    ·obtain ⟨M, hra, hbe, hme⟩ := hend
     obtain ⟨zg, g2, g3, g4, g5, -, g7, g8, gf⟩ := hra.facts
     have HBE := tuck (bAfter HBW.out hbe)
     clear hra hbe hme hs3 HRD HSZ g8 g4 g5
     generalize (runGo false false F t).2.1 = cc at *
     generalize (runGo false false F t).2.2 = nn at *
     go_wp2_with fail
     go_region
     all_goals (try go_wp2_with fail)
     all_goals exact HP.out _ HBE.out.drew
  ·rw [tr_not hfu] at HFU
   have hno : ¬ NormOk t fuel := fun h => hfu h.2
   have hC : normC false false t fuel = 3 := by unfold normC; exact if_neg hno
   have hN : redN t fuel = 0 := by unfold redN; exact if_neg hno
   rw [hC, hN]
   have HP : Hid (∀ w', Below w.heap.size w w' → IPair w 0 3 (.returned (.tuple #[.int .i64 0, .int .i64 3])) w') := tuck fun w' h3 => ⟨rfl, h3⟩
   generalize IPair w 0 3 = post at *
   clear hs hb1 hv hfu hno hC hN HS
   go_enter Tryz.func12, Tryz.ntmps12
   go_wp2_with fail
   refine HVAL.out.mono ?_
   rintro e w1 ⟨rfl, hb1⟩
   have HB2 := tuck (bAfter HB1.out hb1)
   clear hb1 HVAL HB1
   go_wp2_with fail
   refine (HFU.out _).mono ?_
   rintro e w2 ⟨rfl, rfl⟩
   go_wp2_with fail
   exact HP.out _ HB2.out
 ·rw [tr_not hv] at HVAL
  have hno : ¬ NormOk t fuel := fun h => hv h.1
  have hC : normC false false t fuel = 3 := by unfold normC; exact if_neg hno
  have hN : redN t fuel = 0 := by unfold redN; exact if_neg hno
  rw [hC, hN]
  have HP : Hid (∀ w', Below w.heap.size w w' → IPair w 0 3 (.returned (.tuple #[.int .i64 0, .int .i64 3])) w') := tuck fun w' h3 => ⟨rfl, h3⟩
  generalize IPair w 0 3 = post at *
  clear hs hb1 hv hno hC hN HS
  go_enter Tryz.func12, Tryz.ntmps12
  go_wp2_with fail
  refine HVAL.out.mono ?_
  rintro e w1 ⟨rfl, hb1⟩
  have HB2 := tuck (bAfter HB1.out hb1)
  clear hb1 HVAL HB1
  go_wp2_with fail
  exact HP.out _ HB2.out
end Go.Proofs.YtlbikgnanabjgaaGreat
namespace Go.Proofs.YtlbikgnanabjgaaGreat
open Go.RowKit
set_option maxRecDepth 100000 in
set_option maxHeartbeats 1600000 in
theorem dkTerms_any (l : List Tm) (hv : ∀ x ∈ l, x.Valid) (w : World) (v1 v2 : Value) (h1 : SlIn w 0 l v1) (h2 : SlIn w 0 l v2) : Calls Tryz.prog 11 #[v1, v2] w (BoolPost w true) := by
 obtain ⟨a, cap, b, o, rfl, hl, hp, hc⟩ := h1.open
 obtain ⟨a', cap', b', o', rfl, -, hp', hc'⟩ := h2.open
 clear h1 h2
 have HTV := tuck hv
 have HP := tuck hp
 have HP' := tuck hp'
 have HC := tuck hc
 have HC' := tuck hc'
 clear hp hp' hc hc' hv
 unfold maxLen at hl
 have g3 : ((l.length : Int) != (l.length : Int)) = false := by simp
 go_enter Tryz.func11, Tryz.ntmps11
 go_wp2_with fail
 go_loopw [5] (fun i wr => ∃ q : Nat, q ≤ l.length ∧ i = .int .i64 q ∧ Below w.heap.size w wr) (fun i _ => l.length - (intOf i).toNat)
 case atStart => exact ⟨0, Nat.zero_le _, rfl, Below.refl _ _⟩
 case round =>
  obtain ⟨q, hq, rfl, hb⟩ := hrel
  have HB := tuck hb
  by_cases hlt : q < l.length
  ·have hlti : ((q : Int) < (l.length : Int)) := by omega
   obtain ⟨rfl, _, hbw⟩ := HP.out (by intro e; rw [e] at hlt; simp at hlt)
   obtain ⟨rfl, _, hbw'⟩ := HP'.out (by intro e; rw [e] at hlt; simp at hlt)
   obtain ⟨s, c0, c1, c2, hs⟩ := HC.out q hlt
   obtain ⟨s', d0, d1, d2, hs'⟩ := HC'.out q hlt
   replace c0 := (hb.cell (p := ⟨b, o + q * 3, none⟩) hbw).trans c0
   replace c1 := (hb.cell (p := ⟨b, o + q * 3 + 1, none⟩) hbw).trans c1
   replace c2 := (hb.cell (p := ⟨b, o + q * 3 + 2, none⟩) hbw).trans c2
   replace d0 := (hb.cell (p := ⟨b', o' + q * 3, none⟩) hbw').trans d0
   replace d1 := (hb.cell (p := ⟨b', o' + q * 3 + 1, none⟩) hbw').trans d1
   replace d2 := (hb.cell (p := ⟨b', o' + q * 3 + 2, none⟩) hbw').trans d2
   have HS := tuck (hs.below hb)
   have HS' := tuck (hs'.below hb)
   have HX := tuck (same_v (HTV.out l[q] (List.getElem_mem _)))
   clear hb hs hs' HTV HC HC' HP HP'
   generalize l[q] = x at *
   obtain ⟨sa, sc, rfl⟩ := HS.out.form
   obtain ⟨sa', sc', rfl⟩ := HS'.out.form
   go_wp2_with fail
   go_still_tail 8, (by kernel_rfl)
   change wpList _ _ _ _ _ wr.drew
   go_wp2_with (go_at_call 8; refine (HX.out wr.drew _ _ ⟨_, rfl, HS.out.below (Below.refl _ _).drew⟩ ⟨_, rfl, HS'.out.below (Below.refl _ _).drew⟩).mono ?_; rintro e w' ⟨rfl, hb'⟩)
   go_roundw
   case rel => exact ⟨q + 1, by omega, by go_num, HB.out.drew.trans (hb'.mono HB.out.size)⟩
   case measure => simp [intOf]; omega
  ·have hge2 : ¬ ((q : Int) < (l.length : Int)) := by omega
   clear hb
   go_wp2
   go_ret
   exact ⟨rfl, HB.out⟩
end Go.Proofs.YtlbikgnanabjgaaGreat
