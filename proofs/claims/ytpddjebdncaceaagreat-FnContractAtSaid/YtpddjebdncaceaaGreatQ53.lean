/-
  NormL, NormM.
-/
import Derived.Test.YtpddjebdncaceaaGreatQ35
import Derived.Test.YtpddjebdncaceaaGreatQ52
namespace Go.Proofs.YtpddjebdncaceaaGreat
open Go.RowKit
theorem orZeroI_yes {P : Prop} {T : Tm} (h : P) : orZero P T = T := if_pos h
theorem orZeroI_no {P : Prop} {T : Tm} (h : ¬ P) : orZero P T = zeroT := if_neg h
set_option maxRecDepth 100000 in
theorem fuelI_any (fuel : Int) (w : World) : Calls Tryz.prog 90 #[I6 fuel] w (fun e w' => e = .returned (.bool (tr (0 ≤ fuel ∧ fuel ≤ 200))) ∧ w' = w) := by
 by_cases h0 : 0 ≤ fuel
 ·have hg0 : (fuel ≥ 0) := h0
  by_cases h1 : fuel ≤ 200
  ·rw [tr_of (show 0 ≤ fuel ∧ fuel ≤ 200 from ⟨h0, h1⟩)]
   go_enter Tryz.func90, Tryz.ntmps90
   go_wp2_with fail
   go_ret
   exact ⟨rfl, rfl⟩
  ·rw [tr_not (show ¬ (0 ≤ fuel ∧ fuel ≤ 200) from fun h => h1 h.2)]
   have hd1 : decide (fuel ≤ 200) = false := decide_eq_false h1
   go_enter Tryz.func90, Tryz.ntmps90
   go_wp2_with fail
   go_ret
   exact ⟨rfl, rfl⟩
 ·rw [tr_not (show ¬ (0 ≤ fuel ∧ fuel ≤ 200) from fun h => h0 h.1)]
  go_enter Tryz.func90, Tryz.ntmps90
  go_wp2_with fail
  go_ret
  exact ⟨rfl, rfl⟩
def stepsOf (g : Nat) (w : World) : Nat := match w.cell? ⟨g, 3, none⟩ with | some v => (intOf v).toNat | none => 0
theorem RedAt.stepsOf {g : Nat} {rl mo : Bool} {fuel steps : Nat} {t : Tm} {code : Int} {M : Nat → Prop} {w : World} (h : RedAt g rl mo fuel steps t code M w) : Go.Proofs.YtpddjebdncaceaaGreat.stepsOf g w = steps := by
 unfold Go.Proofs.YtpddjebdncaceaaGreat.stepsOf
 rw [h.facts.2.2.1]
 simp [intOf]
def RunAt (g : Nat) (rl mo : Bool) (fuel : Nat) (t : Tm) (B : Nat) (w0 : World) (w : World) : Prop :=
 ∃ (steps : Nat) (t' : Tm) (M : Nat → Prop), RedAt g rl mo fuel steps t' 0 M w ∧ Below B w0 w ∧ (∀ i, M i → B ≤ i) ∧ t'.Valid ∧ steps ≤ fuel ∧ (runGo rl mo (fuel - steps) t').1 = (runGo rl mo fuel t).1 ∧ (runGo rl mo (fuel - steps) t').2.1 = (runGo rl mo fuel t).2.1 ∧ (runGo rl mo (fuel - steps) t').2.2 + steps = (runGo rl mo fuel t).2.2
def RunEnd (g : Nat) (rl mo : Bool) (fuel : Nat) (t : Tm) (B : Nat) (w0 : World) (w : World) : Prop :=
 ∃ (M : Nat → Prop), RedAt g rl mo fuel (runGo rl mo fuel t).2.2 (runGo rl mo fuel t).1 (runGo rl mo fuel t).2.1 M w ∧ Below B w0 w ∧ (∀ i, M i → B ≤ i)
theorem RunAt.round {g : Nat} {rl mo : Bool} {fuel : Nat} (hf : fuel ≤ 1000) {t : Tm} {B : Nat} {w0 w : World} (h : RunAt g rl mo fuel t B w0 w) (hB : B ≤ w.heap.size) :
  Calls Tryz.prog 92 #[.pointer (some ⟨g, 0, none⟩)] w fun e w' => (e = .returned (.bool true) ∧ RunAt g rl mo fuel t B w0 w' ∧ stepsOf g w < fuel ∧ stepsOf g w' = stepsOf g w + 1 ∧ w.heap.size ≤ w'.heap.size) ∨ (e = .returned (.bool false) ∧ RunEnd g rl mo fuel t B w0 w' ∧ w.heap.size ≤ w'.heap.size) := by
 obtain ⟨steps, t', M, h1, h2, h3, h4, h5, h6, h7, h8⟩ := h
 refine (rstep_any g rl mo fuel steps hf h5 t' h4 0 M w h1).mono ?_
 rintro e w' ⟨M', hs, hc⟩
 have hb := hs.below h2 hB h3
 have hm := hs.ge hB h3
 rcases hc with ⟨hn, rfl, hr⟩ | ⟨t'', hn, ⟨hsf, rfl, hr⟩ | ⟨hsf, hv, rfl, hr⟩ | ⟨hsf, hv, rfl, hr⟩⟩
 ·right
  rw [runGo_none hn] at h6 h7 h8
  refine ⟨rfl, ⟨M', ?_, hb, hm⟩, hs.size⟩
  rw [← h6, ← h7, ← h8]
  simpa using hr
 ·right
  subst hsf
  rw [Nat.sub_self, runGo_zero hn] at h6 h7 h8
  refine ⟨rfl, ⟨M', ?_, hb, hm⟩, hs.size⟩
  rw [← h6, ← h7, ← h8]
  simpa using hr
 ·right
  obtain ⟨d, hd⟩ : ∃ d, fuel - steps = d + 1 := ⟨fuel - steps - 1, by omega⟩
  rw [hd, runGo_large hn hv] at h6 h7 h8
  refine ⟨rfl, ⟨M', ?_, hb, hm⟩, hs.size⟩
  rw [← h6, ← h7, ← h8]
  simpa using hr
 ·left
  obtain ⟨d, hd⟩ : ∃ d, fuel - steps = d + 1 := ⟨fuel - steps - 1, by omega⟩
  have hd' : fuel - (steps + 1) = d := by omega
  rw [hd, runGo_took hn hv] at h6 h7 h8
  refine ⟨rfl, ⟨steps + 1, t'', M', hr, hb, hm, hv, by omega, ?_, ?_, ?_⟩, ?_, ?_, hs.size⟩
  ·rw [hd']; exact h6
  ·rw [hd']; exact h7
  ·rw [hd']; dsimp only at h8; omega
  ·rw [h1.stepsOf]; omega
  ·rw [h1.stepsOf, hr.stepsOf]
theorem StartPost.run {rl mo : Bool} {fuel : Nat} {t : Tm} (ht : t.Valid) {w w' : World} {e : Ending} (h : StartPost rl mo fuel t w e w') : ∃ g, e = .returned (.pointer (some ⟨g, 0, none⟩)) ∧ w.heap.size ≤ g ∧ Below w.heap.size w w' ∧ RunAt g rl mo fuel t w.heap.size w w' := by
 obtain ⟨g, M, rfl, hb, hm, hr⟩ := h
 exact ⟨g, rfl, hm _ hr.own.1, hb, 0, t, M, hr, hb, hm, ht, Nat.zero_le _, rfl, rfl, rfl⟩
set_option maxRecDepth 100000 in
set_option maxHeartbeats 4000000 in
theorem many_any (rl mo : Bool) (t : Tm) (fuel : Int) (w : World) (s : Value) (hs : SlIn w 0 t.kids s) : Calls Tryz.prog 54 #[.agg #[I6 t.kind, I6 t.num, s], I6 fuel, .agg #[.bool rl, .bool mo]] w (CodePost w (normC rl mo t fuel) (normT rl mo t fuel)) := by
 obtain ⟨a, c, rfl⟩ := hs.form
 have hb3 := below3 w (.cells #[I6 t.kind, I6 t.num, .slice a t.kids.length c] 34) (.cells #[.bool rl, .bool mo] 87) (.cells #[I6 0, I6 0, .slice none 0 0] 34)
 have HB3 := tuck hb3
 have HV0 := tuck (((VarAt.new w t.kind t.num (.slice a t.kids.length c)).below (below1 _ (.cells #[.bool rl, .bool mo] 87))).below (below1 _ (.cells #[I6 0, I6 0, .slice none 0 0] 34)))
 have HV2 := tuck (var_new2 w (.cells #[I6 t.kind, I6 t.num, .slice a t.kids.length c] 34) (.cells #[.bool rl, .bool mo] 87) 0 0 (.slice none 0 0))
 have HVAL := tuck (validI_any t _ _ ⟨_, rfl, hs.below hb3⟩)
 have HS := tuck hs
 have HFU := tuck (fuelI_any fuel)
 have HZ : Hid ((((w.alloc (.cells #[I6 t.kind, I6 t.num, .slice a t.kids.length c] 34)).alloc (.cells #[.bool rl, .bool mo] 87)).alloc (.cells #[I6 0, I6 0, .slice none 0 0] 34)).heap.size = w.heap.size + 3) := tuck (by simp)
 by_cases hv : t.Valid
 ·rw [tr_of hv] at HVAL
  by_cases hfu : 0 ≤ fuel ∧ fuel ≤ 200
  ·rw [tr_of hfu] at HFU
   have hok : NormOk t fuel := ⟨hv, hfu.1, hfu.2⟩
   obtain ⟨F, rfl⟩ : ∃ F : Nat, fuel = (F : Int) := ⟨fuel.toNat, by omega⟩
   have hC : normC rl mo t F = (runGo rl mo F t).2.1 := by unfold normC; rw [if_pos hok]; rfl
   have HPZ : Hid ((runGo rl mo F t).2.1 ≠ 0 → ∀ w', Below w.heap.size w w' → CodePost w (normC rl mo t F) (normT rl mo t F) (.returned (.tuple #[.agg #[I6 0, I6 0, .slice none 0 0], I6 (runGo rl mo F t).2.1])) w') := tuck fun h0 w' h1 => by
    unfold normT; rw [hC, orZeroI_no h0]; exact CodePost.zero h1
   have HPO : Hid ((runGo rl mo F t).2.1 = 0 → ∀ w' s F', Below w.heap.size w w' → SlOwn w' (runGo rl mo F t).1.kids s F' → F'.Nodup → (∀ g ∈ F', w.heap.size ≤ g ∧ g < w'.heap.size) → CodePost w (normC rl mo t F) (normT rl mo t F) (.returned (.tuple #[.agg #[I6 (runGo rl mo F t).1.kind, I6 (runGo rl mo F t).1.num, s], I6 0])) w') := tuck fun h0 w' s F' h1 h2 h3 h4 => by
    unfold normT; rw [hC, orZeroI_yes h0, h0]; exact CodePost.made h1 h2 h3 h4
   have HTV : Hid ((runGo rl mo F t).1.Valid) := tuck (runGo_valid F t hv)
   have hF2 : F ≤ 1000 := by omega
   have HSTA : Hid (∀ W, Below w.heap.size w W → Calls Tryz.prog 91 #[.agg #[I6 t.kind, I6 t.num, .slice a t.kids.length c], I6 F, .agg #[.bool rl, .bool mo]] W fun e w' => ∃ g, e = .returned (.pointer (some ⟨g, 0, none⟩)) ∧ W.heap.size ≤ g ∧ Below W.heap.size W w' ∧ RunAt g rl mo F t W.heap.size W w') := tuck fun W hb => (start_any rl mo F t hv W _ (HS.out.below hb)).mono fun e w' h => h.run hv
   generalize CodePost w (normC rl mo t F) (normT rl mo t F) = post at *
   have hsb0 : (((w.alloc (.cells #[I6 t.kind, I6 t.num, .slice a t.kids.length c] 34)).alloc (.cells #[.bool rl, .bool mo] 87)).alloc (.cells #[I6 0, I6 0, .slice none 0 0] 34)).heap[w.heap.size + 1]? = some (.cells #[.bool rl, .bool mo] 87 (0, 0)) := by
    have := (below1 ((w.alloc (.cells #[I6 t.kind, I6 t.num, .slice a t.kids.length c] 34)).alloc (.cells #[.bool rl, .bool mo] 87)) (.cells #[I6 0, I6 0, .slice none 0 0] 34)).block (w.heap.size + 1) (by simp)
    rw [this]
    have := heap_new (w.alloc (.cells #[I6 t.kind, I6 t.num, .slice a t.kids.length c] 34)) (.cells #[.bool rl, .bool mo] 87)
    simpa using this
   have HSB := tuck hsb0
   clear hs hb3 hv hfu hok hC hsb0 HS
   go_enter Tryz.func54, Tryz.ntmps54
   go_wp2_with fail
   generalize ((w.alloc (.cells #[I6 t.kind, I6 t.num, .slice a t.kids.length c] 34)).alloc (.cells #[.bool rl, .bool mo] 87)).alloc (.cells #[I6 0, I6 0, .slice none 0 0] 34) = W0 at *
   refine HVAL.out.mono ?_
   rintro e w1 ⟨rfl, hb1⟩
   have HB1 := tuck (bAfter HB3.out hb1)
   have HVA := tuck (HV0.out.below hb1)
   have HVR := tuck (HV2.out.below hb1)
   obtain ⟨zs, db, -⟩ := block_of_cells ((hb1.block _ (block_of_cells HSB.out).1).trans HSB.out)
   have b0 : w1.cell? ⟨w.heap.size + 1, 0, none⟩ = some (.bool rl) := db 0
   have b1 : w1.cell? ⟨w.heap.size + 1, 1, none⟩ = some (.bool mo) := db 1
   obtain ⟨z0, a0, a1, a2, -⟩ := HVA.out.facts
   have HZ1 : Hid (w.heap.size + 3 ≤ w1.heap.size) := tuck (by have := hb1.size; have := HZ.out; omega)
   clear hb1 db HVAL HB3 HV0 HV2 HSB HZ
   go_wp2_with fail
   refine (HFU.out _).mono ?_
   rintro e w2 ⟨rfl, rfl⟩
   go_wp2_with fail
   refine (HSTA.out _ HB1.out).mono ?_
   rintro e w3 ⟨g, rfl, hg, hb3, hrun⟩
   have HRUN := tuck hrun
   have HB3 := tuck hb3
   have HGL : Hid (w2.heap.size ≤ g) := tuck hg
   clear hrun hb3 hg HSTA a0 a1 a2 z0 b0 b1 zs
   go_wp2_with fail
   go_loopw [] (fun wr => RunAt g rl mo F t w2.heap.size w2 wr ∧ w2.heap.size ≤ wr.heap.size) (fun wr => F - stepsOf g wr)
   case atStart => exact ⟨HRUN.out, HB3.out.size⟩
   case round =>
    obtain ⟨hrun, hsz⟩ := hrel
    have HRD := tuck (RunAt.round hF2 hrun hsz)
    have HSZ := tuck hsz
    clear hrun hsz HRUN HB3
    go_wp2_with fail
    refine HRD.out.mono ?_
    rintro e w5 (⟨rfl, hrun5, hs1, hs2, hs3⟩ | ⟨rfl, hend, hs3⟩)
    ·have HR5 := tuck hrun5
     have HM : Hid (stepsOf g wr < F ∧ stepsOf g w5 = stepsOf g wr + 1 ∧ wr.heap.size ≤ w5.heap.size) := tuck ⟨hs1, hs2, hs3⟩
     clear hrun5 hs1 hs2 hs3 HRD
     go_wp2_with fail
     go_roundw
     case rel => exact ⟨HR5.out, Nat.le_trans HSZ.out HM.out.2.2⟩
     case measure =>
      have := HM.out
      omega
    ·obtain ⟨M, hra, hbe, hme⟩ := hend
     obtain ⟨zg, g2, g3, g4, g5, ⟨ta, tc, g6, hsx⟩, g7, g8, gf⟩ := hra.facts
     have HSX := tuck hsx.sl
     have HBE := tuck (bAfter HB1.out hbe)
     have HVR5 := tuck (HVR.out.below hbe)
     clear hra hbe hme hsx hs3 HRD HSZ
     have HCL : Hid (∀ (W : World) (s : Value), SlIn W 0 (runGo rl mo F t).1.kids s → Calls Tryz.prog 45 #[.agg #[I6 (runGo rl mo F t).1.kind, I6 (runGo rl mo F t).1.num, s]] W (MadePost W (runGo rl mo F t).1)) := tuck fun W s hs => by
      have h2 := (valid_bounds HTV.out).1
      have := cloneI_any (runGo rl mo F t).1.kids (runGo rl mo F t).1.kind (runGo rl mo F t).1.num W _ (by omega) hs
      rwa [Tm.eta] at this
     by_cases hc0 : (runGo rl mo F t).2.1 = 0
     ·rw [hc0] at g7
      replace HPO := tuck (HPO.out hc0)
      clear HPZ HTV hc0 g8
      generalize (runGo rl mo F t).1 = T0 at *
      have HCL5 := tuck (HCL.out _ _ HSX.out)
      go_wp2_with fail
      refine HCL5.out.mono ?_
      rintro e w8 ⟨hb8, v8, rfl, s8, F8, rfl, hs8, hn8, hF8⟩
      obtain ⟨xa, xc, rfl⟩ := hs8.form
      obtain ⟨zr, r0, r1, r2, rf⟩ := (HVR5.out.below hb8).facts
      have HB8 := tuck (bAfter HBE.out hb8)
      have HS8 := tuck hs8
      have HN8 := tuck hn8
      have HF8 := tuck hF8
      have HZ8 : Hid (w.heap.size + 2 < w5.heap.size) := tuck HVR5.out.facts.1
      clear hb8 hs8 hn8 hF8 HCL HCL5 g2 g3 g4 g5 g6 g7 gf zg
      go_wp2_with fail
      refine bodyPost_ret (v := .tuple #[.agg #[I6 T0.kind, I6 T0.num, .slice xa T0.kids.length xc], I6 0]) (by simp [results, Tryz.results54, go_sem, *]) rfl (HPO.out _ _ F8 ?_ ?_ HN8.out (fun g hg => ?_))
      ·exact bSet3 HB8.out (by omega) _ _ _ _ _ _
      ·exact HS8.out.set3 (fun h => by have := (HF8.out _ h).1; have := HZ8.out; omega) _ _ _ _ _ _
      ·rw [size_set3]
       have := HF8.out g hg
       have := HZ8.out
       omega
     ·replace HPZ := tuck (HPZ.out hc0)
      have hcc : ((runGo rl mo F t).2.1 != 0) = true := by simp [hc0]
      have HCB : Hid ((runGo rl mo F t).2.1 = 1 ∨ (runGo rl mo F t).2.1 = 2) := tuck (by rcases runGo_code (rl := rl) (mo := mo) F t with h | h | h; exact absurd h hc0; exact Or.inl h; exact Or.inr h)
      obtain ⟨zr, r0, r1, r2, rf⟩ := HVR5.out.facts
      clear HPO HTV hc0 g8 HCL HSX
      generalize (runGo rl mo F t).2.1 = cc at *
      generalize (runGo rl mo F t).1 = T0 at *
      go_wp2_with fail
      go_region
      all_goals (try go_wp2_with fail)
      all_goals
       refine bodyPost_ret (v := .tuple #[.agg #[I6 0, I6 0, .slice none 0 0], I6 cc]) (by simp [results, Tryz.results54, go_sem, *]) rfl (HPZ.out _ ?_)
       exact bSet3 (HBE.out.trans (Below.refl _ _).drew |> fun h => h) (by omega) _ _ _ _ _ _
  ·rw [tr_not hfu] at HFU
   have hno : ¬ NormOk t fuel := fun h => hfu h.2
   have hC : normC rl mo t fuel = 3 := by unfold normC; exact if_neg hno
   have hT : normT rl mo t fuel = zeroT := by unfold normT; rw [hC]; exact if_neg (by decide)
   rw [hC, hT]
   have HPZ : Hid (∀ w', Below w.heap.size w w' → CodePost w 3 zeroT (.returned (.tuple #[.agg #[I6 0, I6 0, .slice none 0 0], I6 3])) w') := tuck fun w' h => CodePost.zero h
   generalize CodePost w 3 zeroT = post at *
   clear hs hb3 hv hfu hno hC hT HS
   go_enter Tryz.func54, Tryz.ntmps54
   go_wp2_with fail
   generalize ((w.alloc (.cells #[I6 t.kind, I6 t.num, .slice a t.kids.length c] 34)).alloc (.cells #[.bool rl, .bool mo] 87)).alloc (.cells #[I6 0, I6 0, .slice none 0 0] 34) = W0 at *
   refine HVAL.out.mono ?_
   rintro e w1 ⟨rfl, hb1⟩
   have HB1 := tuck (bAfter HB3.out hb1)
   obtain ⟨z2, r0, r1, r2, rf⟩ := (HV2.out.below hb1).facts
   clear hb1 HVAL HB3 HV0 HV2 HZ
   go_wp2_with fail
   refine (HFU.out _).mono ?_
   rintro e w2 ⟨rfl, rfl⟩
   go_wp2_with fail
   refine bodyPost_ret (v := .tuple #[.agg #[I6 0, I6 0, .slice none 0 0], I6 3]) (by simp [results, Tryz.results54, go_sem, *]) rfl (HPZ.out _ ?_)
   exact bSet3 HB1.out (by omega) _ _ _ _ _ _
 ·rw [tr_not hv] at HVAL
  have hno : ¬ NormOk t fuel := fun h => hv h.1
  have hC : normC rl mo t fuel = 3 := by unfold normC; exact if_neg hno
  have hT : normT rl mo t fuel = zeroT := by unfold normT; rw [hC]; exact if_neg (by decide)
  rw [hC, hT]
  have HPZ : Hid (∀ w', Below w.heap.size w w' → CodePost w 3 zeroT (.returned (.tuple #[.agg #[I6 0, I6 0, .slice none 0 0], I6 3])) w') := tuck fun w' h => CodePost.zero h
  generalize CodePost w 3 zeroT = post at *
  clear hs hb3 hv hno hC hT HS HFU
  go_enter Tryz.func54, Tryz.ntmps54
  go_wp2_with fail
  generalize ((w.alloc (.cells #[I6 t.kind, I6 t.num, .slice a t.kids.length c] 34)).alloc (.cells #[.bool rl, .bool mo] 87)).alloc (.cells #[I6 0, I6 0, .slice none 0 0] 34) = W0 at *
  refine HVAL.out.mono ?_
  rintro e w1 ⟨rfl, hb1⟩
  have HB1 := tuck (bAfter HB3.out hb1)
  obtain ⟨z2, r0, r1, r2, rf⟩ := (HV2.out.below hb1).facts
  clear hb1 HVAL HB3 HV0 HV2 HZ
  go_wp2_with fail
  refine bodyPost_ret (v := .tuple #[.agg #[I6 0, I6 0, .slice none 0 0], I6 3]) (by simp [results, Tryz.results54, go_sem, *]) rfl (HPZ.out _ ?_)
  exact bSet3 HB1.out (by omega) _ _ _ _ _ _
end Go.Proofs.YtpddjebdncaceaaGreat
namespace Go.Proofs.YtpddjebdncaceaaGreat
open Go.RowKit
set_option maxRecDepth 100000 in
set_option maxHeartbeats 1600000 in
theorem normTI_any (t : Tm) (x0 : Int) (w : World) (v : Value) (h : TmIn w 0 t v) : Calls Tryz.prog 23 #[v, I6 x0] w (CodePost w (normC false false t x0) (normT false false t x0)) := by
 obtain ⟨s, rfl, hs⟩ := h
 obtain ⟨a, c, rfl⟩ := hs.form
 have hb2 := below2 w (.cells #[I6 t.kind, I6 t.num, .slice a t.kids.length c] 34) (.cells #[I6 0, I6 0, .slice none 0 0] 34)
 have HV0 := tuck ((VarAt.new w t.kind t.num (.slice a t.kids.length c)).below (below1 _ (.cells #[I6 0, I6 0, .slice none 0 0] 34)))
 have HV1 := tuck (var_new1 w (.cells #[I6 t.kind, I6 t.num, .slice a t.kids.length c] 34) 0 0 (.slice none 0 0))
 have HB2 := tuck hb2
 have HSO : Hid (∀ W, Below w.heap.size w W → Calls Tryz.prog 54 #[.agg #[I6 t.kind, I6 t.num, .slice a t.kids.length c], I6 x0, .agg #[.bool false, .bool false]] W (CodePost W (normC false false t x0) (normT false false t x0))) := tuck fun W h => many_any false false t x0 W _ (hs.below h)
 clear hs hb2
 have HP : Hid (∀ w' s F, Below w.heap.size w w' → SlOwn w' (normT false false t x0).kids s F → F.Nodup → (∀ g ∈ F, w.heap.size ≤ g ∧ g < w'.heap.size) → CodePost w (normC false false t x0) (normT false false t x0) (.returned (.tuple #[.agg #[I6 (normT false false t x0).kind, I6 (normT false false t x0).num, s], I6 (normC false false t x0)])) w') := tuck fun w' s F h1 h2 h3 h4 => CodePost.made h1 h2 h3 h4
 generalize CodePost w (normC false false t x0) (normT false false t x0) = post at *
 generalize (normT false false t x0) = T at *
 generalize (normC false false t x0) = cc at *
 go_enter Tryz.func23, Tryz.ntmps23
 go_wp2_with fail
 generalize (w.alloc (.cells #[I6 t.kind, I6 t.num, .slice a t.kids.length c] 34)).alloc (.cells #[I6 0, I6 0, .slice none 0 0] 34) = W2 at *
 obtain ⟨z0, a0, a1, a2, -⟩ := HV0.out.facts
 go_region_with (first | (go_at_call 55; refine (outside_any _).mono ?_; rintro e w3 ⟨rfl, hb3⟩; have HB3 : Hid (Below W2.heap.size W2 w3) := tuck (bAfter (Below.refl _ _).drew hb3); obtain ⟨z3, d0, d1, d2, -⟩ := (HV0.out.below HB3.out).facts; clear hb3) | (go_at_call 54; refine (HSO.out _ (bAfter HB2.out HB3.out)).mono ?_; rintro e w4 ⟨hb4, v4, rfl, s4, F, rfl, hs4, hn4, hF4⟩; obtain ⟨ta, tc, rfl⟩ := hs4.form; obtain ⟨zr, r0, r1, r2, rf⟩ := ((HV1.out.below HB3.out).below hb4).facts; have HB4 := tuck (bAfter (bAfter HB2.out HB3.out) hb4); have HS4 := tuck hs4; have HN4 := tuck hn4; have HF4 := tuck hF4; have HZ : Hid (w.heap.size + 1 < w3.heap.size) := tuck (HV1.out.below HB3.out).facts.1; clear hb4 hs4 hn4 hF4))
 all_goals (try go_wp2_with fail)
 all_goals
  refine bodyPost_ret (v := .tuple #[.agg #[I6 T.kind, I6 T.num, .slice ta T.kids.length tc], I6 cc]) (by simp [results, Tryz.results23, go_sem, *]) rfl (HP.out _ _ F ?_ ?_ HN4.out (fun g hg => ?_))
  ·exact bSet3 HB4.out (Nat.le_succ _) _ _ _ _ _ _
  ·exact HS4.out.set3 (fun h => by have := (HF4.out _ h).1; have := HZ.out; omega) _ _ _ _ _ _
  ·rw [size_set3]
   have := HF4.out g hg
   have := HZ.out
   omega
end Go.Proofs.YtpddjebdncaceaaGreat
