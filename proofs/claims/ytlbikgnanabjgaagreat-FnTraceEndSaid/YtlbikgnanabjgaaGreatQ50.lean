/-
  NormL, RedJ, RedK.
-/
import Derived.Test.YtlbikgnanabjgaaGreatQ37
import Derived.Test.YtlbikgnanabjgaaGreatQ38
import Derived.Test.YtlbikgnanabjgaaGreatQ46
namespace Go.Proofs.YtlbikgnanabjgaaGreat
open Go.RowKit
set_option maxRecDepth 100000 in
theorem fuelI_any (fuel : Int) (w : World) : Calls Tryz.prog 24 #[.int .i64 fuel] w (fun e w' => e = .returned (.bool (tr (0 ≤ fuel ∧ fuel ≤ 200))) ∧ w' = w) := by
 by_cases h0 : 0 ≤ fuel
 ·have hg0 : (fuel ≥ 0) := h0
  by_cases h1 : fuel ≤ 200
  ·rw [tr_of (show 0 ≤ fuel ∧ fuel ≤ 200 from ⟨h0, h1⟩)]
   go_enter Tryz.func24, Tryz.ntmps24
   go_wp2_with fail
   go_ret
   exact ⟨rfl, rfl⟩
  ·rw [tr_not (show ¬ (0 ≤ fuel ∧ fuel ≤ 200) from fun h => h1 h.2)]
   have hd1 : decide (fuel ≤ 200) = false := decide_eq_false h1
   go_enter Tryz.func24, Tryz.ntmps24
   go_wp2_with fail
   go_ret
   exact ⟨rfl, rfl⟩
 ·rw [tr_not (show ¬ (0 ≤ fuel ∧ fuel ≤ 200) from fun h => h0 h.1)]
  go_enter Tryz.func24, Tryz.ntmps24
  go_wp2_with fail
  go_ret
  exact ⟨rfl, rfl⟩
def stepsOf (g : Nat) (w : World) : Nat := match w.cell? ⟨g, 3, none⟩ with | some v => (intOf v).toNat | none => 0
theorem RedAt.stepsOf {g : Nat} {rl mo : Bool} {fuel steps : Nat} {t : Tm} {code : Int} {M : Nat → Prop} {w : World} (h : RedAt g rl mo fuel steps t code M w) : Go.Proofs.YtlbikgnanabjgaaGreat.stepsOf g w = steps := by
 unfold Go.Proofs.YtlbikgnanabjgaaGreat.stepsOf
 rw [h.facts.2.2.1]
 simp [intOf]
def RunAt (g : Nat) (rl mo : Bool) (fuel : Nat) (t : Tm) (B : Nat) (w0 : World) (w : World) : Prop :=
 ∃ (steps : Nat) (t' : Tm) (M : Nat → Prop), RedAt g rl mo fuel steps t' 0 M w ∧ Below B w0 w ∧ (∀ i, M i → B ≤ i) ∧ t'.Valid ∧ steps ≤ fuel ∧ (runGo rl mo (fuel - steps) t').1 = (runGo rl mo fuel t).1 ∧ (runGo rl mo (fuel - steps) t').2.1 = (runGo rl mo fuel t).2.1 ∧ (runGo rl mo (fuel - steps) t').2.2 + steps = (runGo rl mo fuel t).2.2
def RunEnd (g : Nat) (rl mo : Bool) (fuel : Nat) (t : Tm) (B : Nat) (w0 : World) (w : World) : Prop :=
 ∃ (M : Nat → Prop), RedAt g rl mo fuel (runGo rl mo fuel t).2.2 (runGo rl mo fuel t).1 (runGo rl mo fuel t).2.1 M w ∧ Below B w0 w ∧ (∀ i, M i → B ≤ i)
theorem RunAt.round {g : Nat} {rl mo : Bool} {fuel : Nat} (hf : fuel ≤ 1000) {t : Tm} {B : Nat} {w0 w : World} (h : RunAt g rl mo fuel t B w0 w) (hB : B ≤ w.heap.size) :
  Calls Tryz.prog 26 #[.pointer (some ⟨g, 0, none⟩)] w fun e w' => (e = .returned (.bool true) ∧ RunAt g rl mo fuel t B w0 w' ∧ stepsOf g w < fuel ∧ stepsOf g w' = stepsOf g w + 1 ∧ w.heap.size ≤ w'.heap.size) ∨ (e = .returned (.bool false) ∧ RunEnd g rl mo fuel t B w0 w' ∧ w.heap.size ≤ w'.heap.size) := by
 obtain ⟨steps, t', M, h1, h2, h3, h4, h5, h6, h7, h8⟩ := h
 refine (rstep_any g rl mo fuel steps hf h5 t' h4 0 M w h1).mono ?_
 rintro e w' ⟨M', hs, hc⟩
 have hb := hs.below h2 hB h3
 have hm := hs.ge hB h3
 rcases hc with ⟨hn, rfl, hr⟩ | ⟨t'', hn, ⟨hsf, rfl, hr⟩ | ⟨hsf, hv, rfl, hr⟩ | ⟨hsf, hv, rfl, hr⟩⟩
 ·right
  rw [runGo_none hn] at h6 h7 h8
  refine ⟨rfl, ⟨M', ?_, hb, hm⟩, hs.size⟩
  rw [← h6, ← h7, ← h8]
  simpa using hr
 ·right
  subst hsf
  rw [Nat.sub_self, runGo_zero hn] at h6 h7 h8
  refine ⟨rfl, ⟨M', ?_, hb, hm⟩, hs.size⟩
  rw [← h6, ← h7, ← h8]
  simpa using hr
 ·right
  obtain ⟨d, hd⟩ : ∃ d, fuel - steps = d + 1 := ⟨fuel - steps - 1, by omega⟩
  rw [hd, runGo_large hn hv] at h6 h7 h8
  refine ⟨rfl, ⟨M', ?_, hb, hm⟩, hs.size⟩
  rw [← h6, ← h7, ← h8]
  simpa using hr
 ·left
  obtain ⟨d, hd⟩ : ∃ d, fuel - steps = d + 1 := ⟨fuel - steps - 1, by omega⟩
  have hd' : fuel - (steps + 1) = d := by omega
  rw [hd, runGo_took hn hv] at h6 h7 h8
  refine ⟨rfl, ⟨steps + 1, t'', M', hr, hb, hm, hv, by omega, ?_, ?_, ?_⟩, ?_, ?_, hs.size⟩
  ·rw [hd']; exact h6
  ·rw [hd']; exact h7
  ·rw [hd']; dsimp only at h8; omega
  ·rw [h1.stepsOf]; omega
  ·rw [h1.stepsOf, hr.stepsOf]
theorem StartPost.run {rl mo : Bool} {fuel : Nat} {t : Tm} (ht : t.Valid) {w w' : World} {e : Ending} (h : StartPost rl mo fuel t w e w') : ∃ g, e = .returned (.pointer (some ⟨g, 0, none⟩)) ∧ w.heap.size ≤ g ∧ Below w.heap.size w w' ∧ RunAt g rl mo fuel t w.heap.size w w' := by
 obtain ⟨g, M, rfl, hb, hm, hr⟩ := h
 exact ⟨g, rfl, hm _ hr.own.1, hb, 0, t, M, hr, hb, hm, ht, Nat.zero_le _, rfl, rfl, rfl⟩
end Go.Proofs.YtlbikgnanabjgaaGreat
namespace Go.Proofs.YtlbikgnanabjgaaGreat
open Go.RowKit
theorem RedN.to {g : Nat} {rl mo : Bool} {fuel steps : Nat} {t : Tm} {code code' : Int} {M N : Nat → Prop} {w w' : World} (h : RedN g rl mo fuel steps t code M N w) (hk : ∀ l v, SlX w (Or2 M N) l v → SlX w' (Or2 M N) l v)
  (hs : ∀ (s : Value) (found : Bool) (xk xn : Int) (xs : Value) (qs : List (Tm × Value × Nat)), StkAt g 12 56 (redCells rl mo fuel steps t.kind t.num s code found xk xn xs) qs M w → StkAt g 12 56 (redCells rl mo fuel steps t.kind t.num s code' found xk xn xs) qs M w') : RedN g rl mo fuel steps t code' M N w' := by
 obtain ⟨s, found, xk, xn, xs, qs, h1, h2, h3⟩ := h
 refine ⟨s, found, xk, xn, xs, qs, hs _ _ _ _ _ _ h1, hk _ _ h2, ?_⟩
 cases hf : t.find rl mo with
 | none => rw [hf] at h3; exact h3
 | some y =>
  obtain ⟨p, x⟩ := y
  rw [hf] at h3
  exact ⟨h3.1, h3.2.1, h3.2.2.1, hk _ _ h3.2.2.2.1, h3.2.2.2.2.to hk⟩
theorem RedN.own {g : Nat} {rl mo : Bool} {fuel steps : Nat} {t : Tm} {code : Int} {M N : Nat → Prop} {w : World} (h : RedN g rl mo fuel steps t code M N w) : M g ∧ ∀ i, M i → g ≤ i ∧ i < w.heap.size := by
 obtain ⟨s, found, xk, xn, xs, qs, h1, h2, h3⟩ := h
 exact ⟨h1.own, h1.lt⟩
theorem RedN.below {g : Nat} {rl mo : Bool} {fuel steps : Nat} {t : Tm} {code : Int} {M N : Nat → Prop} {w w' : World} (h : RedN g rl mo fuel steps t code M N w) (hb : Below w.heap.size w w') : RedN g rl mo fuel steps t code M N w' :=
 h.to (fun _ _ h => h.below hb) fun _ _ _ _ _ _ h => h.below hb
theorem RedN.code {g : Nat} {rl mo : Bool} {fuel steps : Nat} {t : Tm} {code : Int} {M N : Nat → Prop} {w : World} (h : RedN g rl mo fuel steps t code M N w) (c : Int) : RedN g rl mo fuel steps t c M N (w.setCell ⟨g, 7, none⟩ (.int .i64 c)) :=
 h.to (fun _ _ h' => h'.set (q := ⟨g, 7, none⟩) (Or.inl h.own.1) _) fun _ _ _ _ _ _ h' => h'.setOther (j := 7) (by decide) (.int .i64 c)
theorem RedN.facts {g : Nat} {rl mo : Bool} {fuel steps : Nat} {t : Tm} {code : Int} {M N : Nat → Prop} {w : World} (h : RedN g rl mo fuel steps t code M N w) : g < w.heap.size ∧ w.cell? ⟨g, 2, none⟩ = some (.int .i64 fuel) ∧ w.cell? ⟨g, 3, none⟩ = some (.int .i64 steps) ∧ w.cell? ⟨g, 4, none⟩ = some (.int .i64 t.kind) ∧ w.cell? ⟨g, 5, none⟩ = some (.int .i64 t.num) ∧
  (∃ (a : Option Addr) (c : Nat), w.cell? ⟨g, 6, none⟩ = some (.slice a t.kids.length c) ∧ SlX w (Or2 M N) t.kids (.slice a t.kids.length c)) ∧ w.cell? ⟨g, 7, none⟩ = some (.int .i64 code) ∧ w.cell? ⟨g, 8, none⟩ = some (.bool (t.find rl mo).isSome) ∧ ∀ i, w.frozen? ⟨g, i, none⟩ = false := by
 obtain ⟨s, found, xk, xn, xs, qs, h1, h2, h3⟩ := h
 obtain ⟨a, c, rfl⟩ := h2.form
 obtain ⟨z, c0, c1, c2, c3, c4, c5, c6, c7, c8, c9, c10, c11, hf⟩ := red_cells h1
 refine ⟨z, c2, c3, c4, c5, ⟨a, c, c6, h2⟩, c7, ?_, hf⟩
 cases hf : t.find rl mo with
 | none => rw [hf] at h3; rw [c8, h3]; rfl
 | some y =>
  obtain ⟨p, x⟩ := y
  rw [hf] at h3
  rw [c8, h3.1]
  rfl
def StartN (rl mo : Bool) (fuel : Nat) (t : Tm) (N : Nat → Prop) (w : World) (e : Ending) (w' : World) : Prop := ∃ (g : Nat) (M : Nat → Prop), e = .returned (.pointer (some ⟨g, 0, none⟩)) ∧ Below w.heap.size w w' ∧ (∀ i, M i → w.heap.size ≤ i) ∧ RedN g rl mo fuel 0 t 0 M N w'
set_option maxRecDepth 100000 in
set_option maxHeartbeats 4000000 in
theorem startN_any (rl mo : Bool) (fuel : Nat) (t : Tm) (ht : t.Valid) (N : Nat → Prop) (w : World) (hN : ∀ i, N i → i < w.heap.size) (s : Value) (hs : SlX w N t.kids s) : Calls Tryz.prog 25 #[.agg #[.int .i64 t.kind, .int .i64 t.num, s], .int .i64 fuel, .agg #[.bool rl, .bool mo]] w (StartN rl mo fuel t N w) := by
 obtain ⟨a, c, rfl⟩ := hs.form
 have hst : StkAt (w.heap.size + 2) 12 56 (redCells rl mo fuel 0 t.kind t.num (.slice a t.kids.length c) 0 false 0 0 (.slice none 0 0)) [] (fun i => i = w.heap.size + 2 ∨ (Value.slice none 0 0).ownBlock = some i) (((w.alloc (.cells #[.int .i64 t.kind, .int .i64 t.num, .slice a t.kids.length c] 25)).alloc (.cells #[.bool rl, .bool mo] 43)).alloc (.cells #[.bool rl, .bool mo, .int .i64 fuel, .int .i64 0, .int .i64 t.kind, .int .i64 t.num, .slice a t.kids.length c, .int .i64 0, .bool false, .int .i64 0, .int .i64 0, .slice none 0 0, .slice none 0 0] 56)) :=
  ⟨by simp, .slice none 0 0, by have := heap_new ((w.alloc (.cells #[.int .i64 t.kind, .int .i64 t.num, .slice a t.kids.length c] 25)).alloc (.cells #[.bool rl, .bool mo] 43)) (.cells #[.bool rl, .bool mo, .int .i64 fuel, .int .i64 0, .int .i64 t.kind, .int .i64 t.num, .slice a t.kids.length c, .int .i64 0, .bool false, .int .i64 0, .int .i64 0, .slice none 0 0, .slice none 0 0] 56); simpa [redCells] using this, by simp [redCells], World.ownsRow_nil _ _ _ _, rfl⟩
 have hb3 := below3 w (.cells #[.int .i64 t.kind, .int .i64 t.num, .slice a t.kids.length c] 25) (.cells #[.bool rl, .bool mo] 43) (.cells #[.bool rl, .bool mo, .int .i64 fuel, .int .i64 0, .int .i64 t.kind, .int .i64 t.num, .slice a t.kids.length c, .int .i64 0, .bool false, .int .i64 0, .int .i64 0, .slice none 0 0, .slice none 0 0] 56)
 have hM : ∀ i, (i = w.heap.size + 2 ∨ (Value.slice none 0 0).ownBlock = some i) → w.heap.size ≤ i := fun i hi => by
  rcases hi with rfl | hi
  ·omega
  ·cases hi
 have hsx : SlX (((w.alloc (.cells #[.int .i64 t.kind, .int .i64 t.num, .slice a t.kids.length c] 25)).alloc (.cells #[.bool rl, .bool mo] 43)).alloc (.cells #[.bool rl, .bool mo, .int .i64 fuel, .int .i64 0, .int .i64 t.kind, .int .i64 t.num, .slice a t.kids.length c, .int .i64 0, .bool false, .int .i64 0, .int .i64 0, .slice none 0 0, .slice none 0 0] 56)) (Or2 (fun i => i = w.heap.size + 2 ∨ (Value.slice none 0 0).ownBlock = some i) N) t.kids (.slice a t.kids.length c) := hs.to fun p u hn hc => ⟨fun hx => hx.elim (fun hx => by have := hM _ hx; have := World.block_lt_of_cell? w p hc; omega) hn, (hb3.cell (World.block_lt_of_cell? w p hc)).trans hc⟩
 have HSK := tuck (seekN_any _ rl mo fuel 0 t ht 0 false 0 0 _ _ _ _ N _ (fun i hi => Nat.lt_of_lt_of_le (hN i hi) hb3.size) hst hsx)
 have HP : Hid (∀ w', SeekN (w.heap.size + 2) rl mo fuel 0 t 0 (fun i => i = w.heap.size + 2 ∨ (Value.slice none 0 0).ownBlock = some i) N (((w.alloc (.cells #[.int .i64 t.kind, .int .i64 t.num, .slice a t.kids.length c] 25)).alloc (.cells #[.bool rl, .bool mo] 43)).alloc (.cells #[.bool rl, .bool mo, .int .i64 fuel, .int .i64 0, .int .i64 t.kind, .int .i64 t.num, .slice a t.kids.length c, .int .i64 0, .bool false, .int .i64 0, .int .i64 0, .slice none 0 0, .slice none 0 0] 56)) (.returned (.tuple #[])) w' → StartN rl mo fuel t N w (.returned (.pointer (some ⟨w.heap.size + 2, 0, none⟩))) w') := tuck fun w' h => by
  obtain ⟨-, M', h1, h2⟩ := h
  exact ⟨_, M', rfl, h1.below hb3 hb3.size hM, h1.ge hb3.size hM, h2⟩
 generalize StartN rl mo fuel t N w = post at *
 clear hs hst hb3 hM hsx
 go_enter Tryz.func25, Tryz.ntmps25
 go_wp2_with fail
 refine HSK.out.mono ?_
 rintro e w4 hp4
 obtain rfl := hp4.1
 have HQ := tuck (HP.out _ hp4)
 clear hp4 HP HSK
 go_wp2_with fail
 exact HQ.out
end Go.Proofs.YtlbikgnanabjgaaGreat
namespace Go.Proofs.YtlbikgnanabjgaaGreat
open Go.RowKit
def RunN (g : Nat) (rl mo : Bool) (fuel steps : Nat) (t : Tm) (code : Int) (M N : Nat → Prop) (w : World) (e : Ending) (w' : World) : Prop :=
 ∃ M', Step M w w' M' ∧ ((t.step rl mo = none ∧ e = .returned (.bool false) ∧ RedN g rl mo fuel steps t 0 M' N w') ∨
  ∃ t', t.step rl mo = some t' ∧ ((steps = fuel ∧ e = .returned (.bool false) ∧ RedN g rl mo fuel steps t 1 M' N w') ∨
   (steps ≠ fuel ∧ ¬ t'.Valid ∧ e = .returned (.bool false) ∧ RedN g rl mo fuel steps t 2 M' N w') ∨
   (steps ≠ fuel ∧ t'.Valid ∧ e = .returned (.bool true) ∧ RedN g rl mo fuel (steps + 1) t' code M' N w')))
set_option maxRecDepth 100000 in
set_option maxHeartbeats 4000000 in
theorem rstepN_any (g : Nat) (rl mo : Bool) (fuel steps : Nat) (hf : fuel ≤ 1000) (hst0 : steps ≤ fuel) (t : Tm) (ht : t.Valid) (code : Int) (M N : Nat → Prop) (w : World) (hN : ∀ i, N i → i < w.heap.size) (h : RedN g rl mo fuel steps t code M N w) : Calls Tryz.prog 26 #[.pointer (some ⟨g, 0, none⟩)] w (RunN g rl mo fuel steps t code M N w) := by
 have HR := tuck h
 have hstp : t.step rl mo = (t.find rl mo).map fun x => around x.1 x.2.contr := t.find_step
 obtain ⟨s, found, xk, xn, xs, qs, hst, hs, hm⟩ := h
 obtain ⟨z, c0, c1, c2, c3, c4, c5, c6, c7, c8, c9, c10, c11, hfr⟩ := red_cells hst
 have HML : Hid (∀ i, M i → i < w.heap.size) := tuck fun i hi => (hst.lt i hi).2
 have HMG : Hid (M g) := tuck hst.own
 have HNL := tuck hN
 have HMN : Hid (∀ i, Or2 M N i → i < w.heap.size) := tuck fun i hi => hi.elim (HML.out i) (hN i)
 clear hN
 cases hfd : t.find rl mo with
 | none =>
  rw [hfd] at hm hstp
  obtain rfl : found = false := hm
  have HQ : Hid (RunN g rl mo fuel steps t code M N w (.returned (.bool false)) (w.setCell ⟨g, 7, none⟩ (.int .i64 0))) := tuck ⟨M, (Step.refl HML.out).setOwn (p := ⟨g, 7, none⟩) HMG.out _, Or.inl ⟨hstp, rfl, HR.out.code 0⟩⟩
  generalize RunN g rl mo fuel steps t code M N w = post at *
  clear hst hs hfd hstp HR
  go_enter Tryz.func26, Tryz.ntmps26
  go_wp2_with fail
  exact HQ.out
 | some y =>
  obtain ⟨p, x⟩ := y
  rw [hfd] at hm hstp
  obtain ⟨rfl, rfl, rfl, hxs, hps⟩ := hm
  replace hstp : t.step rl mo = some (around p x.contr) := hstp
  by_cases hsf : steps = fuel
  ·have HQ : Hid (RunN g rl mo fuel steps t code M N w (.returned (.bool false)) (w.setCell ⟨g, 7, none⟩ (.int .i64 1)).drew) := tuck ⟨M, ((Step.refl HML.out).setOwn (p := ⟨g, 7, none⟩) HMG.out _).and (Below.refl _ _).drew, Or.inr ⟨_, hstp, Or.inl ⟨hsf, rfl, (HR.out.code 1).below (Below.refl _ _).drew⟩⟩⟩
   generalize RunN g rl mo fuel steps t code M N w = post at *
   have hse : ((steps : Int) == (fuel : Int)) = true := by simp [hsf]
   clear hst hs hfd hstp HR hxs hps hsf
   go_enter Tryz.func26, Tryz.ntmps26
   go_wp2_with fail
   go_region
   all_goals (try go_wp2_with fail)
   all_goals exact HQ.out
  ·have hse : ((steps : Int) == (fuel : Int)) = false := by simp; omega
   obtain ⟨hip, hx0, hxv, hpl, hpv⟩ := Tm.find_ok t p x hfd ht
   obtain ⟨sa, gb, cap, hcv, hgb, hcells⟩ := hst.view
   obtain ⟨xa, xc, rfl⟩ := hxs.form
   have HC : Hid (∀ W, Below w.heap.size w W → Calls Tryz.prog 37 #[.slice sa qs.length cap, .agg #[.int .i64 x.kind, .int .i64 x.num, .slice xa x.kids.length xc]] W (ContrPost (Or2 M N) W (around p x.contr).Valid (around p x.contr))) := tuck fun W hb => scontract_any W (Or2 M N) (fun i hi => Nat.lt_of_lt_of_le (HMN.out i hi) hb.size) p hip qs (hps.to fun l v h => h.below hb) (by have := hst.1; omega) sa gb cap (fun hn => ⟨(hgb hn).1, Nat.lt_of_lt_of_le (hgb hn).2 hb.size⟩) (fun j u hu => (hb.cell (World.block_lt_of_cell? w _ (hcells j u hu))).trans (hcells j u hu)) x hxv.root (fun i hi => hxv.get hi) hx0 _ (hxs.below hb)
   have HCB : Hid (∀ W, Below w.heap.size w W → w.heap.size < W.heap.size → Calls Tryz.prog 37 #[.slice sa qs.length cap, .agg #[.int .i64 x.kind, .int .i64 x.num, .slice xa x.kids.length xc]] W (ContrPost (fun i => Or2 M N i ∨ i = w.heap.size) W (around p x.contr).Valid (around p x.contr))) := tuck fun W hb hlt => scontract_any W _ (fun i hi => by
     rcases hi with hi | rfl
     ·exact Nat.lt_of_lt_of_le (HMN.out i hi) hb.size
     ·exact hlt) p hip qs (hps.to fun l v h => h.wideB hb) (by have := hst.1; omega) sa gb cap (fun hn => ⟨(hgb hn).1, Nat.lt_of_lt_of_le (hgb hn).2 hb.size⟩) (fun j u hu => (hb.cell (World.block_lt_of_cell? w _ (hcells j u hu))).trans (hcells j u hu)) x hxv.root (fun i hi => hxv.get hi) hx0 _ (hxs.wideB hb)
   have hs3 : (steps : Int) + 1 ≤ 1001 := by omega
   have hgz : g < w.heap.size := z
   by_cases hR : (around p x.contr).Valid
   ·have HCV : Hid (∀ W, Below w.heap.size w W → Calls Tryz.prog 37 #[.slice sa qs.length cap, .agg #[.int .i64 x.kind, .int .i64 x.num, .slice xa x.kids.length xc]] W fun e w' => ∃ (ua : Option Addr) (uc : Nat), e = .returned (.tuple #[.agg #[.int .i64 (around p x.contr).kind, .int .i64 (around p x.contr).num, .slice ua (around p x.contr).kids.length uc], .bool true]) ∧ Below W.heap.size W w' ∧ SlX w' (Or2 M N) (around p x.contr).kids (.slice ua (around p x.contr).kids.length uc)) := tuck fun W hb => (HC.out W hb).mono fun e w' hp => by
     obtain ⟨U, ua, uc, rfl, hb6, hs6, hU⟩ := hp.open
     obtain rfl := hU hR
     rw [tr_of hR]
     exact ⟨ua, uc, rfl, hb6, hs6⟩
    have HCVB : Hid (∀ W, Below w.heap.size w W → w.heap.size < W.heap.size → Calls Tryz.prog 37 #[.slice sa qs.length cap, .agg #[.int .i64 x.kind, .int .i64 x.num, .slice xa x.kids.length xc]] W fun e w' => ∃ (ua : Option Addr) (uc : Nat), e = .returned (.tuple #[.agg #[.int .i64 (around p x.contr).kind, .int .i64 (around p x.contr).num, .slice ua (around p x.contr).kids.length uc], .bool true]) ∧ Below W.heap.size W w' ∧ SlX w' (fun i => Or2 M N i ∨ i = w.heap.size) (around p x.contr).kids (.slice ua (around p x.contr).kids.length uc)) := tuck fun W hb hlt => (HCB.out W hb hlt).mono fun e w' hp => by
     obtain ⟨U, ua, uc, rfl, hb6, hs6, hU⟩ := hp.open
     obtain rfl := hU hR
     rw [tr_of hR]
     exact ⟨ua, uc, rfl, hb6, hs6⟩
    have HQ : Hid (∀ (W : World) (a' : Option Addr) (c' : Nat), Below w.heap.size w W → SlX W (Or2 M N) (around p x.contr).kids (.slice a' (around p x.contr).kids.length c') → Calls Tryz.prog 39 #[.pointer (some ⟨g, 0, none⟩)] ((((W.setCell ⟨g, 4, none⟩ (.int .i64 (around p x.contr).kind)).setCell ⟨g, 5, none⟩ (.int .i64 (around p x.contr).num)).setCell ⟨g, 6, none⟩ (.slice a' (around p x.contr).kids.length c')).setCell ⟨g, 3, none⟩ (.int .i64 ((steps : Int) + 1))) fun e w' => e = .returned (.tuple #[]) ∧ RunN g rl mo fuel steps t code M N w (.returned (.bool true)) w') := tuck fun W a' c' hb hsx => by
     have hst' := stk_next (hst.below hb) (around p x.contr).kind (around p x.contr).num (.slice a' (around p x.contr).kids.length c')
     have hsx' : SlX ((((W.setCell ⟨g, 4, none⟩ (.int .i64 (around p x.contr).kind)).setCell ⟨g, 5, none⟩ (.int .i64 (around p x.contr).num)).setCell ⟨g, 6, none⟩ (.slice a' (around p x.contr).kids.length c')).setCell ⟨g, 3, none⟩ (.int .i64 ((steps : Int) + 1))) (Or2 M N) (around p x.contr).kids (.slice a' (around p x.contr).kids.length c') := (((hsx.set (q := ⟨g, 4, none⟩) (Or.inl HMG.out) _).set (q := ⟨g, 5, none⟩) (Or.inl HMG.out) _).set (q := ⟨g, 6, none⟩) (Or.inl HMG.out) _).set (q := ⟨g, 3, none⟩) (Or.inl HMG.out) _
     refine (seekN_any g rl mo fuel (steps + 1) (around p x.contr) hR code true x.kind x.num _ _ qs M N _ (fun i hi => by have := HNL.out i hi; have := hb.size; simp [World.setCell]; omega) hst' hsx').mono ?_
     rintro e w' ⟨rfl, M', h1, h2⟩
     refine ⟨rfl, M', Step.trans ?_ h1, Or.inr ⟨_, hstp, Or.inr (Or.inr ⟨hsf, hR, rfl, h2⟩)⟩⟩
     exact ((((Step.of_below hb HML.out).setOwn (p := ⟨g, 4, none⟩) HMG.out _).setOwn (p := ⟨g, 5, none⟩) HMG.out _).setOwn (p := ⟨g, 6, none⟩) HMG.out _).setOwn (p := ⟨g, 3, none⟩) HMG.out _
    have HSTK : Hid (∀ W, Below w.heap.size w W → g < W.heap.size ∧ W.cell? ⟨g, 3, none⟩ = some (.int .i64 steps) ∧ W.cell? ⟨g, 4, none⟩ = some (.int .i64 t.kind) ∧ W.cell? ⟨g, 5, none⟩ = some (.int .i64 t.num) ∧ W.cell? ⟨g, 6, none⟩ = some s ∧ ∀ i, W.frozen? ⟨g, i, none⟩ = false) := tuck fun W hb => ⟨Nat.lt_of_lt_of_le hgz hb.size, (hb.cell (p := ⟨g, 3, none⟩) hgz).trans c3, (hb.cell (p := ⟨g, 4, none⟩) hgz).trans c4, (hb.cell (p := ⟨g, 5, none⟩) hgz).trans c5, (hb.cell (p := ⟨g, 6, none⟩) hgz).trans c6, fun i => (hb.frozen (p := ⟨g, i, none⟩) hgz).trans (hfr i)⟩
    generalize RunN g rl mo fuel steps t code M N w = post at *
    clear hst hs hfd hstp HR hsf HC HCB hgb hcells hR hxs hps hip hx0 hxv hpl hpv
    generalize around p x.contr = R at *
    go_enter Tryz.func26, Tryz.ntmps26
    go_upto_region 4 with fail
    go_cut [21] (fun c wx => c = .bool false ∧ wx = w.drew)
    case first =>
     go_region
     all_goals (go_wp2_with fail; go_meet)
     all_goals exact ⟨rfl, rfl⟩
    case rest =>
    obtain ⟨rfl, rfl⟩ := hcut
    go_upto_region 7 with fail
    go_cut [3, 4] (fun p cw wx => ∃ (gz : Nat) (az : Option Addr) (nz : Nat), p = .pointer (some ⟨gz, 0, none⟩) ∧ cw = .bool true ∧ Below w.heap.size w wx ∧ VarAt gz R.kind R.num (.slice az R.kids.length nz) wx ∧ SlX wx (Or2 M N) R.kids (.slice az R.kids.length nz))
    case first =>
     go_region_with (first | (go_at_call 37; refine (HCV.out w.drew.drew (Below.refl _ _).drew.drew).mono ?_; rintro e w6 ⟨ua, uc, rfl, hb6, hs6⟩; have HB6 : Hid (Below w.heap.size w w6) := tuck (bAfter (Below.refl _ _).drew.drew hb6); have HS6 := tuck hs6; clear hb6 hs6) | (go_at_call 37; refine (HCVB.out (w.alloc (.cells #[.int .i64 0, .int .i64 0, .slice none 0 0] 25)).drew.drew (below1 _ _).drew.drew (by simp)).mono ?_; rintro e w6 ⟨ua, uc, rfl, hb6, hs6⟩; have HB6 : Hid (Below w.heap.size w w6) := tuck (bAfter (below1 w (.cells #[.int .i64 0, .int .i64 0, .slice none 0 0] 25)).drew.drew hb6); have HVN : Hid (VarAt w.heap.size 0 0 (.slice none 0 0) w6) := tuck (((VarAt.new w 0 0 (.slice none 0 0)).below (Below.refl _ _).drew.drew).below hb6); obtain ⟨zn, n0, n1, n2, nf⟩ := HVN.out.facts; have HS6 := tuck hs6; clear hb6 hs6))
     all_goals (go_wp2_with fail; go_meet)
     all_goals first
      | exact ⟨w6.heap.size, ua, uc, rfl, rfl, bAfter HB6.out (below1 w6 (.cells #[.int .i64 R.kind, .int .i64 R.num, .slice ua R.kids.length uc] 25)), VarAt.new w6 R.kind R.num (.slice ua R.kids.length uc), HS6.out.below (below1 w6 (.cells #[.int .i64 R.kind, .int .i64 R.num, .slice ua R.kids.length uc] 25))⟩
      | exact ⟨w.heap.size, ua, uc, rfl, rfl, bSet3 HB6.out (Nat.le_refl _) 0 1 2 (.int .i64 R.kind) (.int .i64 R.num) (.slice ua R.kids.length uc), HVN.out.set3, (SlX.put HS6.out (g := w.heap.size) (Or.inr rfl) 0 1 2 (.int .i64 R.kind) (.int .i64 R.num) (.slice ua R.kids.length uc)).less (X := Or2 M N) (fun i h => Or.inl h)⟩
    case rest =>
    obtain ⟨gz, az, nz, rfl, rfl, hbx, hvx, hsw⟩ := hcut
    rename World => W7
    obtain ⟨zb, b0, b1, b2, -⟩ := hvx.facts
    have HBX := tuck hbx
    have HSW := tuck hsw
    obtain ⟨zg, g3, g4, g5, g6, gf⟩ := HSTK.out _ hbx
    clear hbx hvx hsw
    go_wp2_with fail
    refine (HQ.out W7 az nz HBX.out HSW.out).mono ?_
    rintro e w8 ⟨rfl, hq⟩
    have HQ8 := tuck hq
    clear hq
    go_wp2_with fail
    exact HQ8.out
   ·have HCV : Hid (∀ W, Below w.heap.size w W → Calls Tryz.prog 37 #[.slice sa qs.length cap, .agg #[.int .i64 x.kind, .int .i64 x.num, .slice xa x.kids.length xc]] W fun e w' => ∃ (k n : Int) (ua : Option Addr) (uL uc : Nat), e = .returned (.tuple #[.agg #[.int .i64 k, .int .i64 n, .slice ua uL uc], .bool false]) ∧ Below W.heap.size W w') := tuck fun W hb => (HC.out W hb).mono fun e w' hp => by
     obtain ⟨U, ua, uc, rfl, hb6, hs6, hU⟩ := hp.open
     rw [tr_not hR]
     exact ⟨_, _, ua, _, uc, rfl, hb6⟩
    have HQ : Hid (∀ (W : World), Below w.heap.size w W → RunN g rl mo fuel steps t code M N w (.returned (.bool false)) (W.setCell ⟨g, 7, none⟩ (.int .i64 2))) := tuck fun W hb => ⟨M, (Step.of_below hb HML.out).setOwn (p := ⟨g, 7, none⟩) HMG.out _, Or.inr ⟨_, hstp, Or.inr (Or.inl ⟨hsf, hR, rfl, (HR.out.below hb).code 2⟩)⟩⟩
    have HSTK : Hid (∀ W, Below w.heap.size w W → g < W.heap.size ∧ ∀ i, W.frozen? ⟨g, i, none⟩ = false) := tuck fun W hb => ⟨Nat.lt_of_lt_of_le hgz hb.size, fun i => (hb.frozen (p := ⟨g, i, none⟩) hgz).trans (hfr i)⟩
    have HC7 : Hid (∀ W, Below w.heap.size w W → W.cell? ⟨g, 7, none⟩ = some (.int .i64 code)) := tuck fun W hb => (hb.cell (p := ⟨g, 7, none⟩) hgz).trans c7
    generalize RunN g rl mo fuel steps t code M N w = post at *
    clear hst hs hfd hstp HR hsf HC HCB hgb hcells hR hxs hps hip hx0 hxv hpl hpv
    generalize around p x.contr = R at *
    go_enter Tryz.func26, Tryz.ntmps26
    go_upto_region 4 with fail
    go_cut [21] (fun c wx => c = .bool false ∧ wx = w.drew)
    case first =>
     go_region
     all_goals (go_wp2_with fail; go_meet)
     all_goals exact ⟨rfl, rfl⟩
    case rest =>
    obtain ⟨rfl, rfl⟩ := hcut
    go_upto_region 7 with fail
    go_cut [4] (fun cw wx => cw = .bool false ∧ Below w.heap.size w wx)
    case first =>
     go_region_with (first | (go_at_call 37; refine (HCV.out w.drew.drew (Below.refl _ _).drew.drew).mono ?_; rintro e w6 ⟨k', n', ua, uL, uc, rfl, hb6⟩; have HB6 : Hid (Below w.heap.size w w6) := tuck (bAfter (Below.refl _ _).drew.drew hb6); clear hb6) | (go_at_call 37; refine (HCV.out (w.alloc (.cells #[.int .i64 0, .int .i64 0, .slice none 0 0] 25)).drew.drew (below1 _ _).drew.drew).mono ?_; rintro e w6 ⟨k', n', ua, uL, uc, rfl, hb6⟩; have HB6 : Hid (Below w.heap.size w w6) := tuck (bAfter (below1 w (.cells #[.int .i64 0, .int .i64 0, .slice none 0 0] 25)).drew.drew hb6); have HVN : Hid (VarAt w.heap.size 0 0 (.slice none 0 0) w6) := tuck (((VarAt.new w 0 0 (.slice none 0 0)).below (Below.refl _ _).drew.drew).below hb6); obtain ⟨zn, n0, n1, n2, nf⟩ := HVN.out.facts; clear hb6))
     all_goals (go_wp2_with fail; go_meet)
     all_goals first
      | exact ⟨rfl, bAfter HB6.out (below1 w6 _)⟩
      | exact ⟨rfl, bSet3 HB6.out (Nat.le_refl _) _ _ _ _ _ _⟩
    case rest =>
    obtain ⟨rfl, hbx⟩ := hcut
    rename World => W7
    have HBX := tuck hbx
    have g7 := HC7.out _ hbx
    obtain ⟨zg, gf⟩ := HSTK.out _ hbx
    clear hbx
    go_wp2_with fail
    exact HQ.out _ HBX.out
end Go.Proofs.YtlbikgnanabjgaaGreat
