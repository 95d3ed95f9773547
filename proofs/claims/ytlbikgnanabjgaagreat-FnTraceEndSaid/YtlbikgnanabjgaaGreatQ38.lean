/-
  NormK.
-/
import Derived.Test.YtlbikgnanabjgaaGreatQ32
import Derived.Test.YtlbikgnanabjgaaGreatQ37
import Derived.Deep.DeepCutAuto
namespace Go.Proofs.YtlbikgnanabjgaaGreat
open Go.RowKit
def RunPost (g : Nat) (rl mo : Bool) (fuel steps : Nat) (t : Tm) (code : Int) (M : Nat → Prop) (w : World) (e : Ending) (w' : World) : Prop :=
 ∃ M', Step M w w' M' ∧ ((t.step rl mo = none ∧ e = .returned (.bool false) ∧ RedAt g rl mo fuel steps t 0 M' w') ∨
  ∃ t', t.step rl mo = some t' ∧ ((steps = fuel ∧ e = .returned (.bool false) ∧ RedAt g rl mo fuel steps t 1 M' w') ∨
   (steps ≠ fuel ∧ ¬ t'.Valid ∧ e = .returned (.bool false) ∧ RedAt g rl mo fuel steps t 2 M' w') ∨
   (steps ≠ fuel ∧ t'.Valid ∧ e = .returned (.bool true) ∧ RedAt g rl mo fuel (steps + 1) t' code M' w')))
theorem stk_next {g : Nat} {rl mo : Bool} {fuel steps : Nat} {k n : Int} {s : Value} {code : Int} {found : Bool} {xk xn : Int} {xs : Value} {qs : List (Tm × Value × Nat)} {M : Nat → Prop} {w : World} (h : StkAt g 12 56 (redCells rl mo fuel steps k n s code found xk xn xs) qs M w) (k' n' : Int) (s' : Value) :
  StkAt g 12 56 (redCells rl mo fuel (steps + 1) k' n' s' code found xk xn xs) qs M ((((w.setCell ⟨g, 4, none⟩ (.int .i64 k')).setCell ⟨g, 5, none⟩ (.int .i64 n')).setCell ⟨g, 6, none⟩ s').setCell ⟨g, 3, none⟩ (.int .i64 ((steps : Int) + 1))) := by
 have := (((h.setOther (j := 4) (by decide) (.int .i64 k')).setOther (j := 5) (by decide) (.int .i64 n')).setOther (j := 6) (by decide) s').setOther (j := 3) (by decide) (.int .i64 ((steps : Int) + 1))
 exact this
theorem SlX.wideB {w W : World} {M : Nat → Prop} {l : List Tm} {v : Value} (h : SlX w M l v) (hb : Below w.heap.size w W) : SlX W (fun i => M i ∨ i = w.heap.size) l v :=
 h.to fun p u hn hc => ⟨fun hx => hx.elim hn (fun e => by have := World.block_lt_of_cell? w p hc; omega), (hb.cell (World.block_lt_of_cell? w p hc)).trans hc⟩
set_option maxRecDepth 100000 in
set_option maxHeartbeats 4000000 in
theorem rstep_any (g : Nat) (rl mo : Bool) (fuel steps : Nat) (hf : fuel ≤ 1000) (hst0 : steps ≤ fuel) (t : Tm) (ht : t.Valid) (code : Int) (M : Nat → Prop) (w : World) (h : RedAt g rl mo fuel steps t code M w) : Calls Tryz.prog 26 #[.pointer (some ⟨g, 0, none⟩)] w (RunPost g rl mo fuel steps t code M w) := by
 have HR := tuck h
 have hstp : t.step rl mo = (t.find rl mo).map fun x => around x.1 x.2.contr := t.find_step
 obtain ⟨s, found, xk, xn, xs, qs, hst, hs, hm⟩ := h
 obtain ⟨z, c0, c1, c2, c3, c4, c5, c6, c7, c8, c9, c10, c11, hfr⟩ := red_cells hst
 have HML : Hid (∀ i, M i → i < w.heap.size) := tuck fun i hi => (hst.lt i hi).2
 have HMG : Hid (M g) := tuck hst.own
 cases hfd : t.find rl mo with
 | none =>
  rw [hfd] at hm hstp
  obtain rfl : found = false := hm
  have HQ : Hid (RunPost g rl mo fuel steps t code M w (.returned (.bool false)) (w.setCell ⟨g, 7, none⟩ (.int .i64 0))) := tuck ⟨M, (Step.refl HML.out).setOwn (p := ⟨g, 7, none⟩) HMG.out _, Or.inl ⟨hstp, rfl, HR.out.code 0⟩⟩
  generalize RunPost g rl mo fuel steps t code M w = post at *
  clear hst hs hfd hstp HR
  go_enter Tryz.func26, Tryz.ntmps26
  go_wp2_with fail
  exact HQ.out
 | some y =>
  obtain ⟨p, x⟩ := y
  rw [hfd] at hm hstp
  obtain ⟨rfl, rfl, rfl, hxs, hps⟩ := hm
  replace hstp : t.step rl mo = some (around p x.contr) := hstp
  by_cases hsf : steps = fuel
  ·have HQ : Hid (RunPost g rl mo fuel steps t code M w (.returned (.bool false)) (w.setCell ⟨g, 7, none⟩ (.int .i64 1)).drew) := tuck ⟨M, ((Step.refl HML.out).setOwn (p := ⟨g, 7, none⟩) HMG.out _).and (Below.refl _ _).drew, Or.inr ⟨_, hstp, Or.inl ⟨hsf, rfl, (HR.out.code 1).below (Below.refl _ _).drew⟩⟩⟩
   generalize RunPost g rl mo fuel steps t code M w = post at *
   have hse : ((steps : Int) == (fuel : Int)) = true := by simp [hsf]
   clear hst hs hfd hstp HR hxs hps hsf
   go_enter Tryz.func26, Tryz.ntmps26
   go_wp2_with fail
   go_region
   all_goals (try go_wp2_with fail)
   all_goals exact HQ.out
  ·have hse : ((steps : Int) == (fuel : Int)) = false := by simp; omega
   obtain ⟨hip, hx0, hxv, hpl, hpv⟩ := Tm.find_ok t p x hfd ht
   obtain ⟨sa, gb, cap, hcv, hgb, hcells⟩ := hst.view
   obtain ⟨xa, xc, rfl⟩ := hxs.form
   have HC : Hid (∀ W, Below w.heap.size w W → Calls Tryz.prog 37 #[.slice sa qs.length cap, .agg #[.int .i64 x.kind, .int .i64 x.num, .slice xa x.kids.length xc]] W (ContrPost M W (around p x.contr).Valid (around p x.contr))) := tuck fun W hb => scontract_any W M (fun i hi => Nat.lt_of_lt_of_le (hst.lt i hi).2 hb.size) p hip qs (hps.to fun l v h => h.below hb) (by have := hst.1; omega) sa gb cap (fun hn => ⟨(hgb hn).1, Nat.lt_of_lt_of_le (hgb hn).2 hb.size⟩) (fun j u hu => (hb.cell (World.block_lt_of_cell? w _ (hcells j u hu))).trans (hcells j u hu)) x hxv.root (fun i hi => hxv.get hi) hx0 _ (hxs.below hb)
   have HCB : Hid (∀ W, Below w.heap.size w W → w.heap.size < W.heap.size → Calls Tryz.prog 37 #[.slice sa qs.length cap, .agg #[.int .i64 x.kind, .int .i64 x.num, .slice xa x.kids.length xc]] W (ContrPost (fun i => M i ∨ i = w.heap.size) W (around p x.contr).Valid (around p x.contr))) := tuck fun W hb hlt => scontract_any W _ (fun i hi => by
     rcases hi with hi | rfl
     ·exact Nat.lt_of_lt_of_le (hst.lt i hi).2 hb.size
     ·exact hlt) p hip qs (hps.to fun l v h => h.wideB hb) (by have := hst.1; omega) sa gb cap (fun hn => ⟨(hgb hn).1, Nat.lt_of_lt_of_le (hgb hn).2 hb.size⟩) (fun j u hu => (hb.cell (World.block_lt_of_cell? w _ (hcells j u hu))).trans (hcells j u hu)) x hxv.root (fun i hi => hxv.get hi) hx0 _ (hxs.wideB hb)
   have hs3 : (steps : Int) + 1 ≤ 1001 := by omega
   have hgz : g < w.heap.size := z
   by_cases hR : (around p x.contr).Valid
   ·have HCV : Hid (∀ W, Below w.heap.size w W → Calls Tryz.prog 37 #[.slice sa qs.length cap, .agg #[.int .i64 x.kind, .int .i64 x.num, .slice xa x.kids.length xc]] W fun e w' => ∃ (ua : Option Addr) (uc : Nat), e = .returned (.tuple #[.agg #[.int .i64 (around p x.contr).kind, .int .i64 (around p x.contr).num, .slice ua (around p x.contr).kids.length uc], .bool true]) ∧ Below W.heap.size W w' ∧ SlX w' M (around p x.contr).kids (.slice ua (around p x.contr).kids.length uc)) := tuck fun W hb => (HC.out W hb).mono fun e w' hp => by
     obtain ⟨U, ua, uc, rfl, hb6, hs6, hU⟩ := hp.open
     obtain rfl := hU hR
     rw [tr_of hR]
     exact ⟨ua, uc, rfl, hb6, hs6⟩
    have HCVB : Hid (∀ W, Below w.heap.size w W → w.heap.size < W.heap.size → Calls Tryz.prog 37 #[.slice sa qs.length cap, .agg #[.int .i64 x.kind, .int .i64 x.num, .slice xa x.kids.length xc]] W fun e w' => ∃ (ua : Option Addr) (uc : Nat), e = .returned (.tuple #[.agg #[.int .i64 (around p x.contr).kind, .int .i64 (around p x.contr).num, .slice ua (around p x.contr).kids.length uc], .bool true]) ∧ Below W.heap.size W w' ∧ SlX w' (fun i => M i ∨ i = w.heap.size) (around p x.contr).kids (.slice ua (around p x.contr).kids.length uc)) := tuck fun W hb hlt => (HCB.out W hb hlt).mono fun e w' hp => by
     obtain ⟨U, ua, uc, rfl, hb6, hs6, hU⟩ := hp.open
     obtain rfl := hU hR
     rw [tr_of hR]
     exact ⟨ua, uc, rfl, hb6, hs6⟩
    have HQ : Hid (∀ (W : World) (a' : Option Addr) (c' : Nat), Below w.heap.size w W → SlX W M (around p x.contr).kids (.slice a' (around p x.contr).kids.length c') → Calls Tryz.prog 39 #[.pointer (some ⟨g, 0, none⟩)] ((((W.setCell ⟨g, 4, none⟩ (.int .i64 (around p x.contr).kind)).setCell ⟨g, 5, none⟩ (.int .i64 (around p x.contr).num)).setCell ⟨g, 6, none⟩ (.slice a' (around p x.contr).kids.length c')).setCell ⟨g, 3, none⟩ (.int .i64 ((steps : Int) + 1))) fun e w' => e = .returned (.tuple #[]) ∧ RunPost g rl mo fuel steps t code M w (.returned (.bool true)) w') := tuck fun W a' c' hb hsx => by
     have hst' := stk_next (hst.below hb) (around p x.contr).kind (around p x.contr).num (.slice a' (around p x.contr).kids.length c')
     have hsx' : SlX ((((W.setCell ⟨g, 4, none⟩ (.int .i64 (around p x.contr).kind)).setCell ⟨g, 5, none⟩ (.int .i64 (around p x.contr).num)).setCell ⟨g, 6, none⟩ (.slice a' (around p x.contr).kids.length c')).setCell ⟨g, 3, none⟩ (.int .i64 ((steps : Int) + 1))) M (around p x.contr).kids (.slice a' (around p x.contr).kids.length c') := (((hsx.set (q := ⟨g, 4, none⟩) HMG.out _).set (q := ⟨g, 5, none⟩) HMG.out _).set (q := ⟨g, 6, none⟩) HMG.out _).set (q := ⟨g, 3, none⟩) HMG.out _
     refine (seek_any g rl mo fuel (steps + 1) (around p x.contr) hR code true x.kind x.num _ _ qs M _ hst' hsx').mono ?_
     rintro e w' ⟨rfl, M', h1, h2⟩
     refine ⟨rfl, M', Step.trans ?_ h1, Or.inr ⟨_, hstp, Or.inr (Or.inr ⟨hsf, hR, rfl, h2⟩)⟩⟩
     exact ((((Step.of_below hb HML.out).setOwn (p := ⟨g, 4, none⟩) HMG.out _).setOwn (p := ⟨g, 5, none⟩) HMG.out _).setOwn (p := ⟨g, 6, none⟩) HMG.out _).setOwn (p := ⟨g, 3, none⟩) HMG.out _
    have HSTK : Hid (∀ W, Below w.heap.size w W → g < W.heap.size ∧ W.cell? ⟨g, 3, none⟩ = some (.int .i64 steps) ∧ W.cell? ⟨g, 4, none⟩ = some (.int .i64 t.kind) ∧ W.cell? ⟨g, 5, none⟩ = some (.int .i64 t.num) ∧ W.cell? ⟨g, 6, none⟩ = some s ∧ ∀ i, W.frozen? ⟨g, i, none⟩ = false) := tuck fun W hb => ⟨Nat.lt_of_lt_of_le hgz hb.size, (hb.cell (p := ⟨g, 3, none⟩) hgz).trans c3, (hb.cell (p := ⟨g, 4, none⟩) hgz).trans c4, (hb.cell (p := ⟨g, 5, none⟩) hgz).trans c5, (hb.cell (p := ⟨g, 6, none⟩) hgz).trans c6, fun i => (hb.frozen (p := ⟨g, i, none⟩) hgz).trans (hfr i)⟩
    generalize RunPost g rl mo fuel steps t code M w = post at *
    clear hst hs hfd hstp HR hsf HC HCB hgb hcells hR hxs hps hip hx0 hxv hpl hpv
    generalize around p x.contr = R at *
    go_enter Tryz.func26, Tryz.ntmps26
    go_upto_region 4 with fail
    go_cut [21] (fun c wx => c = .bool false ∧ wx = w.drew)
    case first =>
     go_region
     all_goals (go_wp2_with fail; go_meet)
     all_goals exact ⟨rfl, rfl⟩
    case rest =>
    obtain ⟨rfl, rfl⟩ := hcut
    go_upto_region 7 with fail
    go_cut [3, 4] (fun p cw wx => ∃ (gz : Nat) (az : Option Addr) (nz : Nat), p = .pointer (some ⟨gz, 0, none⟩) ∧ cw = .bool true ∧ Below w.heap.size w wx ∧ VarAt gz R.kind R.num (.slice az R.kids.length nz) wx ∧ SlX wx M R.kids (.slice az R.kids.length nz))
    case first =>
     go_region_with (first | (go_at_call 37; refine (HCV.out w.drew.drew (Below.refl _ _).drew.drew).mono ?_; rintro e w6 ⟨ua, uc, rfl, hb6, hs6⟩; have HB6 : Hid (Below w.heap.size w w6) := tuck (bAfter (Below.refl _ _).drew.drew hb6); have HS6 := tuck hs6; clear hb6 hs6) | (go_at_call 37; refine (HCVB.out (w.alloc (.cells #[.int .i64 0, .int .i64 0, .slice none 0 0] 25)).drew.drew (below1 _ _).drew.drew (by simp)).mono ?_; rintro e w6 ⟨ua, uc, rfl, hb6, hs6⟩; have HB6 : Hid (Below w.heap.size w w6) := tuck (bAfter (below1 w (.cells #[.int .i64 0, .int .i64 0, .slice none 0 0] 25)).drew.drew hb6); have HVN : Hid (VarAt w.heap.size 0 0 (.slice none 0 0) w6) := tuck (((VarAt.new w 0 0 (.slice none 0 0)).below (Below.refl _ _).drew.drew).below hb6); obtain ⟨zn, n0, n1, n2, nf⟩ := HVN.out.facts; have HS6 := tuck hs6; clear hb6 hs6))
     all_goals (go_wp2_with fail; go_meet)
     all_goals first
      | exact ⟨w6.heap.size, ua, uc, rfl, rfl, bAfter HB6.out (below1 w6 (.cells #[.int .i64 R.kind, .int .i64 R.num, .slice ua R.kids.length uc] 25)), VarAt.new w6 R.kind R.num (.slice ua R.kids.length uc), HS6.out.below (below1 w6 (.cells #[.int .i64 R.kind, .int .i64 R.num, .slice ua R.kids.length uc] 25))⟩
      | exact ⟨w.heap.size, ua, uc, rfl, rfl, bSet3 HB6.out (Nat.le_refl _) 0 1 2 (.int .i64 R.kind) (.int .i64 R.num) (.slice ua R.kids.length uc), HVN.out.set3, (SlX.put HS6.out (g := w.heap.size) (Or.inr rfl) 0 1 2 (.int .i64 R.kind) (.int .i64 R.num) (.slice ua R.kids.length uc)).less (X := M) (fun i h => Or.inl h)⟩
    case rest =>
    obtain ⟨gz, az, nz, rfl, rfl, hbx, hvx, hsw⟩ := hcut
    rename World => W7
    obtain ⟨zb, b0, b1, b2, -⟩ := hvx.facts
    have HBX := tuck hbx
    have HSW := tuck hsw
    obtain ⟨zg, g3, g4, g5, g6, gf⟩ := HSTK.out _ hbx
    clear hbx hvx hsw
    go_wp2_with fail
    refine (HQ.out W7 az nz HBX.out HSW.out).mono ?_
    rintro e w8 ⟨rfl, hq⟩
    have HQ8 := tuck hq
    clear hq
    go_wp2_with fail
    exact HQ8.out
   ·have HCV : Hid (∀ W, Below w.heap.size w W → Calls Tryz.prog 37 #[.slice sa qs.length cap, .agg #[.int .i64 x.kind, .int .i64 x.num, .slice xa x.kids.length xc]] W fun e w' => ∃ (k n : Int) (ua : Option Addr) (uL uc : Nat), e = .returned (.tuple #[.agg #[.int .i64 k, .int .i64 n, .slice ua uL uc], .bool false]) ∧ Below W.heap.size W w') := tuck fun W hb => (HC.out W hb).mono fun e w' hp => by
     obtain ⟨U, ua, uc, rfl, hb6, hs6, hU⟩ := hp.open
     rw [tr_not hR]
     exact ⟨_, _, ua, _, uc, rfl, hb6⟩
    have HQ : Hid (∀ (W : World), Below w.heap.size w W → RunPost g rl mo fuel steps t code M w (.returned (.bool false)) (W.setCell ⟨g, 7, none⟩ (.int .i64 2))) := tuck fun W hb => ⟨M, (Step.of_below hb HML.out).setOwn (p := ⟨g, 7, none⟩) HMG.out _, Or.inr ⟨_, hstp, Or.inr (Or.inl ⟨hsf, hR, rfl, (HR.out.below hb).code 2⟩)⟩⟩
    have HSTK : Hid (∀ W, Below w.heap.size w W → g < W.heap.size ∧ ∀ i, W.frozen? ⟨g, i, none⟩ = false) := tuck fun W hb => ⟨Nat.lt_of_lt_of_le hgz hb.size, fun i => (hb.frozen (p := ⟨g, i, none⟩) hgz).trans (hfr i)⟩
    have HC7 : Hid (∀ W, Below w.heap.size w W → W.cell? ⟨g, 7, none⟩ = some (.int .i64 code)) := tuck fun W hb => (hb.cell (p := ⟨g, 7, none⟩) hgz).trans c7
    generalize RunPost g rl mo fuel steps t code M w = post at *
    clear hst hs hfd hstp HR hsf HC HCB hgb hcells hR hxs hps hip hx0 hxv hpl hpv
    generalize around p x.contr = R at *
    go_enter Tryz.func26, Tryz.ntmps26
    go_upto_region 4 with fail
    go_cut [21] (fun c wx => c = .bool false ∧ wx = w.drew)
    case first =>
     go_region
     all_goals (go_wp2_with fail; go_meet)
     all_goals exact ⟨rfl, rfl⟩
    case rest =>
    obtain ⟨rfl, rfl⟩ := hcut
    go_upto_region 7 with fail
    go_cut [4] (fun cw wx => cw = .bool false ∧ Below w.heap.size w wx)
    case first =>
     go_region_with (first | (go_at_call 37; refine (HCV.out w.drew.drew (Below.refl _ _).drew.drew).mono ?_; rintro e w6 ⟨k', n', ua, uL, uc, rfl, hb6⟩; have HB6 : Hid (Below w.heap.size w w6) := tuck (bAfter (Below.refl _ _).drew.drew hb6); clear hb6) | (go_at_call 37; refine (HCV.out (w.alloc (.cells #[.int .i64 0, .int .i64 0, .slice none 0 0] 25)).drew.drew (below1 _ _).drew.drew).mono ?_; rintro e w6 ⟨k', n', ua, uL, uc, rfl, hb6⟩; have HB6 : Hid (Below w.heap.size w w6) := tuck (bAfter (below1 w (.cells #[.int .i64 0, .int .i64 0, .slice none 0 0] 25)).drew.drew hb6); have HVN : Hid (VarAt w.heap.size 0 0 (.slice none 0 0) w6) := tuck (((VarAt.new w 0 0 (.slice none 0 0)).below (Below.refl _ _).drew.drew).below hb6); obtain ⟨zn, n0, n1, n2, nf⟩ := HVN.out.facts; clear hb6))
     all_goals (go_wp2_with fail; go_meet)
     all_goals first
      | exact ⟨rfl, bAfter HB6.out (below1 w6 _)⟩
      | exact ⟨rfl, bSet3 HB6.out (Nat.le_refl _) _ _ _ _ _ _⟩
    case rest =>
    obtain ⟨rfl, hbx⟩ := hcut
    rename World => W7
    have HBX := tuck hbx
    have g7 := HC7.out _ hbx
    obtain ⟨zg, gf⟩ := HSTK.out _ hbx
    clear hbx
    go_wp2_with fail
    exact HQ.out _ HBX.out
end Go.Proofs.YtlbikgnanabjgaaGreat
