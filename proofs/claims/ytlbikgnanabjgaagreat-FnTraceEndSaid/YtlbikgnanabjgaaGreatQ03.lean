/-
  SpecV.
-/
import Derived.Test.YtlbikgnanabjgaaGreatQ02
import Derived.BigQuiet
import Derived.Deep.QuietTactic
import Derived.ProofKit
import Derived.StillTailTactics
import Derived.Test.YtlbikgnanabjgaaGreatProg
import Derived.WalkSpells
namespace Go.Proofs.YtlbikgnanabjgaaGreat
open Go.RowKit
theorem kids_any (k : Int) (w : World) : Calls Tryz.prog 48 #[.int .i64 k] w fun e w' => e = .returned (.int .i64 (arity k)) ∧ w = w' := by
 go_enter Tryz.func48, Tryz.ntmps48
 go_wp2
 all_goals (go_ret; exact ⟨ret_int (by unfold arity; simp_all), rfl⟩)
theorem most_any (k : Int) (w : World) : Calls Tryz.prog 49 #[.int .i64 k] w fun e w' => e = .returned (.int .i64 (mostN k)) ∧ w = w' := by
 go_enter Tryz.func49, Tryz.ntmps49
 go_wp2
 all_goals (go_ret; exact ⟨ret_int (by unfold mostN; simp_all), rfl⟩)
theorem kids_q (k : Int) (w : World) : Calls Tryz.prog 48 #[.int .i64 k] w fun e w' => e = .returned (.int .i64 (arity k)) ∧ w' = w := (kids_any k w).mono fun _ _ h => ⟨h.1, h.2.symm⟩
theorem most_q (k : Int) (w : World) : Calls Tryz.prog 49 #[.int .i64 k] w fun e w' => e = .returned (.int .i64 (mostN k)) ∧ w' = w := (most_any k w).mono fun _ _ h => ⟨h.1, h.2.symm⟩
def BoolPost (w : World) (b : Bool) (e : Ending) (w' : World) : Prop := e = .returned (.bool b) ∧ Below w.heap.size w w'
set_option maxRecDepth 100000 in
theorem shape_any : ∀ (l : List Tm) (k n d : Int) (w : World) (s : Value), -100 ≤ d → d ≤ 100 → SlIn w 0 l s →
  Calls Tryz.prog 31 #[.agg #[.int .i64 k, .int .i64 n, s], .int .i64 d] w (BoolPost w (tr (Sh (.mk k n l) d))) := by
 intro l
 induction l using Tm.ind with
 | h l ih =>
 intro k n d w v hd0 hd1 hin
 obtain ⟨a, cap, b, o, rfl, hl, hp, hc⟩ := hin.open
 clear hin
 have HI := tuck ih
 have HP := tuck hp
 have HC := tuck hc
 clear ih hp hc
 unfold maxLen at hl
 by_cases h1 : d < 1
 ·skip
  have HS : Hid (tr (Sh (.mk k n l) d) = false) := tr_not (by rw [Sh_iff]; rintro ⟨h, _⟩; omega)
  generalize tr (Sh (.mk k n l) d) = r at *
  have hd : decide (d < 1) = true := by simpa using h1
  go_enter Tryz.func31, Tryz.ntmps31
  go_wp2_with fail
  go_quiet (first | (go_at_call 48; exact Calls.quiet_of_same (kids_q _ _)) | (go_at_call 49; exact Calls.quiet_of_same (most_q _ _)))
  go_wp2_with fail
  go_ret
  exact ⟨ret_bool HS.out.symm, bDrewN (below1 _ _) _⟩
 have g1 : decide (d < 1) = false := by simpa using h1
 by_cases h2 : arity k = l.length
 rotate_left
 ·skip
  have HS : Hid (tr (Sh (.mk k n l) d) = false) := tr_not (by rw [Sh_iff]; rintro ⟨_, h, _⟩; exact h2 h.1)
  generalize tr (Sh (.mk k n l) d) = r at *
  have hd : (arity k != (l.length : Int)) = true := by simpa using h2
  go_enter Tryz.func31, Tryz.ntmps31
  go_wp2_with fail
  go_quiet (first | (go_at_call 48; exact Calls.quiet_of_same (kids_q _ _)) | (go_at_call 49; exact Calls.quiet_of_same (most_q _ _)))
  go_wp2_with fail
  go_ret
  exact ⟨ret_bool HS.out.symm, bDrewN (below1 _ _) _⟩
 have g2 : (arity k != (l.length : Int)) = false := by simpa using h2
 by_cases h3 : n < 0
 ·skip
  have HS : Hid (tr (Sh (.mk k n l) d) = false) := tr_not (by rw [Sh_iff]; rintro ⟨_, h, _⟩; exact absurd h.2.1 (by show ¬ (0 : Int) ≤ n; omega))
  generalize tr (Sh (.mk k n l) d) = r at *
  have hd : decide (n < 0) = true := by simpa using h3
  go_enter Tryz.func31, Tryz.ntmps31
  go_wp2_with fail
  go_quiet (first | (go_at_call 48; exact Calls.quiet_of_same (kids_q _ _)) | (go_at_call 49; exact Calls.quiet_of_same (most_q _ _)))
  go_wp2_with fail
  go_ret
  exact ⟨ret_bool HS.out.symm, bDrewN (below1 _ _) _⟩
 have g3 : decide (n < 0) = false := by simpa using h3
 by_cases h4 : mostN k < n
 ·skip
  have HS : Hid (tr (Sh (.mk k n l) d) = false) := tr_not (by rw [Sh_iff]; rintro ⟨_, h, _⟩; exact absurd h.2.2 (by show ¬ n ≤ mostN k; omega))
  generalize tr (Sh (.mk k n l) d) = r at *
  have hd : decide (mostN k < n) = true := by simpa using h4
  go_enter Tryz.func31, Tryz.ntmps31
  go_wp2_with fail
  go_quiet (first | (go_at_call 48; exact Calls.quiet_of_same (kids_q _ _)) | (go_at_call 49; exact Calls.quiet_of_same (most_q _ _)))
  go_wp2_with fail
  go_ret
  exact ⟨ret_bool HS.out.symm, bDrewN (below1 _ _) _⟩
 have g4 : decide (mostN k < n) = false := by simpa using h4
 have HS : Hid (Sh (.mk k n l) d ↔ ∀ (i : Nat) (h : i < l.length), Sh l[i] (d - 1)) := by
  show _ ↔ _
  rw [Sh_iff]
  exact ⟨fun h => h.2.2, fun h => ⟨by omega, ⟨h2, by show 0 ≤ n; omega, by show n ≤ mostN k; omega⟩, h⟩⟩
 generalize Sh (.mk k n l) d = r at *
 clear h2
 go_enter Tryz.func31, Tryz.ntmps31
 go_wp2_with fail
 go_quiet (first | (go_at_call 48; exact Calls.quiet_of_same (kids_q _ _)) | (go_at_call 49; exact Calls.quiet_of_same (most_q _ _)))
 go_wp2_with fail
 have hbox : ((w.alloc (.cells #[.int .i64 k, .int .i64 n, .slice a l.length cap] 25)).drewN nq).cell? ⟨w.heap.size, 2, none⟩ = some (.slice a l.length cap) := by go_simp
 have hb0 : Below w.heap.size w ((w.alloc (.cells #[.int .i64 k, .int .i64 n, .slice a l.length cap] 25)).drewN nq) := bDrewN (below1 _ _) _
 have hz0 : w.heap.size < ((w.alloc (.cells #[.int .i64 k, .int .i64 n, .slice a l.length cap] 25)).drewN nq).heap.size := by go_simp
 generalize ((w.alloc (.cells #[.int .i64 k, .int .i64 n, .slice a l.length cap] 25)).drewN nq) = W0 at *
 have HBOX := tuck hbox
 have HB0 := tuck hb0
 clear hbox hb0
 go_loopw [5] (fun i wr => ∃ q : Nat, q ≤ l.length ∧ i = .int .i64 q ∧ Below W0.heap.size W0 wr ∧ ∀ j (hj : j < l.length), j < q → Sh l[j] (d - 1)) (fun i _ => l.length - (intOf i).toNat)
 case atStart => exact ⟨0, Nat.zero_le _, rfl, Below.refl _ _, fun j _ h => absurd h (Nat.not_lt_zero _)⟩
 case round =>
  obtain ⟨q, hq, rfl, hb, hall⟩ := hrel
  have HALL := tuck hall
  have hbox : wr.cell? ⟨w.heap.size, 2, none⟩ = some (.slice a l.length cap) := (hb.cell (p := ⟨w.heap.size, 2, none⟩) hz0).trans HBOX.out
  clear hall
  by_cases hlt : q < l.length
  ·have hlti : ((q : Int) < (l.length : Int)) := by omega
   obtain ⟨rfl, _, hbw⟩ := HP.out (by intro e; rw [e] at hlt; simp at hlt)
   obtain ⟨s, c0, c1, c2, hs⟩ := HC.out q hlt
   have hbb := bAfter HB0.out hb
   replace c0 := (hbb.cell (p := ⟨b, o + q * 3, none⟩) hbw).trans c0
   replace c1 := (hbb.cell (p := ⟨b, o + q * 3 + 1, none⟩) hbw).trans c1
   replace c2 := (hbb.cell (p := ⟨b, o + q * 3 + 2, none⟩) hbw).trans c2
   have HB := tuck hb
   have HBB := tuck hbb
   have HS2 := tuck hs
   have HI' := tuck (HI.out q hlt)
   clear hb hbb hs HI
   generalize hx : l[q] = x at *
   have HX := tuck hx
   clear hx
   go_wp2_with (go_at_call 31; refine (HI'.out x.kind x.num (d - 1) _ _ (by omega) (by omega) (HS2.out.below HBB.out)).mono ?_; rintro e w' ⟨rfl, hb'⟩)
   ·go_ret
    have h3 : tr (Sh (.mk x.kind x.num x.kids) (d - 1)) = false := by simpa using ‹(!tr (Sh (.mk x.kind x.num x.kids) (d - 1))) = true›
    rw [Tm.eta, tr_false, ← HX.out] at h3
    exact ⟨ret_bool (tr_not fun e => h3 (HS.out.1 e q hlt)).symm, bAfter HBB.out hb'⟩
   ·have h3 : tr (Sh (.mk x.kind x.num x.kids) (d - 1)) = true := by simpa using ‹(!tr (Sh (.mk x.kind x.num x.kids) (d - 1))) = false›
    rw [Tm.eta, tr_iff, ← HX.out] at h3
    go_roundw
    case rel =>
     refine ⟨q + 1, by omega, by go_num, bAfter HB.out hb', fun j hj hjq => ?_⟩
     by_cases e : j = q
     ·subst e; exact h3
     ·exact HALL.out j hj (by omega)
    case measure => simp [intOf]; omega
  ·have hge2 : ¬ ((q : Int) < (l.length : Int)) := by omega
   have HB := tuck hb
   clear hb
   go_wp2
   go_ret
   exact ⟨ret_bool (tr_of (HS.out.2 fun j hj => HALL.out j hj (by omega))).symm, bAfter HB0.out HB.out⟩
def cv (s : Nat) (most : Int) : Int := if (s : Int) ≤ most then s else most + 1
theorem cv_le {s : Nat} {most : Int} (h : (s : Int) ≤ most) : cv s most = s := by unfold cv; rw [if_pos h]
theorem cv_gt {s : Nat} {most : Int} (h : most < (s : Int)) : cv s most = most + 1 := by unfold cv; rw [if_neg (by omega)]
def IntPost (w : World) (n : Int) (e : Ending) (w' : World) : Prop := e = .returned (.int .i64 n) ∧ Below w.heap.size w w'
set_option maxRecDepth 100000 in
theorem count_any : ∀ (l : List Tm) (k n m : Int) (w : World) (s : Value), 0 ≤ m → m ≤ 400 → SlIn w 0 l s →
  Calls Tryz.prog 32 #[.agg #[.int .i64 k, .int .i64 n, s], .int .i64 m] w (IntPost w (cv (1 + sizes l) m)) := by
 intro l
 induction l using Tm.ind with
 | h l ih =>
 intro k n m w v hm0 hm1 hin
 obtain ⟨a, cap, b, o, rfl, hl, hp, hc⟩ := hin.open
 clear hin
 have HI := tuck ih
 have HP := tuck hp
 have HC := tuck hc
 clear ih hp hc
 unfold maxLen at hl
 go_enter Tryz.func32, Tryz.ntmps32
 go_wp2_with fail
 have hb0 : Below w.heap.size w (w.alloc (.cells #[.int .i64 k, .int .i64 n, .slice a l.length cap] 25)) := below1 _ _
 have hbox : (w.alloc (.cells #[.int .i64 k, .int .i64 n, .slice a l.length cap] 25)).cell? ⟨w.heap.size, 2, none⟩ = some (.slice a l.length cap) := by go_simp
 have hz0 : w.heap.size < (w.alloc (.cells #[.int .i64 k, .int .i64 n, .slice a l.length cap] 25)).heap.size := by go_simp
 generalize (w.alloc (.cells #[.int .i64 k, .int .i64 n, .slice a l.length cap] 25)) = W0 at *
 have HBOX := tuck hbox
 have HB0 := tuck hb0
 clear hbox hb0
 go_loopw [6, 5] (fun i c wr => ∃ q : Nat, q ≤ l.length ∧ i = .int .i64 q ∧ c = .int .i64 (cv (1 + sizes (l.take q)) m) ∧ Below W0.heap.size W0 wr) (fun i _ _ => l.length - (intOf i).toNat)
 case atStart => exact ⟨0, Nat.zero_le _, rfl, by rw [List.take_zero, sizes]; by_cases h : 1 ≤ m; rw [cv_le (by omega)]; rfl; rw [cv_gt (by omega), show m = 0 by omega]; rfl, Below.refl _ _⟩
 case round =>
  obtain ⟨q, hq, rfl, rfl, hb⟩ := hrel
  have hbox : wr.cell? ⟨w.heap.size, 2, none⟩ = some (.slice a l.length cap) := (hb.cell (p := ⟨w.heap.size, 2, none⟩) hz0).trans HBOX.out
  by_cases hlt : q < l.length
  ·have hlti : ((q : Int) < (l.length : Int)) := by omega
   by_cases hcm : ((1 + sizes (l.take q) : Nat) : Int) ≤ m
   ·have e1 := cv_le hcm
    have hstep := sizes_take_succ l q hlt
    rw [Tm.size_eq] at hstep
    rw [e1]
    have HM := tuck hcm
    have HST := tuck hstep
    clear hstep e1
    generalize hT : 1 + sizes (l.take q) = T at *
    have hT1 : 1 ≤ T := by omega
    have HT := tuck hT
    clear hT
    obtain ⟨rfl, _, hbw⟩ := HP.out (by intro e; rw [e] at hlt; simp at hlt)
    obtain ⟨s, c0, c1, c2, hs⟩ := HC.out q hlt
    have hbb := bAfter HB0.out hb
    replace c0 := (hbb.cell (p := ⟨b, o + q * 3, none⟩) hbw).trans c0
    replace c1 := (hbb.cell (p := ⟨b, o + q * 3 + 1, none⟩) hbw).trans c1
    replace c2 := (hbb.cell (p := ⟨b, o + q * 3 + 2, none⟩) hbw).trans c2
    have HB := tuck hb
    have HBB := tuck hbb
    have HS2 := tuck hs
    have HI' := tuck (HI.out q hlt)
    clear hb hbb hs HI
    generalize hx : l[q] = x at *
    have HX := tuck hx
    clear hx
    have HCV : Hid (0 ≤ cv (1 + sizes x.kids) (m - T) ∧ cv (1 + sizes x.kids) (m - T) ≤ 401 ∧ (T : Int) + cv (1 + sizes x.kids) (m - T) = cv (T + (1 + sizes x.kids)) m) := by
     show _ ∧ _ ∧ _
     by_cases h : ((1 + sizes x.kids : Nat) : Int) ≤ m - T
     ·rw [cv_le h, cv_le (by omega)]; omega
     ·rw [cv_gt (by omega), cv_gt (by omega)]; omega
    have hr0 : 0 ≤ cv (1 + sizes x.kids) (m - T) := HCV.out.1
    have hr1 : cv (1 + sizes x.kids) (m - T) ≤ 401 := HCV.out.2.1
    go_wp2_with (go_at_call 32; refine (HI'.out x.kind x.num (m - T) _ _ (by omega) (by omega) (HS2.out.below HBB.out)).mono ?_; rintro e w' ⟨rfl, hb'⟩)
    go_roundw
    case rel =>
     refine ⟨q + 1, by omega, by go_num, ?_, bAfter HB.out hb'⟩
     rw [HCV.out.2.2, HST.out, ← HT.out, Nat.add_assoc]
    case measure => simp [intOf]; omega
   ·have e1 := cv_gt (s := 1 + sizes (l.take q)) (most := m) (by omega)
    have hle := sizes_take_le l q
    have HC1 : Hid (cv (1 + sizes l) m = m + 1) := cv_gt (by omega)
    rw [e1]
    have HB := tuck hb
    clear hb e1 hle hcm
    go_wp2_with fail
    go_ret
    exact ⟨ret_int HC1.out.symm, bAfter HB0.out HB.out⟩
  ·have hge2 : ¬ ((q : Int) < (l.length : Int)) := by omega
   have HB := tuck hb
   clear hb
   go_wp2
   go_ret
   exact ⟨ret_int (by rw [List.take_of_length_le (by omega)]), bAfter HB0.out HB.out⟩
theorem validS_any (t : Tm) (w : World) (v : Value) (h : TmIn w 0 t v) : Calls Tryz.prog 16 #[v] w (BoolPost w (tr t.Valid)) := by
 obtain ⟨s, rfl, hs⟩ := h
 have HS := tuck hs
 clear hs
 have hv : t.Valid ↔ Sh t 30 ∧ t.size ≤ 400 := by
  unfold Tm.Valid Sh
  constructor
  ·rintro ⟨h1, h2, h3⟩; exact ⟨⟨h1, by omega⟩, h3⟩
  ·rintro ⟨⟨h1, h2⟩, h3⟩; exact ⟨h1, by omega, h3⟩
 have hz := t.size_eq
 have hst := fun (w : World) (s : Value) => shape_any t.kids t.kind t.num 30 w s (by omega) (by omega)
 have hct := fun (w : World) (s : Value) => count_any t.kids t.kind t.num 400 w s (by omega) (by omega)
 rw [Tm.eta] at hst
 by_cases h1 : Sh t 30
 ·rw [tr_of h1] at hst
  by_cases h2 : t.size ≤ 400
  ·rw [cv_le (by omega)] at hct
   rw [tr_of (hv.2 ⟨h1, h2⟩)]
   have hc : ((1 + sizes t.kids : Nat) : Int) ≤ 400 := by omega
   have HST := tuck hst
   have HCT := tuck hct
   clear hv hst hct hz h1 h2
   generalize 1 + sizes t.kids = c at *
   go_enter Tryz.func16, Tryz.ntmps16
   go_wp2_with (first | (go_at_call 31; refine (HST.out _ _ (HS.out.below (below1 _ _))).mono ?_; rintro e w1 ⟨rfl, hb1⟩; obtain ⟨oc, of⟩ := old_cells hb1; have HB1 := tuck hb1; clear hb1) | (go_at_call 32; refine (HCT.out _ _ (HS.out.below (bAfter (below1 _ _) HB1.out))).mono ?_; rintro e w2 ⟨rfl, hb2⟩))
   go_ret
   exact ⟨by simp, bAfter (bAfter (below1 _ _) HB1.out) hb2⟩
  ·rw [cv_gt (by omega)] at hct
   rw [tr_not (fun h => h2 (hv.1 h).2)]
   have HST := tuck hst
   have HCT := tuck hct
   clear hv hst hct hz h1 h2
   go_enter Tryz.func16, Tryz.ntmps16
   go_wp2_with (first | (go_at_call 31; refine (HST.out _ _ (HS.out.below (below1 _ _))).mono ?_; rintro e w1 ⟨rfl, hb1⟩; obtain ⟨oc, of⟩ := old_cells hb1; have HB1 := tuck hb1; clear hb1) | (go_at_call 32; refine (HCT.out _ _ (HS.out.below (bAfter (below1 _ _) HB1.out))).mono ?_; rintro e w2 ⟨rfl, hb2⟩))
   go_ret
   exact ⟨rfl, bAfter (bAfter (below1 _ _) HB1.out) hb2⟩
 ·rw [tr_not h1] at hst
  rw [tr_not (fun h => h1 (hv.1 h).1)]
  have HST := tuck hst
  clear hv hst hct hz h1
  go_enter Tryz.func16, Tryz.ntmps16
  go_wp2_with (go_at_call 31; refine (HST.out _ _ (HS.out.below (below1 _ _))).mono ?_; rintro e w1 ⟨rfl, hb1⟩; obtain ⟨oc, of⟩ := old_cells hb1; have HB1 := tuck hb1; clear hb1)
  go_ret
  exact ⟨rfl, bAfter (below1 _ _) HB1.out⟩
end Go.Proofs.YtlbikgnanabjgaaGreat
