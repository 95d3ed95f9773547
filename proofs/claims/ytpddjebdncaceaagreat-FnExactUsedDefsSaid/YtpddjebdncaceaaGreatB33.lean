/-
  DfM.
-/
import Derived.Test.YtpddjebdncaceaaGreatB32
namespace Go.Proofs.YtpddjebdncaceaaGreat
open Go.RowKit
set_option linter.unusedVariables false
set_option linter.unusedSimpArgs false
def EnvC : List (Tm × Tm) → Value → World → Prop
 | [], v, _ => v = .pointer none
 | x :: r, v, w => ∃ g p s u, v = .pointer (some ⟨g, 0, none⟩) ∧ g < w.heap.size ∧ w.cell? ⟨g, 0, none⟩ = some (.pointer p) ∧ w.cell? ⟨g, 1, none⟩ = some (.int .i64 x.1.kind) ∧ w.cell? ⟨g, 2, none⟩ = some (.int .i64 x.1.num) ∧ w.cell? ⟨g, 3, none⟩ = some s ∧ w.cell? ⟨g, 4, none⟩ = some (.int .i64 x.2.kind) ∧ w.cell? ⟨g, 5, none⟩ = some (.int .i64 x.2.num) ∧ w.cell? ⟨g, 6, none⟩ = some u ∧ w.cell? ⟨g, 7, none⟩ = some (.int .i64 (r.length + 1 : Nat)) ∧ SlIn w 0 x.1.kids s ∧ SlIn w 0 x.2.kids u ∧ EnvC r (.pointer p) w
theorem EnvC.below : ∀ {l : List (Tm × Tm)} {v : Value} {w w' : World}, EnvC l v w → Below w.heap.size w w' → EnvC l v w'
 | [], _, _, _, h, _ => h
 | _ :: _, _, _, _, ⟨g, p, s, u, hv, hg, k0, k1, k2, k3, k4, k5, k6, k7, hs, hu, hr⟩, hb =>
  have hk : ∀ j, _ := fun j => hb.cell (p := ⟨g, j, none⟩) hg
  ⟨g, p, s, u, hv, Nat.lt_of_lt_of_le hg hb.size, (hk 0).trans k0, (hk 1).trans k1, (hk 2).trans k2, (hk 3).trans k3, (hk 4).trans k4, (hk 5).trans k5, (hk 6).trans k6, (hk 7).trans k7, hs.below hb, hu.below hb, hr.below hb⟩
theorem EnvC.env : ∀ {l : List (Tm × Tm)} {v : Value} {w : World}, EnvC l v w → EnvN l.length v w
 | [], _, _, h => Or.inl ⟨rfl, h⟩
 | _ :: _, _, _, ⟨g, _, _, _, hv, hg, _, _, _, _, _, _, _, k7, _, _, _⟩ => Or.inr ⟨Nat.succ_pos _, g, hv, hg, k7⟩
def WithPostC (r : List (Tm × Tm)) (t u : Tm) (ok : Bool) (w : World) (e : Ending) (w' : World) : Prop := Below w.heap.size w w' ∧ ∃ p, e = .returned (.tuple #[.pointer p, .bool ok]) ∧ (ok = true → EnvC ((t, u) :: r) (.pointer p) w')
set_option maxRecDepth 100000 in
set_option maxHeartbeats 1600000 in
theorem envWithC_any (t u : Tm) (r : List (Tm × Tm)) (n : Nat) (hrn : r.length = n) (hn : n ≤ 8) (w : World) (v s s' : Value) (hC : EnvC r v w) (hs : SlIn w 0 t.kids s) (hu : SlIn w 0 u.kids s') : Calls Tryz.prog 104 #[v, .agg #[.int .i64 t.kind, .int .i64 t.num, s, .int .i64 u.kind, .int .i64 u.num, s']] w (WithPostC r t u (decide (n ≠ 8) && decide (0 ≤ maxFreeOf t ∧ maxFreeOf t ≤ n) && decide (0 ≤ maxFreeOf u ∧ maxFreeOf u ≤ n)) w) := by
 obtain ⟨a, c, rfl⟩ := hs.form
 obtain ⟨a', c', rfl⟩ := hu.form
 have h : EnvN n v w := hrn ▸ hC.env
 have HEC := tuck hC
 have HSC := tuck hs
 have HUC := tuck hu
 clear hC
 have hvf : ∃ p, v = .pointer p := by rcases h with ⟨-, rfl⟩ | ⟨-, g, rfl, -⟩ <;> exact ⟨_, rfl⟩
 obtain ⟨pp, rfl⟩ := hvf
 have hb0 := below1 w (.cells #[.int .i64 t.kind, .int .i64 t.num, .slice a t.kids.length c, .int .i64 u.kind, .int .i64 u.num, .slice a' u.kids.length c'] 64)
 have HD := tuck (DBox.new 64 w t.kind t.num (.slice a t.kids.length c) u.kind u.num (.slice a' u.kids.length c'))
 obtain ⟨b1, hb1⟩ : ∃ b, b = decide (0 ≤ maxFreeOf t ∧ maxFreeOf t ≤ n) := ⟨_, rfl⟩
 obtain ⟨b2, hb2⟩ : ∃ b, b = decide (0 ≤ maxFreeOf u ∧ maxFreeOf u ≤ n) := ⟨_, rfl⟩
 rw [← hb1, ← hb2]
 have HC1 : Hid (∀ (W : World), EnvN n (.pointer pp) W → SlIn W 0 t.kids (.slice a t.kids.length c) → Calls Tryz.prog 69 #[.pointer pp, .agg #[.int .i64 t.kind, .int .i64 t.num, .slice a t.kids.length c]] W (BoolPost W b1)) := tuck fun W h1 h2 => by rw [hb1]; exact envCovers_any t n W _ _ h1 h2
 have HC2 : Hid (∀ (W : World), EnvN n (.pointer pp) W → SlIn W 0 u.kids (.slice a' u.kids.length c') → Calls Tryz.prog 69 #[.pointer pp, .agg #[.int .i64 u.kind, .int .i64 u.num, .slice a' u.kids.length c']] W (BoolPost W b2)) := tuck fun W h1 h2 => by rw [hb2]; exact envCovers_any u n W _ _ h1 h2
 have HCN : Hid (∀ (W : World), EnvN n (.pointer pp) W → Calls Tryz.prog 70 #[.pointer pp] W (IntPost W n)) := tuck fun W h => envCount_any n W _ h
 have HNO : Hid (∀ W, Below w.heap.size w W → WithPostC r t u false w (.returned (.tuple #[.pointer none, .bool false])) W) := tuck fun W hb => ⟨hb, none, rfl, fun h => by cases h⟩
 have HS := tuck (hs.below hb0)
 have HU := tuck (hu.below hb0)
 have HE := tuck (h.below hb0)
 have HB := tuck hb0
 clear hs hu h hb0 hb1 hb2
 by_cases h8 : n = 8
 ·have e8 : ((n : Int) == 8) = true := by simp [h8]
  rw [show decide (n ≠ 8) = false by simp [h8], Bool.false_and, Bool.false_and]
  generalize WithPostC r t u false w = post at *
  clear h8
  go_enter Tryz.func104, Tryz.ntmps104
  go_wp2_with fail
  refine (HCN.out _ HE.out).mono ?_
  rintro e w1 ⟨rfl, hb⟩
  replace HB := tuck (bAfter HB.out hb)
  clear hb
  go_wp2_with fail
  exact HNO.out _ HB.out
 have e8 : ((n : Int) == 8) = false := by simp; omega
 rw [show decide (n ≠ 8) = true by simp [h8], Bool.true_and]
 cases b1 with
 | false =>
  rw [Bool.false_and]
  generalize WithPostC r t u false w = post at *
  go_enter Tryz.func104, Tryz.ntmps104
  go_wp2_with fail
  refine (HCN.out _ HE.out).mono ?_
  rintro e w1 ⟨rfl, hb⟩
  replace HB := tuck (bAfter HB.out hb)
  replace HE := tuck (HE.out.below hb)
  replace HS := tuck (HS.out.below hb)
  obtain ⟨z1, p0, p1, p2, p3, p4, p5, pf⟩ := (HD.out.below hb).facts
  clear hb
  go_wp2_with fail
  refine (HC1.out _ HE.out HS.out).mono ?_
  rintro e w2 ⟨rfl, hb⟩
  replace HB := tuck (bAfter HB.out hb)
  clear hb
  go_wp2_with fail
  exact HNO.out _ HB.out
 | true =>
  rw [Bool.true_and]
  cases b2 with
  | false =>
   generalize WithPostC r t u false w = post at *
   go_enter Tryz.func104, Tryz.ntmps104
   go_wp2_with fail
   refine (HCN.out _ HE.out).mono ?_
   rintro e w1 ⟨rfl, hb⟩
   replace HB := tuck (bAfter HB.out hb)
   replace HE := tuck (HE.out.below hb)
   replace HS := tuck (HS.out.below hb)
   replace HU := tuck (HU.out.below hb)
   replace HD := tuck (HD.out.below hb)
   obtain ⟨z1, p0, p1, p2, p3, p4, p5, pf⟩ := HD.out.facts
   clear hb
   go_wp2_with fail
   refine (HC1.out _ HE.out HS.out).mono ?_
   rintro e w2 ⟨rfl, hb⟩
   replace HB := tuck (bAfter HB.out hb)
   replace HE := tuck (HE.out.below hb)
   replace HU := tuck (HU.out.below hb)
   replace HD := tuck (HD.out.below hb)
   clear z1 p0 p1 p2 p3 p4 p5 pf
   obtain ⟨z1, p0, p1, p2, p3, p4, p5, pf⟩ := HD.out.facts
   clear hb
   go_wp2_with fail
   refine (HC2.out _ HE.out HU.out).mono ?_
   rintro e w3 ⟨rfl, hb⟩
   replace HB := tuck (bAfter HB.out hb)
   clear hb
   go_wp2_with fail
   exact HNO.out _ HB.out
  | true =>
   have HYES : Hid (∀ W g, Below w.heap.size w W → g < W.heap.size → W.cell? ⟨g, 0, none⟩ = some (.pointer pp) → W.cell? ⟨g, 1, none⟩ = some (.int .i64 t.kind) → W.cell? ⟨g, 2, none⟩ = some (.int .i64 t.num) → W.cell? ⟨g, 3, none⟩ = some (.slice a t.kids.length c) → W.cell? ⟨g, 4, none⟩ = some (.int .i64 u.kind) → W.cell? ⟨g, 5, none⟩ = some (.int .i64 u.num) → W.cell? ⟨g, 6, none⟩ = some (.slice a' u.kids.length c') → W.cell? ⟨g, 7, none⟩ = some (.int .i64 ((n : Int) + 1)) → WithPostC r t u true w (.returned (.tuple #[.pointer (some ⟨g, 0, none⟩), .bool true])) W) := tuck fun W g hb hg k0 k1 k2 k3 k4 k5 k6 k7 => ⟨hb, _, rfl, fun _ => ⟨g, _, _, _, rfl, hg, k0, k1, k2, k3, k4, k5, k6, by rw [k7, hrn]; push_cast; rfl, HSC.out.below hb, HUC.out.below hb, HEC.out.below hb⟩⟩
   generalize WithPostC r t u true w = post at *
   go_enter Tryz.func104, Tryz.ntmps104
   go_wp2_with fail
   refine (HCN.out _ HE.out).mono ?_
   rintro e w1 ⟨rfl, hb⟩
   replace HB := tuck (bAfter HB.out hb)
   replace HE := tuck (HE.out.below hb)
   replace HS := tuck (HS.out.below hb)
   replace HU := tuck (HU.out.below hb)
   replace HD := tuck (HD.out.below hb)
   obtain ⟨z1, p0, p1, p2, p3, p4, p5, pf⟩ := HD.out.facts
   clear hb
   go_wp2_with fail
   refine (HC1.out _ HE.out HS.out).mono ?_
   rintro e w2 ⟨rfl, hb⟩
   replace HB := tuck (bAfter HB.out hb)
   replace HE := tuck (HE.out.below hb)
   replace HU := tuck (HU.out.below hb)
   replace HD := tuck (HD.out.below hb)
   clear z1 p0 p1 p2 p3 p4 p5 pf
   obtain ⟨z1, p0, p1, p2, p3, p4, p5, pf⟩ := HD.out.facts
   clear hb
   go_wp2_with fail
   refine (HC2.out _ HE.out HU.out).mono ?_
   rintro e w3 ⟨rfl, hb⟩
   replace HB := tuck (bAfter HB.out hb)
   replace HE := tuck (HE.out.below hb)
   replace HD := tuck (HD.out.below hb)
   clear z1 p0 p1 p2 p3 p4 p5 pf hb
   obtain ⟨z1, p0, p1, p2, p3, p4, p5, pf⟩ := HD.out.facts
   have hmm := @run_makeMap Tryz.prog
   go_wp2_with fail
   have HW3 := tuck HB.out
   go_region_with (go_at_call 70; (refine (HCN.out _ (by first | exact HE.out.below (Below.refl _ _).drew | exact HE.out.below (bAfter (Below.refl _ _).drew (below1 _ _)))).mono ?_; rintro e w5 ⟨rfl, hb5⟩; obtain ⟨z7, r0, r1, r2, r3, r4, r5, rf⟩ := (DBox.facts (DBox.below (by first | exact HD.out.below (Below.refl _ _).drew | exact HD.out.below (bAfter (Below.refl _ _).drew (below1 _ _))) hb5))))
   all_goals go_wp2_with fail
   all_goals have hwr : IntKind.i64.wrap ((n : Int) + 1) = (n : Int) + 1 := IntWalk.i64_in _ (by omega)
   all_goals first
    | (refine bodyPost_ret (v := .tuple #[.pointer (some ⟨(w5.heap.size + 1), 0, none⟩), .bool true]) (by simp [results, Tryz.results104, go_sem, *]) rfl (HYES.out _ (w5.heap.size + 1) (bAfter (bAfter HB.out (bAfter (Below.refl _ _).drew hb5)) (below2 _ _ _)) (by simp) ?_ ?_ ?_ ?_ ?_ ?_ ?_ (by (try simp only [hwr]); simp)) <;> simp)
    | (refine bodyPost_ret (v := .tuple #[.pointer (some ⟨w5.heap.size, 0, none⟩), .bool true]) (by simp [results, Tryz.results104, go_sem, *]) rfl (HYES.out _ w5.heap.size (bAfter (bAfter HB.out (bAfter (bAfter (Below.refl _ _).drew (below1 _ _)) hb5)) (below1 _ _)) (by simp) ?_ ?_ ?_ ?_ ?_ ?_ ?_ (by (try simp only [hwr]); rw [World.cell?_alloc_new]; rfl)) <;> (rw [World.cell?_alloc_new]; rfl))
def EnvPostC (l : List (Tm × Tm)) (w : World) (e : Ending) (w' : World) : Prop := Below w.heap.size w w' ∧ ∃ p, e = .returned (.tuple #[.pointer p, .bool (tr (DefsOk l))]) ∧ (DefsOk l → EnvC l.reverse (.pointer p) w')
set_option maxRecDepth 100000 in
set_option maxHeartbeats 1600000 in
theorem envOfC_any (l : List (Tm × Tm)) (w : World) (v : Value) (hin : DfIn w 0 l v) : Calls Tryz.prog 68 #[v] w (EnvPostC l w) := by
 obtain ⟨a, cap, b, o, rfl, hl, hp, hc⟩ := hin
 have HP := tuck hp
 have HC := tuck hc
 unfold maxLen at hl
 clear hp hc
 have HF : Hid (¬ DefsOk l → ∀ W, Below w.heap.size w W → EnvPostC l w (.returned (.tuple #[.pointer none, .bool false])) W) := tuck fun h W hb => ⟨hb, none, by rw [tr_not h], fun h2 => absurd h2 h⟩
 have HT : Hid (DefsOk l → ∀ W p, Below w.heap.size w W → EnvC l.reverse (.pointer p) W → EnvPostC l w (.returned (.tuple #[.pointer p, .bool true])) W) := tuck fun h W p hb he => ⟨hb, p, by rw [tr_of h], fun _ => he⟩
 generalize EnvPostC l w = post at *
 go_enter Tryz.func68, Tryz.ntmps68
 go_wp2
 go_loopw [4, 11] (fun ev i wr => ∃ (q : Nat) (p : Option Addr), q ≤ l.length ∧ q ≤ 8 ∧ i = .int .i64 q ∧ ev = .pointer p ∧ EnvC (l.take q).reverse (.pointer p) wr ∧ Below w.heap.size w wr ∧ ∀ i (h : i < l.length), i < q → DefOk l i h) (fun _ i _ => l.length - (intOf i).toNat)
 case atStart => exact ⟨0, none, Nat.zero_le _, Nat.zero_le _, rfl, rfl, (show EnvC (l.take 0).reverse (.pointer none) _ by simp [EnvC]), Below.refl _ _, fun i _ h => absurd h (Nat.not_lt_zero _)⟩
 case round =>
  obtain ⟨q, p, hq, hq8, rfl, rfl, he, hb, hall⟩ := hrel
  by_cases hlt : q < l.length
  ·have hlti : ((q : Int) < (l.length : Int)) := by omega
   have hqi : (0 : Int) ≤ (q : Int) := by omega
   obtain ⟨rfl, -, hbw⟩ := HP.out (by omega)
   obtain ⟨s, u, c0, c1, c2, c3, c4, c5, hs, hu⟩ := HC.out q hlt
   obtain ⟨sa, sc, rfl⟩ := hs.form
   obtain ⟨ua, uc, rfl⟩ := hu.form
   have hcc : ∀ j, wr.cell? ⟨b, j, none⟩ = w.cell? ⟨b, j, none⟩ := fun j => hb.cell (p := ⟨b, j, none⟩) hbw
   rw [← hcc] at c0 c1 c2 c3 c4 c5
   have HB := tuck hb
   have HALL := tuck hall
   have HCL : Hid (∀ W, Below wr.heap.size wr W → Calls Tryz.prog 104 #[.pointer p, .agg #[.int .i64 l[q].1.kind, .int .i64 l[q].1.num, .slice sa l[q].1.kids.length sc, .int .i64 l[q].2.kind, .int .i64 l[q].2.num, .slice ua l[q].2.kids.length uc]] W (WithPostC (l.take q).reverse l[q].1 l[q].2 (decide (q ≠ 8) && decide (0 ≤ maxFreeOf l[q].1 ∧ maxFreeOf l[q].1 ≤ q) && decide (0 ≤ maxFreeOf l[q].2 ∧ maxFreeOf l[q].2 ≤ q)) W)) := tuck fun W hW => envWithC_any _ _ _ q (by simp; omega) hq8 W _ _ _ (he.below hW) ((hs.below hb).below hW) ((hu.below hb).below hW)
   have HOK : Hid (DefOk l q hlt ↔ (0 ≤ maxFreeOf l[q].1 ∧ maxFreeOf l[q].1 ≤ q) ∧ 0 ≤ maxFreeOf l[q].2 ∧ maxFreeOf l[q].2 ≤ q) := tuck Iff.rfl
   have HNX : Hid (∀ p W, EnvC ((l[q].1, l[q].2) :: (l.take q).reverse) p W → EnvC (l.take (q + 1)).reverse p W) := tuck fun p W h => by rw [show (l.take (q + 1)).reverse = (l[q].1, l[q].2) :: (l.take q).reverse from by rw [List.take_add_one, List.getElem?_eq_getElem hlt, List.reverse_append]; rfl]; exact h
   generalize (l.take q).reverse = rr at *
   clear hb hall hs hu hcc he
   generalize l[q] = x at *
   obtain ⟨x1, x2⟩ := x
   simp only at HCL HOK HNX c0 c1 c2 c3 c4 c5
   obtain ⟨ok, hok⟩ : ∃ ok, ok = (decide (q ≠ 8) && decide (0 ≤ maxFreeOf x1 ∧ maxFreeOf x1 ≤ q) && decide (0 ≤ maxFreeOf x2 ∧ maxFreeOf x2 ≤ q)) := ⟨_, rfl⟩
   rw [← hok] at HCL
   have HOK2 := tuck hok
   clear hok
   have HBX := tuck (below1 wr (.cells #[.int .i64 x1.kind, .int .i64 x1.num, .slice sa x1.kids.length sc, .int .i64 x2.kind, .int .i64 x2.num, .slice ua x2.kids.length uc] 64))
   go_wp2_with fail
   refine (HCL.out _ HBX.out).mono ?_
   rintro e w1 ⟨hb1, p2, rfl, he2⟩
   have HE2 := tuck he2
   have HB2 := tuck (bAfter (bAfter HB.out HBX.out) hb1)
   clear hb1 he2 c0 c1 c2 c3 c4 c5 HCL HBX
   cases ok with
   | false =>
    have HNO := tuck (show ¬ DefsOk l from fun h => by
     have h1 := HOK.out.1 (h.2 q hlt)
     have h2 := h.1
     have h3 := HOK2.out
     rw [decide_eq_true (show q ≠ 8 by omega), decide_eq_true h1.1, decide_eq_true h1.2] at h3
     cases h3)
    go_wp2_with fail
    exact HF.out HNO.out _ HB2.out
   | true =>
    have HYES := tuck (show q ≠ 8 ∧ DefOk l q hlt from by
     have h3 := HOK2.out
     have h4 := h3.symm
     simp only [Bool.and_eq_true, decide_eq_true_eq] at h4
     exact ⟨h4.1.1, HOK.out.2 ⟨h4.1.2, h4.2⟩⟩)
    go_wp2_with fail
    go_roundw
    case rel => exact ⟨q + 1, p2, by omega, by have := HYES.out.1; omega, by go_num, rfl, HNX.out _ _ (HE2.out (by trivial)), HB2.out, fun i h hi => by
     by_cases e : i = q
     ·subst e; exact HYES.out.2
     ·exact HALL.out i h (by omega)⟩
    case measure => simp [intOf]; omega
  ·have hge2 : ¬ ((q : Int) < (l.length : Int)) := by omega
   have e : q = l.length := by omega
   have HB := tuck hb
   have HALL := tuck (show DefsOk l from ⟨by omega, fun i h => hall i h (by omega)⟩)
   have HE := tuck (show EnvC l.reverse (.pointer p) wr by rw [e, List.take_length] at he; exact he)
   clear hb hall he
   go_wp2
   exact HT.out HALL.out _ _ HB.out HE.out
end Go.Proofs.YtpddjebdncaceaaGreat
