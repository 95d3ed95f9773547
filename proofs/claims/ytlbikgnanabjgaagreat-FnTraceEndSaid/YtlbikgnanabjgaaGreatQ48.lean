/-
  Mut.
-/
import Derived.Test.YtlbikgnanabjgaaGreatQ17
import Derived.Test.YtlbikgnanabjgaaGreatQ20
import Derived.Test.YtlbikgnanabjgaaGreatQ24
import Derived.Test.YtlbikgnanabjgaaGreatQ28
import Derived.Test.YtlbikgnanabjgaaGreatQ32
namespace Go.Proofs.YtlbikgnanabjgaaGreat
open Go.RowKit
theorem put0 {w : World} {B : Nat} {x : Tm} {l : List Tm} {v : Value} {F : List Nat} {k n : Int} (h : SlOwn w (x :: l) v F) (hn : F.Nodup) (hB : ∀ g ∈ F, B ≤ g) : ∃ (gr cap : Nat), v = .slice (some ⟨gr, 0, none⟩) (l.length + 1) cap ∧ gr ∈ F ∧ (∀ i, w.frozen? ⟨gr, i, none⟩ = false) ∧
  (∃ c0 c1 c2, w.cell? ⟨gr, 0, none⟩ = some c0 ∧ w.cell? ⟨gr, 1, none⟩ = some c1 ∧ w.cell? ⟨gr, 2, none⟩ = some c2) ∧
  SlIn (((w.setCell ⟨gr, 0, none⟩ (.int .i64 k)).setCell ⟨gr, 1, none⟩ (.int .i64 n)).setCell ⟨gr, 2, none⟩ (.slice none 0 0)) B (.mk k n [] :: l) v := by
 obtain ⟨a, cap, b, F1, rfl, hl, hab, hrow⟩ := h
 rcases hab with ⟨h1, _⟩ | ⟨rfl, rfl, hfz⟩
 ·cases h1
 ·have hr := hrow (by simp)
  rw [RowOwn] at hr
  obtain ⟨G, F3, rfl, h3, h4⟩ := hr
  obtain ⟨s, c0, c1, c2, hs⟩ := TmOwn_iff.1 h3
  rw [List.nodup_cons] at hn
  obtain ⟨hb, hn⟩ := hn
  have ne : ∀ {i j : Nat}, i ≠ j → (⟨b, i, none⟩ : Addr) ≠ ⟨b, j, none⟩ := fun h e => by injection e with _ e; exact h e
  have far : ∀ (i : Nat), 3 ≤ i → (((w.setCell ⟨b, 0, none⟩ (.int .i64 k)).setCell ⟨b, 1, none⟩ (.int .i64 n)).setCell ⟨b, 2, none⟩ (.slice none 0 0)).cell? ⟨b, i, none⟩ = w.cell? ⟨b, i, none⟩ := fun i hi => by
   rw [World.cell?_setCell_other _ _ _ _ (ne (by omega)), World.cell?_setCell_other _ _ _ _ (ne (by omega)), World.cell?_setCell_other _ _ _ _ (ne (by omega))]
  have d0 : (((w.setCell ⟨b, 0, none⟩ (.int .i64 k)).setCell ⟨b, 1, none⟩ (.int .i64 n)).setCell ⟨b, 2, none⟩ (.slice none 0 0)).cell? ⟨b, 0, none⟩ = some (.int .i64 k) := by
   rw [World.cell?_setCell_other _ _ _ _ (ne (by omega)), World.cell?_setCell_other _ _ _ _ (ne (by omega))]
   exact World.cell?_setCell_same _ _ _ c0
  have d1 : (((w.setCell ⟨b, 0, none⟩ (.int .i64 k)).setCell ⟨b, 1, none⟩ (.int .i64 n)).setCell ⟨b, 2, none⟩ (.slice none 0 0)).cell? ⟨b, 0 + 1, none⟩ = some (.int .i64 n) := by
   rw [World.cell?_setCell_other _ _ _ _ (ne (by omega))]
   exact World.cell?_setCell_same _ _ _ ((World.cell?_setCell_other _ _ _ _ (ne (by omega))).trans c1)
  have d2 : (((w.setCell ⟨b, 0, none⟩ (.int .i64 k)).setCell ⟨b, 1, none⟩ (.int .i64 n)).setCell ⟨b, 2, none⟩ (.slice none 0 0)).cell? ⟨b, 0 + 2, none⟩ = some (.slice none 0 0) :=
   World.cell?_setCell_same _ _ _ ((World.cell?_setCell_other _ _ _ _ (ne (by omega))).trans ((World.cell?_setCell_other _ _ _ _ (ne (by omega))).trans c2))
  have hF3 : ∀ g ∈ F3, SameAt w (((w.setCell ⟨b, 0, none⟩ (.int .i64 k)).setCell ⟨b, 1, none⟩ (.int .i64 n)).setCell ⟨b, 2, none⟩ (.slice none 0 0)) g := fun g hg => by
   have hgb : g ≠ b := fun e => hb (by rw [← e]; simp [hg])
   exact ((sameAt_set (p := ⟨b, 0, none⟩) hgb).trans (sameAt_set (p := ⟨b, 1, none⟩) hgb)).trans (sameAt_set (p := ⟨b, 2, none⟩) hgb)
  have hrest := h4.keep (w' := (((w.setCell ⟨b, 0, none⟩ (.int .i64 k)).setCell ⟨b, 1, none⟩ (.int .i64 n)).setCell ⟨b, 2, none⟩ (.slice none 0 0))) (fun i _ => far _ (by omega)) hF3
  have hfz3 : ∀ i, (((w.setCell ⟨b, 0, none⟩ (.int .i64 k)).setCell ⟨b, 1, none⟩ (.int .i64 n)).setCell ⟨b, 2, none⟩ (.slice none 0 0)).frozen? ⟨b, i, none⟩ = false := fun i => by
   rw [World.frozen?_setCell, World.frozen?_setCell, World.frozen?_setCell]
   exact hfz i
  have hown : SlOwn (((w.setCell ⟨b, 0, none⟩ (.int .i64 k)).setCell ⟨b, 1, none⟩ (.int .i64 n)).setCell ⟨b, 2, none⟩ (.slice none 0 0)) (.mk k n [] :: l) (.slice (some ⟨b, 0, none⟩) (l.length + 1) cap) (b :: F3) := by
   refine ⟨some ⟨b, 0, none⟩, cap, b, F3, rfl, by simpa using hl, Or.inr ⟨rfl, rfl, hfz3⟩, fun _ => ?_⟩
   rw [RowOwn]
   exact ⟨[], F3, rfl, TmOwn_iff.2 ⟨_, d0, d1, d2, SlOwn.nil _ _ _⟩, hrest⟩
  refine ⟨b, cap, rfl, by simp, hfz, ⟨_, _, _, c0, by simpa using c1, by simpa using c2⟩, hown.sl (fun g hg => hB g ?_)⟩
  rcases List.mem_cons.1 hg with rfl | hg
  ·simp
  ·simp [hg]
end Go.Proofs.YtlbikgnanabjgaaGreat
namespace Go.Proofs.YtlbikgnanabjgaaGreat
open Go.RowKit
def MutPost (g : Nat) (a : Option Addr) (len cap p : Nat) (w : World) (e : Ending) (w' : World) : Prop :=
 ∃ (T : Tm) (v : Value) (p' : Nat), e = .returned v ∧ TmIn w' w.heap.size T v ∧ T.size ≤ 1000 ∧ p' ≤ p + 2 ∧ Rd g a len cap p' w' ∧ Only g w w'
def MutPostS (g : Nat) (a : Option Addr) (len cap p S : Nat) (w : World) (e : Ending) (w' : World) : Prop :=
 ∃ (T : Tm) (v : Value) (p' : Nat), e = .returned v ∧ TmIn w' w.heap.size T v ∧ T.size ≤ S + 2 ∧ p' ≤ p + 2 ∧ Rd g a len cap p' w' ∧ Only g w w'
set_option maxRecDepth 100000 in
set_option maxHeartbeats 3200000 in
theorem lmutS_any {U : Nat → Int} {g b o len cap p : Nat} {a : Option Addr} (t : Tm) (w : World) (v : Value) (hlen : len ≤ 2000) (hbg : 0 < len → b ≠ g) (hp : p ≤ 90000) (hsz : sizes t.kids ≤ 900) (hrd : Rd g a len cap p w) (hby : Bytes U a b o len w) (hin : TmIn w 0 t v) :
  Calls Tryz.prog 28 #[.pointer (some ⟨g, 0, none⟩), v] w (MutPostS g a len cap p (sizes t.kids) w) := by
 obtain ⟨s0, rfl, hs⟩ := hin
 obtain ⟨a0, c0, rfl⟩ := hs.form
 have hg := hrd.facts.1
 have HRD := tuck hrd
 have HBY := tuck hby
 have HPOST : Hid (∀ (K n : Int) (l : List Tm) (s : Value) (w' : World) (p' : Nat), SlIn w' w.heap.size l s → sizes l ≤ sizes t.kids + 1 → p' ≤ p + 2 → Rd g a len cap p' w' → Only g w w' → MutPostS g a len cap p (sizes t.kids) w (.returned (.agg #[.int .i64 K, .int .i64 n, s])) w') := fun K n l s w' p' h1 h2 h3 h4 h5 => ⟨.mk K n l, _, p', rfl, ⟨s, rfl, h1⟩, by rw [Tm.size]; omega, h3, h4, h5⟩
 generalize MutPostS g a len cap p (sizes t.kids) w = post at *
 have HC : Hid (Calls Tryz.prog 17 #[.agg #[.int .i64 t.kind, .int .i64 t.num, .slice a0 t.kids.length c0]] ((w.alloc (.cells #[.int .i64 t.kind, .int .i64 t.num, .slice a0 t.kids.length c0] 25)).alloc (.cells #[.int .i64 0, .int .i64 0, .slice none 0 0] 25)) fun e w' => Below ((w.alloc (.cells #[.int .i64 t.kind, .int .i64 t.num, .slice a0 t.kids.length c0] 25)).alloc (.cells #[.int .i64 0, .int .i64 0, .slice none 0 0] 25)).heap.size ((w.alloc (.cells #[.int .i64 t.kind, .int .i64 t.num, .slice a0 t.kids.length c0] 25)).alloc (.cells #[.int .i64 0, .int .i64 0, .slice none 0 0] 25)) w' ∧ ∃ base s F, ((w.alloc (.cells #[.int .i64 t.kind, .int .i64 t.num, .slice a0 t.kids.length c0] 25)).alloc (.cells #[.int .i64 0, .int .i64 0, .slice none 0 0] 25)).heap.size ≤ base ∧ base ≤ w'.heap.size ∧ e = .returned (.agg #[.int .i64 t.kind, .int .i64 t.num, s]) ∧ RowG base t.kids s F w') := lcopyG_any t.kids t.kind t.num _ _ (by omega) (hs.below (below2 _ _ _))
 have HO0 : Hid (Only g w ((w.alloc (.cells #[.int .i64 t.kind, .int .i64 t.num, .slice a0 t.kids.length c0] 25)).alloc (.cells #[.int .i64 0, .int .i64 0, .slice none 0 0] 25))) := ((Only.refl g w).alloc _).alloc _
 have HV0 : Hid (VarAt (w.heap.size + 1) 0 0 (.slice none 0 0) ((w.alloc (.cells #[.int .i64 t.kind, .int .i64 t.num, .slice a0 t.kids.length c0] 25)).alloc (.cells #[.int .i64 0, .int .i64 0, .slice none 0 0] 25))) := var_new1 w (.cells #[.int .i64 t.kind, .int .i64 t.num, .slice a0 t.kids.length c0] 25) 0 0 (.slice none 0 0)
 have HRD1 := tuck (HRD.out.below (below2 w (.cells #[.int .i64 t.kind, .int .i64 t.num, .slice a0 t.kids.length c0] 25) (.cells #[.int .i64 0, .int .i64 0, .slice none 0 0] 25)))
 have hz0 : ((w.alloc (.cells #[.int .i64 t.kind, .int .i64 t.num, .slice a0 t.kids.length c0] 25)).alloc (.cells #[.int .i64 0, .int .i64 0, .slice none 0 0] 25)).heap.size = w.heap.size + 1 + 1 := by simp
 clear hrd hby hs
 go_enter Tryz.func28, Tryz.ntmps28
 go_wp2_with fail
 refine HC.out.mono ?_
 rintro e w2 ⟨hb, base, s2, F, hbase, hbase2, rfl, hrg⟩
 obtain ⟨a2, c2, rfl⟩ := hrg.form
 rw [hz0] at hbase
 have hz2 : w.heap.size + 1 + 1 ≤ w2.heap.size := by have := hb.size; omega
 obtain ⟨G, hso, hnd, hGb⟩ := hrg.done (by have := length_le_sizes t.kids; unfold maxLen; omega)
 have HY := tuck ((HV0.out.below hb).below (below1 w2 (.cells #[.int .i64 t.kind, .int .i64 t.num, .slice a2 t.kids.length c2] 25)))
 have HO := tuck ((HO0.out.of_below hb).alloc (.cells #[.int .i64 t.kind, .int .i64 t.num, .slice a2 t.kids.length c2] 25))
 have HR := tuck ((HRD1.out.below hb).below (below1 w2 (.cells #[.int .i64 t.kind, .int .i64 t.num, .slice a2 t.kids.length c2] 25)))
 have HRG := tuck (hrg.below (below1 w2 (.cells #[.int .i64 t.kind, .int .i64 t.num, .slice a2 t.kids.length c2] 25)))
 have HGB := tuck hGb
 have HLT : Hid (∀ x, (Value.slice a2 t.kids.length c2).ownBlock = some x → base ≤ x ∧ x < w2.heap.size) := tuck hrg.lt
 have HFB := tuck hrg.flt
 have HND := tuck hnd
 have HSO := tuck (hso.below (fun x hx => (hGb x hx).2) (below1 w2 (.cells #[.int .i64 t.kind, .int .i64 t.num, .slice a2 t.kids.length c2] 25)))
 have HT := tuck (VarAt.new w2 t.kind t.num (.slice a2 t.kids.length c2))
 clear hb hrg hso hnd hGb HO0 HV0 HRD1 HC
 go_wp2_with fail
 refine (pick_any (n := 50) _ hlen (by omega) (by omega) (by omega) HR.out (HBY.out.only HO.out hbg) hbg).mono ?_
 rintro e w4 ⟨v, rfl, hv0, hv1, hrd, ho⟩
 replace HY := tuck (HY.out.only ho (by omega))
 have hgo : w2.heap.size ≠ g := by omega
 replace HT := tuck (HT.out.only ho hgo)
 replace HRG := tuck (HRG.out.only ho (by omega))
 replace HSO := tuck (HSO.out.only ho (fun x hx => ⟨Nat.lt_of_lt_of_le (HGB.out x hx).2 (below1 w2 _).size, by have := (HGB.out x hx).1; omega⟩))
 replace HO := tuck (HO.out.trans ho)
 replace HR := tuck hrd
 clear hrd ho
 generalize w2.heap.size = go at *
 obtain ⟨zt, t0, t1, t2, tf⟩ := HT.out.facts
 obtain ⟨zy, y0, y1, y2, yf⟩ := HY.out.facts
 by_cases h0 : v = 0
 ·have g0 : (v == 0) = true := by simpa using h0
  have HL := tuck (ints_new [0, 17, 1, 5, 6] w4 3)
  go_wp2_with fail
  refine (num_any (N := fun i => ([0, 17, 1, 5, 6] : List Int).getD i 0) (o2 := 0) (n := 5) _ hlen (by omega) (by omega) (by omega) (HR.out.below (below1 _ _)) ((HBY.out.only HO.out hbg).below (below1 _ _)) hbg HL.out (by have := HO.out.size; omega)).mono ?_
  rintro e w5 ⟨i1, hi1, he, hrd, ho⟩
  obtain ⟨x, hx⟩ : ∃ x : Int, x = ([0, 17, 1, 5, 6] : List Int).getD i1 0 := ⟨_, rfl⟩
  obtain rfl : e = .returned (.int .i64 x) := by rw [hx]; exact he
  clear he hx HL
  replace HSO := tuck ((HSO.out.below (fun y hy => by have := (HGB.out y hy).2; omega) (below1 w4 (.cells #[.int .i64 0, .int .i64 17, .int .i64 1, .int .i64 5, .int .i64 6] 3))).only ho (fun y hy => ⟨by have := (HGB.out y hy).2; have := (below1 w4 (.cells #[.int .i64 0, .int .i64 17, .int .i64 1, .int .i64 5, .int .i64 6] 3)).size; omega, by have := (HGB.out y hy).1; omega⟩))
  replace HY := tuck ((HY.out.below (below1 w4 (.cells #[.int .i64 0, .int .i64 17, .int .i64 1, .int .i64 5, .int .i64 6] 3))).only ho (by omega))
  replace HT := tuck ((HT.out.below (below1 w4 (.cells #[.int .i64 0, .int .i64 17, .int .i64 1, .int .i64 5, .int .i64 6] 3))).only ho hgo)
  replace HO := tuck ((HO.out.alloc (.cells #[.int .i64 0, .int .i64 17, .int .i64 1, .int .i64 5, .int .i64 6] 3)).trans ho)
  replace HR := tuck hrd
  clear hrd ho zt t0 t1 t2 tf zy y0 y1 y2 yf
  obtain ⟨zt, t0, t1, t2, tf⟩ := HT.out.facts
  obtain ⟨zy, y0, y1, y2, yf⟩ := HY.out.facts
  have HSO6 := tuck (HSO.out.keep (w' := w5.setCell ⟨go, 0, none⟩ (.int .i64 x)) (fun y hy => sameAt_set (by have := (HGB.out y hy).2; show y ≠ go; omega)))
  go_wp2_with fail
  refine bodyPost_ret (v := .agg #[.int .i64 (x), .int .i64 (t.num), .slice a2 t.kids.length c2]) (by simp [results, Tryz.results28, go_sem, *]) rfl (HPOST.out _ _ (t.kids) _ _ (p + 1 + 1) ?_ ?_ (by omega) ?_ ?_)
  ·exact (HSO6.out.set3 (fun h => by have := (HGB.out _ h).1; omega) _ _ _ _ _ _).sl (fun y hy => by have := (HGB.out y hy).1; omega)
  ·omega
  ·exact (((HR.out.far (i := 0) (u := .int .i64 x) hgo).far (show w.heap.size + 1 ≠ g by omega)).far (show w.heap.size + 1 ≠ g by omega)).far (show w.heap.size + 1 ≠ g by omega)
  ·exact (((HO.out.setCell (p := ⟨go, 0, none⟩) (Or.inr (by show w.heap.size ≤ go; omega)) (.int .i64 x)).setCell (Or.inr (Nat.le_succ _)) _).setCell (Or.inr (Nat.le_succ _)) _).setCell (Or.inr (Nat.le_succ _)) _
 have g0 : (v == 0) = false := by simpa using h0
 by_cases h1 : v = 1
 ·have g1 : (v == 1) = true := by simpa using h1
  have HL := tuck (ints_new [21, -1, 1, 9223372036854775807] w4 3)
  go_wp2_with fail
  refine (num_any (N := fun i => ([21, -1, 1, 9223372036854775807] : List Int).getD i 0) (o2 := 0) (n := 4) _ hlen (by omega) (by omega) (by omega) (HR.out.below (below1 _ _)) ((HBY.out.only HO.out hbg).below (below1 _ _)) hbg HL.out (by have := HO.out.size; omega)).mono ?_
  rintro e w5 ⟨i1, hi1, he, hrd, ho⟩
  obtain ⟨x, hx⟩ : ∃ x : Int, x = ([21, -1, 1, 9223372036854775807] : List Int).getD i1 0 := ⟨_, rfl⟩
  obtain rfl : e = .returned (.int .i64 x) := by rw [hx]; exact he
  clear he hx HL
  replace HSO := tuck ((HSO.out.below (fun y hy => by have := (HGB.out y hy).2; omega) (below1 w4 (.cells #[.int .i64 21, .int .i64 (-1), .int .i64 1, .int .i64 9223372036854775807] 3))).only ho (fun y hy => ⟨by have := (HGB.out y hy).2; have := (below1 w4 (.cells #[.int .i64 21, .int .i64 (-1), .int .i64 1, .int .i64 9223372036854775807] 3)).size; omega, by have := (HGB.out y hy).1; omega⟩))
  replace HY := tuck ((HY.out.below (below1 w4 (.cells #[.int .i64 21, .int .i64 (-1), .int .i64 1, .int .i64 9223372036854775807] 3))).only ho (by omega))
  replace HT := tuck ((HT.out.below (below1 w4 (.cells #[.int .i64 21, .int .i64 (-1), .int .i64 1, .int .i64 9223372036854775807] 3))).only ho hgo)
  replace HO := tuck ((HO.out.alloc (.cells #[.int .i64 21, .int .i64 (-1), .int .i64 1, .int .i64 9223372036854775807] 3)).trans ho)
  replace HR := tuck hrd
  clear hrd ho zt t0 t1 t2 tf zy y0 y1 y2 yf
  obtain ⟨zt, t0, t1, t2, tf⟩ := HT.out.facts
  obtain ⟨zy, y0, y1, y2, yf⟩ := HY.out.facts
  have HSO6 := tuck (HSO.out.keep (w' := w5.setCell ⟨go, 1, none⟩ (.int .i64 x)) (fun y hy => sameAt_set (by have := (HGB.out y hy).2; show y ≠ go; omega)))
  go_wp2_with fail
  refine bodyPost_ret (v := .agg #[.int .i64 (t.kind), .int .i64 (x), .slice a2 t.kids.length c2]) (by simp [results, Tryz.results28, go_sem, *]) rfl (HPOST.out _ _ (t.kids) _ _ (p + 1 + 1) ?_ ?_ (by omega) ?_ ?_)
  ·exact (HSO6.out.set3 (fun h => by have := (HGB.out _ h).1; omega) _ _ _ _ _ _).sl (fun y hy => by have := (HGB.out y hy).1; omega)
  ·omega
  ·exact (((HR.out.far (i := 1) (u := .int .i64 x) hgo).far (show w.heap.size + 1 ≠ g by omega)).far (show w.heap.size + 1 ≠ g by omega)).far (show w.heap.size + 1 ≠ g by omega)
  ·exact (((HO.out.setCell (p := ⟨go, 1, none⟩) (Or.inr (by show w.heap.size ≤ go; omega)) (.int .i64 x)).setCell (Or.inr (Nat.le_succ _)) _).setCell (Or.inr (Nat.le_succ _)) _).setCell (Or.inr (Nat.le_succ _)) _
 have g1 : (v == 1) = false := by simpa using h1
 by_cases h2 : v = 2
 ·have g2 : (v == 2) = true := by simpa using h2
  have hll := length_le_sizes t.kids
  obtain ⟨i0, hi0, hz0', hz1, hz2'⟩ := info_parts info_termG
  have hq4 : t.kids.length + 1 ≤ maxLen := by unfold maxLen; omega
  have hqb : (t.kids.length + 1) * 40 ≤ 140737488355328 := by omega
  go_wp2_with fail
  have HT12 : ∀ w' : World, (fun w' : World => w'.cell? ⟨go, 2, none⟩ = some (.slice a2 t.kids.length c2)) w' → (fun _ : World => True) w' := fun _ _ => trivial
  refine AnyTwo.begin (fun w' : World => w'.cell? ⟨go, 2, none⟩ = some (.slice a2 t.kids.length c2)) (fun _ : World => True) 4 (by kernel_rfl) ?_
  have hS1 : (fun w' : World => w'.cell? ⟨go, 2, none⟩ = some (.slice a2 t.kids.length c2)) w4.drew := t2
  refine AnyTwo.tk HT12 (i := 0) (oi := ⟨some 24, _, _, _, _, _⟩) rfl (ph_one (by kernel_rfl) hS1) ?_
  try simp only [pts]
  refine AnyTwo.take (i := 1) (oi := ⟨some 25, _, _, _, _, _⟩) (v := ?va1) rfl (by kernel_rfl) (by kernel_rfl) (by decide +kernel) (by kernel_rfl) (by rfl) (by kernel_rfl) (fun _ _ _ h => h) (Or.inl ⟨by rfl, ?ya1⟩) hS1 ?ra1
  case ya1 => (intro w hSw; (try dsimp only at hSw); go_simp; try (with_reducible rfl))
  try simp only [pts]
  refine AnyTwo.step (i := 2) (o := ⟨some 26, _, _, _, _, _⟩) (by kernel_rfl) rfl (fun KK hK => ?_)
  go_simp
  refine (leafS_any 7 0 _).mono ?_
  rintro e3 w5 ⟨rfl, hb5⟩
  have hbd : Below w4.heap.size w4 w5 := bAfter (Below.refl w4.heap.size w4).drew hb5
  have HT5 := tuck (HT.out.below hbd)
  have HY5 := tuck (HY.out.below hbd)
  obtain ⟨z7', d70, d71, d72, d7f⟩ := HT5.out.facts
  have HRG4 := tuck ((HRG.out.below hbd).below (below1 w5 (.cells #[.int .i64 7, .int .i64 0, .slice none 0 0] 25)))
  have HO5 := tuck (HO.out.of_below hbd)
  have HR5 := tuck (HR.out.below hbd)
  obtain ⟨xs, hox, hpush⟩ := HRG4.out.grow rfl
  have HOX := tuck hox
  have HPUSH := tuck hpush
  have hz45 : w4.heap.size ≤ w5.heap.size := hbd.size
  have d72' := ((below1 w5 (.cells #[.int .i64 7, .int .i64 0, .slice none 0 0] 25)).cell (p := ⟨go, 2, none⟩) z7').trans d72
  have HZ4 : Hid (go < (w5.alloc (.cells #[.int .i64 7, .int .i64 0, .slice none 0 0] 25)).heap.size) := tuck (Nat.lt_of_lt_of_le z7' (below1 w5 _).size)
  have hlo := HRG.out.lt
  have HLO := tuck hlo
  clear hox hpush hbd hb5 hlo
  have hS1' : (fun w' : World => w'.cell? ⟨go, 2, none⟩ = some (.slice a2 t.kids.length c2)) _ := d72
  refine hK.out _ _ (ph_one (by kernel_rfl) hS1') ?_
  clear hK KK hS1
  have hS1 := hS1'
  clear hS1'
  try simp only [pts]
  refine AnyTwo.step (i := 3) (o := ⟨some 27, _, _, _, _, _⟩) (by kernel_rfl) rfl (fun KK hK => ?_)
  go_simp
  have hS1' : (fun w' : World => w'.cell? ⟨go, 2, none⟩ = some (.slice a2 t.kids.length c2)) _ := d72'
  refine hK.out _ _ (ph_one (by kernel_rfl) hS1') ?_
  clear hK KK hS1
  have hS1 := hS1'
  clear hS1'
  try simp only [pts]
  refine AnyTwo.step (i := 4) (o := ⟨some 28, _, _, _, _, _⟩) (by kernel_rfl) rfl (fun KK hK => ?_)
  refine step_append_lies _ (by rfl) _ _ _ (by rfl) base 25 i0 _ 3 40 Tryz.underlying23 hi0 hz0' hz1 hz2' rfl (by omega) _ _ _ (by rfl) HOX.out ⟨w5.heap.size, 0, none⟩ 1 1 [.int .i64 7, .int .i64 0, .slice none 0 0] (by rfl) (by rfl) (World.news_of_block (cs := #[.int .i64 7, .int .i64 0, .slice none 0 0]) (t := 25) (fr := (0, 0)) (heap_new w5 _)) (by simp [Value.oneCell']) (by omega) hq4 hqb (by simp; omega) (w5.heap.size + 1) (by simp) ?_
  intro gg gcap w6 hown4 hgrow hat hlt4
  have hne : some go ≠ (Value.slice a2 t.kids.length c2).ownBlock := fun e => by have := (HLT.out go e.symm).2; omega
  have k70 := (hgrow.cell_far ⟨go, 2, none⟩ HZ4.out hne).trans d72'
  have k7f := (hgrow.frozen_far ⟨go, 2, none⟩ HZ4.out hne).trans (((below1 w5 _).frozen (p := ⟨go, 2, none⟩) z7').trans (d7f 2))
  refine hK.out _ _ (ph_end (by kernel_rfl) trivial) ?_
  clear hK KK
  try simp only [pts]
  refine AnyTwo.tk HT12 (i := 5) (oi := ⟨some 29, _, _, _, _, _⟩) rfl (ph_end (by kernel_rfl) trivial) ?_
  try simp only [pts]
  refine AnyTwo.step (i := 6) (o := ⟨none, _, _, _, _, _⟩) (by kernel_rfl) rfl (fun KK hK => ?_)
  go_simp
  refine hK.out _ _ (ph_end (by kernel_rfl) trivial) ?_
  clear hK KK
  try simp only [pts]
  refine AnyTwo.done (by kernel_rfl) ?_ _
  clear hS1 HT12 k70 k7f d70 d71 d72 d7f d72'
  have hney : some (w.heap.size + 1) ≠ (Value.slice a2 t.kids.length c2).ownBlock := fun e => by have := (HLT.out _ e.symm).1; omega
  have hneg : some g ≠ (Value.slice a2 t.kids.length c2).ownBlock := fun e => by have := (HLT.out _ e.symm).1; omega
  have hoA : Only g w w6 := (HO5.out.alloc (.cells #[.int .i64 7, .int .i64 0, .slice none 0 0] 25)).grown hgrow (fun x hx => by have := (HLT.out x hx).1; omega)
  have HT7 := tuck ((((HT5.out.below (below1 w5 (.cells #[.int .i64 7, .int .i64 0, .slice none 0 0] 25))).grown hgrow hne)).set2 (s' := .slice (some ⟨gg, 0, none⟩) (t.kids.length + 1) gcap))
  have HY7 := tuck ((((HY5.out.below (below1 w5 (.cells #[.int .i64 7, .int .i64 0, .slice none 0 0] 25))).grown hgrow hney)).far (p := ⟨go, 2, none⟩) (by show w.heap.size + 1 ≠ go; omega) (.slice (some ⟨gg, 0, none⟩) (t.kids.length + 1) gcap))
  have hr6 : Rd g a len cap (p + 1) w6 := (hgrow.block g (Nat.lt_of_lt_of_le HR5.out.facts.1 (below1 w5 _).size) hneg).trans (HR5.out.below (below1 w5 (.cells #[.int .i64 7, .int .i64 0, .slice none 0 0] 25)))
  have HR7 := tuck (hr6.far (i := 2) (u := .slice (some ⟨gg, 0, none⟩) (t.kids.length + 1) gcap) hgo)
  have HO7 := tuck (hoA.setCell (p := ⟨go, 2, none⟩) (Or.inr (by show w.heap.size ≤ go; omega)) (.slice (some ⟨gg, 0, none⟩) (t.kids.length + 1) gcap))
  have hrow := HPUSH.out _ _ [] w6 (.mk 7 0 []) (SlOwn.nil _ _ _) List.nodup_nil (fun x hx => by cases hx) hown4 hgrow (hat.imp (fun h => h.symm) (fun h => by rw [h]; simp [Value.ownBlock]))
  have hrow7 := hrow.keep (w' := w6.setCell ⟨go, 2, none⟩ (.slice (some ⟨gg, 0, none⟩) (t.kids.length + 1) gcap)) (by simp [World.setCell]) (fun x hx => Below.heap_setCell w6 ⟨go, 2, none⟩ _ x (fun e => by
   have hz4 := HZ4.out
   rcases hx with hx | hx
   ·rcases hat with h | h
    ·have := (HLT.out x (h.trans hx)).2
     exact absurd e (by show x ≠ go; omega)
    ·simp [Value.ownBlock] at hx
     subst h
     exact absurd e (by show _ ≠ go; simp at hz4 ⊢; omega)
   ·rw [List.append_nil] at hx
    have := (HFB.out x hx).2.1
    exact absurd e (by show x ≠ go; omega)))
  obtain ⟨G2, hG2, hG2n, hG2b⟩ := hrow7.done (by simp; unfold maxLen; omega)
  have HG2 := tuck hG2
  have HG2B := tuck hG2b
  clear hrow hrow7 hG2 hG2n hG2b hoA hr6 zt t0 t1 t2 tf zy y0 y1 y2 yf z7'
  obtain ⟨zt, t0, t1, t2, tf⟩ := HT7.out.facts
  obtain ⟨zy, y0, y1, y2, yf⟩ := HY7.out.facts
  go_wp2_with fail
  refine bodyPost_ret (v := .agg #[.int .i64 (t.kind), .int .i64 (t.num), .slice (some ⟨gg, 0, none⟩) (t.kids.length + 1) gcap]) (by simp [results, Tryz.results28, go_sem, *]) rfl (HPOST.out _ _ (t.kids ++ [.mk 7 0 []]) _ _ (p + 1) ?_ ?_ (by omega) ?_ ?_)
  ·exact (HG2.out.set3 (fun h => by have := (HG2B.out _ h).1; omega) _ _ _ _ _ _).sl (fun y hy => by have := (HG2B.out y hy).1; omega)
  ·rw [sizes_append]; simp only [sizes, Tm.size]; omega
  ·exact ((HR7.out.far (show w.heap.size + 1 ≠ g by omega)).far (show w.heap.size + 1 ≠ g by omega)).far (show w.heap.size + 1 ≠ g by omega)
  ·exact ((HO7.out.setCell (Or.inr (Nat.le_succ _)) _).setCell (Or.inr (Nat.le_succ _)) _).setCell (Or.inr (Nat.le_succ _)) _
 have g2 : (v == 2) = false := by simpa using h2
 by_cases h3 : v = 3
 ·have g3 : (v == 3) = true := by simpa using h3
  obtain ⟨-, n0, n1, n2, -⟩ := (VarAt.new w4 t.kind t.num (.slice a2 t.kids.length c2)).facts
  have hz4 : go < w4.heap.size := zt
  have hks : SlIn (w4.alloc (.cells #[.int .i64 t.kind, .int .i64 t.num, .slice a2 t.kids.length c2] 25)) (w.heap.size + 1 + 1) t.kids (.slice a2 t.kids.length c2) := (HSO.out.below (fun y hy => by have := (HGB.out y hy).2; omega) (below1 w4 (.cells #[.int .i64 t.kind, .int .i64 t.num, .slice a2 t.kids.length c2] 25))).sl (fun y hy => by have := (HGB.out y hy).1; omega)
  have hrow1 : SlIn (w4.alloc (.cells #[.int .i64 t.kind, .int .i64 t.num, .slice a2 t.kids.length c2] 25)) (w.heap.size + 1 + 1) [t] (.slice (some ⟨w4.heap.size, 0, none⟩) 1 1) := ⟨some ⟨w4.heap.size, 0, none⟩, 1, w4.heap.size, 0, rfl, by simp [maxLen], fun _ => ⟨rfl, by omega⟩, RowAt.of_get (fun i hi => by
   have hi0 : i = 0 := by simp at hi; exact hi
   subst hi0
   exact TmAt_iff.2 ⟨_, n0, n1, n2, hks⟩)⟩
  have HNO := tuck (node_any (w.heap.size + 1 + 1) 8 [t] _ _ (by simp) (by simp; omega) (by simp) hrow1)
  clear n0 n1 n2 hks hrow1
  go_wp2_with fail
  refine HNO.out.mono ?_
  rintro e w5 ⟨s, rfl, hsl, hb5⟩
  obtain ⟨sa, sc, rfl⟩ := hsl.form
  have hbd := bAfter (below1 w4 (.cells #[.int .i64 t.kind, .int .i64 t.num, .slice a2 t.kids.length c2] 25)) hb5
  replace HY := tuck (HY.out.below hbd)
  replace HO := tuck (HO.out.of_below hbd)
  replace HR := tuck (HR.out.below hbd)
  have HSL := tuck hsl
  clear hsl hb5 hbd HNO zy y0 y1 y2 yf
  obtain ⟨zy, y0, y1, y2, yf⟩ := HY.out.facts
  have hts := t.size_eq
  go_wp2_with fail
  refine bodyPost_ret (v := .agg #[.int .i64 (8), .int .i64 (0), .slice sa [t].length sc]) (by simp [results, Tryz.results28, go_sem, *]) rfl (HPOST.out _ _ ([t]) _ _ (p + 1) ?_ ?_ (by omega) ?_ ?_)
  ·exact (HSL.out.set3 (by omega)).mono (by omega)
  ·simp only [sizes]; omega
  ·exact ((HR.out.far (show w.heap.size + 1 ≠ g by omega)).far (show w.heap.size + 1 ≠ g by omega)).far (show w.heap.size + 1 ≠ g by omega)
  ·exact ((HO.out.setCell (Or.inr (Nat.le_succ _)) _).setCell (Or.inr (Nat.le_succ _)) _).setCell (Or.inr (Nat.le_succ _)) _
 have g3 : (v == 3) = false := by simpa using h3
 by_cases h4 : v = 4
 ·have g4 : (v == 4) = true := by simpa using h4
  by_cases hk0 : 0 < t.kids.length
  rotate_left
  ·have gk : decide ((0 : Int) < (t.kids.length : Int)) = false := decide_eq_false (by omega)
   go_wp2_with fail
   refine bodyPost_ret (v := .agg #[.int .i64 (t.kind), .int .i64 (t.num), .slice a2 t.kids.length c2]) (by simp [results, Tryz.results28, go_sem, *]) rfl (HPOST.out _ _ (t.kids) _ _ (p + 1) ?_ ?_ (by omega) ?_ ?_)
   ·exact (HSO.out.set3 (fun h => by have := (HGB.out _ h).1; omega) _ _ _ _ _ _).sl (fun y hy => by have := (HGB.out y hy).1; omega)
   ·omega
   ·exact ((HR.out.far (show w.heap.size + 1 ≠ g by omega)).far (show w.heap.size + 1 ≠ g by omega)).far (show w.heap.size + 1 ≠ g by omega)
   ·exact ((HO.out.setCell (Or.inr (Nat.le_succ _)) _).setCell (Or.inr (Nat.le_succ _)) _).setCell (Or.inr (Nat.le_succ _)) _
  have gk : decide ((0 : Int) < (t.kids.length : Int)) = true := decide_eq_true (by omega)
  obtain ⟨x, lt, hxl⟩ : ∃ x lt, t.kids = x :: lt := by
   cases hh : t.kids with
   | nil => rw [hh] at hk0; simp at hk0
   | cons x lt => exact ⟨x, lt, rfl⟩
  have hll : t.kids.length = lt.length + 1 := by rw [hxl]; rfl
  obtain ⟨gr, hgr, rfl⟩ : ∃ gr, gr ∈ G ∧ a2 = some ⟨gr, 0, none⟩ := by
   have h1 := HSO.out
   rw [hxl] at h1
   obtain ⟨gr, cap', e, hm, -⟩ := put0 (k := 1) (n := 25) (B := 0) h1 HND.out (fun _ _ => Nat.zero_le _)
   injection e with e1
   exact ⟨gr, hm, e1⟩
  have hgrb := HGB.out gr hgr
  have hkl : (0 : Int) < (t.kids.length : Int) := by omega
  go_wp2_with fail
  have HT12 : ∀ w' : World, (fun w' : World => w'.cell? ⟨go, 2, none⟩ = some (.slice (some ⟨gr, 0, none⟩) t.kids.length c2)) w' → (fun w' : World => w'.cell? ⟨go, 2, none⟩ = some (.slice (some ⟨gr, 0, none⟩) t.kids.length c2)) w' := fun _ h => h
  refine AnyTwo.begin (fun w' : World => w'.cell? ⟨go, 2, none⟩ = some (.slice (some ⟨gr, 0, none⟩) t.kids.length c2)) (fun w' : World => w'.cell? ⟨go, 2, none⟩ = some (.slice (some ⟨gr, 0, none⟩) t.kids.length c2)) 4 (by kernel_rfl) ?_
  have hS1 : (fun w' : World => w'.cell? ⟨go, 2, none⟩ = some (.slice (some ⟨gr, 0, none⟩) t.kids.length c2)) w4.drew := t2
  refine AnyTwo.tk HT12 (i := 0) (oi := ⟨some 41, _, _, _, _, _⟩) rfl (ph_one (by kernel_rfl) hS1) ?_
  try simp only [pts]
  refine AnyTwo.tk HT12 (i := 1) (oi := ⟨some 42, _, _, _, _, _⟩) rfl (ph_one (by kernel_rfl) hS1) ?_
  try simp only [pts]
  refine AnyTwo.step (i := 2) (o := ⟨some 43, _, _, _, _, _⟩) (by kernel_rfl) rfl (fun KK hK => ?_)
  go_simp
  refine (leafS_any 1 25 _).mono ?_
  rintro e3 w5 ⟨rfl, hb5⟩
  have hbd : Below w4.heap.size w4 w5 := bAfter (Below.refl w4.heap.size w4).drew hb5
  have HT5 := tuck (HT.out.below hbd)
  have HY5 := tuck (HY.out.below hbd)
  have HO5 := tuck (HO.out.of_below hbd)
  have HR5 := tuck (HR.out.below hbd)
  have HSO5 := tuck (HSO.out.below (fun y hy => by have := (HGB.out y hy).2; omega) hbd)
  obtain ⟨z7', d70, d71, d72, d7f⟩ := HT5.out.facts
  have hput : (∀ i, w5.frozen? ⟨gr, i, none⟩ = false) ∧ (∃ c0 c1 c2, w5.cell? ⟨gr, 0, none⟩ = some c0 ∧ w5.cell? ⟨gr, 1, none⟩ = some c1 ∧ w5.cell? ⟨gr, 2, none⟩ = some c2) ∧
    SlIn (((w5.setCell ⟨gr, 0, none⟩ (.int .i64 1)).setCell ⟨gr, 1, none⟩ (.int .i64 25)).setCell ⟨gr, 2, none⟩ (.slice none 0 0)) (w.heap.size + 1 + 1) (.mk 1 25 [] :: lt) (.slice (some ⟨gr, 0, none⟩) t.kids.length c2) := by
   have h1 := HSO5.out
   rw [hxl] at h1
   obtain ⟨gr', cap', e, hm, h2, h3, h4⟩ := put0 (k := 1) (n := 25) (B := w.heap.size + 1 + 1) h1 HND.out (fun y hy => by have := (HGB.out y hy).1; omega)
   injection e with e1 e2 e3
   injection e1 with e1
   injection e1 with e1
   subst e1
   rw [hxl]
   exact ⟨h2, h3, h4⟩
  obtain ⟨qf, ⟨q0, q1, q2, qc0, qc1, qc2⟩, hsl7⟩ := hput
  have HSL7 := tuck hsl7
  clear hsl7 hbd hb5
  have hS1' : (fun w' : World => w'.cell? ⟨go, 2, none⟩ = some (.slice (some ⟨gr, 0, none⟩) t.kids.length c2)) _ := d72
  refine hK.out _ _ (ph_one (by kernel_rfl) hS1') ?_
  clear hK KK hS1
  have hS1 := hS1'
  clear hS1'
  try simp only [pts]
  refine AnyTwo.tk HT12 (i := 3) (oi := ⟨some 44, _, _, _, _, _⟩) rfl (ph_one (by kernel_rfl) hS1) ?_
  try simp only [pts]
  refine AnyTwo.step (i := 4) (o := ⟨none, _, _, _, _, _⟩) (by kernel_rfl) rfl (fun KK hK => ?_)
  go_simp
  refine hK.out _ _ (ph_end (by kernel_rfl) ((World.cell?_setCell_far _ _ _ _ (by show gr ≠ go; omega)).trans ((World.cell?_setCell_far _ _ _ _ (by show gr ≠ go; omega)).trans ((World.cell?_setCell_far _ _ _ _ (by show gr ≠ go; omega)).trans d72)))) ?_
  clear hK KK
  try simp only [pts]
  refine AnyTwo.done (by kernel_rfl) ?_ _
  clear hS1 HT12 qf qc0 qc1 qc2 z7' d70 d71 d72 d7f zt t0 t1 t2 tf zy y0 y1 y2 yf
  have HT7 := tuck (((HT5.out.far (p := ⟨gr, 0, none⟩) (by show go ≠ gr; omega) (.int .i64 1)).far (p := ⟨gr, 1, none⟩) (by show go ≠ gr; omega) (.int .i64 25)).far (p := ⟨gr, 2, none⟩) (by show go ≠ gr; omega) (.slice none 0 0))
  have HY7 := tuck (((HY5.out.far (p := ⟨gr, 0, none⟩) (by show w.heap.size + 1 ≠ gr; omega) (.int .i64 1)).far (p := ⟨gr, 1, none⟩) (by show w.heap.size + 1 ≠ gr; omega) (.int .i64 25)).far (p := ⟨gr, 2, none⟩) (by show w.heap.size + 1 ≠ gr; omega) (.slice none 0 0))
  have HR7 := tuck (((HR5.out.far (i := 0) (u := .int .i64 1) (show gr ≠ g by omega)).far (i := 1) (u := .int .i64 25) (show gr ≠ g by omega)).far (i := 2) (u := .slice none 0 0) (show gr ≠ g by omega))
  have HO7 := tuck (((HO5.out.setCell (p := ⟨gr, 0, none⟩) (Or.inr (by show w.heap.size ≤ gr; omega)) (.int .i64 1)).setCell (p := ⟨gr, 1, none⟩) (Or.inr (by show w.heap.size ≤ gr; omega)) (.int .i64 25)).setCell (p := ⟨gr, 2, none⟩) (Or.inr (by show w.heap.size ≤ gr; omega)) (.slice none 0 0))
  generalize (((w5.setCell ⟨gr, 0, none⟩ (.int .i64 1)).setCell ⟨gr, 1, none⟩ (.int .i64 25)).setCell ⟨gr, 2, none⟩ (.slice none 0 0)) = W7 at *
  obtain ⟨zt, t0, t1, t2, tf⟩ := HT7.out.facts
  obtain ⟨zy, y0, y1, y2, yf⟩ := HY7.out.facts
  have hsl : sizes lt ≤ sizes t.kids := by rw [hxl]; simp only [sizes]; omega
  go_wp2_with fail
  refine bodyPost_ret (v := .agg #[.int .i64 (t.kind), .int .i64 (t.num), .slice (some ⟨gr, 0, none⟩) t.kids.length c2]) (by simp [results, Tryz.results28, go_sem, *]) rfl (HPOST.out _ _ (.mk 1 25 [] :: lt) _ _ (p + 1) ?_ ?_ (by omega) ?_ ?_)
  ·exact (HSL7.out.set3 (by omega)).mono (by omega)
  ·simp only [sizes, Tm.size]; omega
  ·exact ((HR7.out.far (show w.heap.size + 1 ≠ g by omega)).far (show w.heap.size + 1 ≠ g by omega)).far (show w.heap.size + 1 ≠ g by omega)
  ·exact ((HO7.out.setCell (Or.inr (Nat.le_succ _)) _).setCell (Or.inr (Nat.le_succ _)) _).setCell (Or.inr (Nat.le_succ _)) _
 have g4 : (v == 4) = false := by simpa using h4
 go_wp2_with fail
 refine bodyPost_ret (v := .agg #[.int .i64 (t.kind), .int .i64 (t.num), .slice a2 t.kids.length c2]) (by simp [results, Tryz.results28, go_sem, *]) rfl (HPOST.out _ _ (t.kids) _ _ (p + 1) ?_ ?_ (by omega) ?_ ?_)
 ·exact (HSO.out.set3 (fun h => by have := (HGB.out _ h).1; omega) _ _ _ _ _ _).sl (fun y hy => by have := (HGB.out y hy).1; omega)
 ·omega
 ·exact ((HR.out.far (show w.heap.size + 1 ≠ g by omega)).far (show w.heap.size + 1 ≠ g by omega)).far (show w.heap.size + 1 ≠ g by omega)
 ·exact ((HO.out.setCell (Or.inr (Nat.le_succ _)) _).setCell (Or.inr (Nat.le_succ _)) _).setCell (Or.inr (Nat.le_succ _)) _
theorem lmut_any {U : Nat → Int} {g b o len cap p : Nat} {a : Option Addr} (t : Tm) (w : World) (v : Value) (hlen : len ≤ 2000) (hbg : 0 < len → b ≠ g) (hp : p ≤ 90000) (hsz : sizes t.kids ≤ 900) (hrd : Rd g a len cap p w) (hby : Bytes U a b o len w) (hin : TmIn w 0 t v) :
  Calls Tryz.prog 28 #[.pointer (some ⟨g, 0, none⟩), v] w (MutPost g a len cap p w) :=
 (lmutS_any t w v hlen hbg hp hsz hrd hby hin).mono fun _ _ ⟨T, u, p', h1, h2, h3, h4⟩ => ⟨T, u, p', h1, h2, by omega, h4⟩
end Go.Proofs.YtlbikgnanabjgaaGreat
