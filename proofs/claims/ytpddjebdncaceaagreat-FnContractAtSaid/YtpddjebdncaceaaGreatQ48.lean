/-
  Pth.
-/
import Derived.Test.YtpddjebdncaceaaGreatQ40
import Derived.Test.YtpddjebdncaceaaGreatQ44
import Derived.Test.YtpddjebdncaceaaGreatQ47
namespace Go.Proofs.YtpddjebdncaceaaGreat
open Go.RowKit
theorem RowP.only {base g : Nat} {L : List ((Int → Int) × Nat)} {v : Value} {A B : World} (h : RowP base L v A) (ho : Only g A B) (hg : g < base) : RowP base L v B := by
 obtain ⟨vs, h1, h2, h3⟩ := h
 refine ⟨vs, h1, ⟨h2.1, ?_⟩, fun j hj => ?_⟩
 ·rcases h2.2 with hn | ⟨q, cap, cur, rfl, hb, hq, rest⟩
  ·exact Or.inl hn
  ·exact Or.inr ⟨q, cap, cur, rfl, hb, (ho.block q (block_of_cells hq).1 (fun e => by injection e with e; omega)).trans hq, rest⟩
 ·obtain ⟨u, k1, k2, k3⟩ := h3 j hj
  exact ⟨u, k1, k2.to fun b hx hb => ⟨hx, Nat.lt_of_lt_of_le hb ho.size, fun o => World.cell?_of_block (a := ⟨b, o, none⟩) (ho.block b hb (fun e => by injection e with e; exact hx (Or.inr (by omega))))⟩, k3⟩
theorem RowP.at {base c n : Nat} {L : List ((Int → Int) × Nat)} {a : Option Addr} {w : World} (h : RowP base L (.slice a n c) w) {j : Nat} (hj : j < L.length) : ∃ g, (a = some ⟨g, 0, none⟩ ∧ g < w.heap.size) ∧ base ≤ g ∧ ∃ ua uc, w.cell? ⟨g, j, none⟩ = some (.slice ua L[j].2 uc) ∧ IsX w (fun i => g = i ∨ i < base) L[j].1 L[j].2 (.slice ua L[j].2 uc) ∧ Sm (.slice ua L[j].2 uc) := by
 obtain ⟨a', cap, g, e, h⟩ := h.get
 injection e with e1 e2 e3
 subst e1
 obtain ⟨k1, k2, k3, k4⟩ := h j hj
 exact ⟨g, ⟨k1, k3⟩, k2, k4⟩
theorem IsX.intsC {w : World} {X : Nat → Prop} {B len : Nat} {N : Int → Int} {v : Value} (h : IsX w X N len v) (hX : ∀ b, ¬ X b → B ≤ b) : IntsC w B N len v := by
 obtain ⟨a, cap, b, o, rfl, hlc, h1, h2⟩ := h
 exact ⟨⟨a, cap, b, o, rfl, fun h0 => ⟨(h1 h0).1, hX b (h1 h0).2.1, (h1 h0).2.2⟩, h2⟩, a, cap, rfl, hlc⟩
theorem two_ints {B : Nat} (w : World) (y z : Int) (h : B ≤ w.heap.size) : IntsC (w.alloc (.cells #[.int .i64 y, .int .i64 z] 3)) B (fun j => if j = 0 then y else z) 2 (.slice (some ⟨w.heap.size, 0, none⟩) 2 2) :=
 ⟨⟨_, _, w.heap.size, 0, rfl, fun _ => ⟨rfl, h, by simp⟩, fun i hi => by
  rw [Nat.zero_add, World.cell?_alloc_new]
  have : i = 0 ∨ i = 1 := by omega
  rcases this with rfl | rfl <;> simp⟩, _, _, rfl, Nat.le_refl _⟩
def PathPost (g : Nat) (a : Option Addr) (len cap p : Nat) (w : World) (e : Ending) (w' : World) : Prop :=
 ∃ (N : Int → Int) (n p' vb vo vc : Nat), e = .returned (.slice (some ⟨vb, vo, none⟩) n vc) ∧ IntsC w' w.heap.size N n (.slice (some ⟨vb, vo, none⟩) n vc) ∧ n ≤ 1048576 ∧ p' ≤ p + 10 ∧ Rd g a len cap p' w' ∧ Only g w w'
set_option maxRecDepth 100000 in
set_option maxHeartbeats 4000000 in
theorem l8path_any (t : Tm) {U : Nat → Int} {g : Nat} {a : Option Addr} {b o len cap p : Nat} (w : World) (v : Value) (hlen : len ≤ 2000) (hbg : 0 < len → b ≠ g) (hp : p ≤ 80000) (hrd : Rd g a len cap p w) (hby : Bytes U a b o len w) (ht : TmIn w 0 t v) : Calls Tryz.prog 78 #[.pointer (some ⟨g, 0, none⟩), v] w (PathPost g a len cap p w) := by
 obtain ⟨s, rfl, hs⟩ := ht
 obtain ⟨sa, sc, rfl⟩ := hs.form
 have HP : Hid (∀ (N : Int → Int) (n p' vb vo vc : Nat) {w' : World}, IntsC w' w.heap.size N n (.slice (some ⟨vb, vo, none⟩) n vc) → n ≤ 1048576 → p' ≤ p + 10 → Rd g a len cap p' w' → Only g w w' → PathPost g a len cap p w (.returned (.slice (some ⟨vb, vo, none⟩) n vc)) w') := tuck fun N n p' vb vo vc w' h1 h2 h3 h4 h5 => ⟨N, n, p', vb, vo, vc, rfl, h1, h2, h3, h4, h5⟩
 generalize PathPost g a len cap p w = post at *
 have hgw := hrd.facts.1
 obtain ⟨pl, hpl⟩ : ∃ x, x = placesP false t := ⟨_, rfl⟩
 obtain ⟨rx, hrx⟩ : ∃ x, x = placesP true t := ⟨_, rfl⟩
 have HSP : Hid (∀ (W : World), SlIn W 0 t.kids (.slice sa t.kids.length sc) → Calls Tryz.prog 114 #[.agg #[.int .i64 t.kind, .int .i64 t.num, .slice sa t.kids.length sc]] W (LPost W pl)) := tuck fun W h => by rw [hpl]; exact placesOfS_any t W _ ⟨_, rfl, h⟩
 have HSR : Hid (∀ (W : World), SlIn W 0 t.kids (.slice sa t.kids.length sc) → Calls Tryz.prog 27 #[.agg #[.int .i64 t.kind, .int .i64 t.num, .slice sa t.kids.length sc]] W (LPost W rx)) := tuck fun W h => by rw [hrx]; exact redexPlacesS_any t W _ ⟨_, rfl, h⟩
 have hpl2 := placesP_small false t
 rw [← hpl] at hpl2
 have hrx2 := placesP_small true t
 rw [← hrx] at hrx2
 have plN := tuck hpl2.2.2
 have rxN := tuck hrx2.2.2
 have hpll : pl.length ≤ 1000 := by rw [hpl]; exact placesP_len false t
 have hrxl : rx.length ≤ 1000 := by rw [hrx]; exact placesP_len true t
 clear hpl hrx hpl2 hrx2
 have HS := tuck hs
 have HRD := tuck hrd
 have HBY := tuck hby
 have HV := tuck (VarAt.new w t.kind t.num (.slice sa t.kids.length sc))
 have HB := tuck (below1 w (.cells #[.int .i64 t.kind, .int .i64 t.num, .slice sa t.kids.length sc] 34))
 clear hs hrd hby
 go_enter Tryz.func78, Tryz.ntmps78
 go_wp2_with fail
 generalize w.alloc (.cells #[.int .i64 t.kind, .int .i64 t.num, .slice sa t.kids.length sc] 34) = W0 at *
 refine (HSP.out _ (HS.out.below HB.out)).mono ?_
 rintro e w1 ⟨hb1, v1, rfl, hr1⟩
 obtain ⟨pa, pc, rfl⟩ := hr1.form
 have HPL := tuck (hr1.base HB.out.size)
 replace HB := tuck (bAfter HB.out hb1)
 replace HV := tuck (HV.out.below hb1)
 clear hb1 hr1 HSP
 obtain ⟨zv, v0, v1, v2, vf⟩ := HV.out.facts
 go_wp2_with fail
 refine (HSR.out _ (HS.out.below HB.out)).mono ?_
 rintro e w2 ⟨hb2, v2', rfl, hr2⟩
 obtain ⟨ra, rc, rfl⟩ := hr2.form
 have HRX := tuck (hr2.base HB.out.size)
 replace HB := tuck (bAfter HB.out hb2)
 replace HPL := tuck (HPL.out.below hb2)
 have HO := tuck ((Only.refl g w).of_below HB.out)
 replace HRD := tuck (HRD.out.below HB.out)
 replace HBY := tuck (HBY.out.below HB.out)
 clear hb2 hr2 HSR zv v0 v1 v2 vf HV HS HB
 by_cases hr0 : 0 < rx.length
 ·have hri : decide ((0 : Int) < (rx.length : Int)) = true := decide_eq_true (by omega)
  go_wp2_with fail
  refine (pick_any (n := 2) _ hlen (by omega) (by omega) (by omega) HRD.out HBY.out hbg).mono ?_
  rintro e w3 ⟨x3, rfl, hx3, hx4, hrd, ho⟩
  replace HO := tuck (HO.out.trans ho)
  replace HBY := tuck (HBY.out.only ho hbg)
  replace HPL := tuck (HPL.out.only ho hgw)
  replace HRX := tuck (HRX.out.only ho hgw)
  replace HRD := tuck hrd
  clear ho hrd
  by_cases hx0 : x3 = 0
  ·have hxi : (x3 == 0) = true := by rw [beq_iff_eq]; exact hx0
   go_wp2_with fail
   refine (pick_any (n := (rx.length : Int)) _ hlen (by omega) (by omega) (by omega) HRD.out HBY.out hbg).mono ?_
   rintro e w9 ⟨x, rfl, hx0, hx1, hrd, ho⟩
   obtain ⟨q, rfl⟩ : ∃ q : Nat, x = q := ⟨x.toNat, by omega⟩
   have hq : q < rx.length := by omega
   obtain ⟨rg, hrg, -, ua, uc, k1, k2, k3⟩ := (HRX.out.only ho hgw).at hq
   obtain ⟨rfl, hrgl⟩ := hrg
   obtain ⟨pb, po, pn, pc9, he3⟩ := k3
   injection he3 with e1 e2 e3
   subst e1
   have HI := tuck (k2.intsC (B := w.heap.size) fun b hb => Nat.le_of_not_lt fun h => hb (Or.inr h))
   have HN := tuck (rxN.out _ (List.getElem_mem hq))
   have HO9 := tuck (HO.out.trans ho)
   have HRD9 := tuck hrd
   generalize rx[q] = y at *
   obtain ⟨yN, yn⟩ := y
   clear k2 e2 e3 ho hrd HRD HO hx1
   go_wp2_with fail
   exact HP.out _ _ _ _ _ _ HI.out HN.out (by omega) HRD9.out HO9.out
  ·have hxi : (x3 == 0) = false := by rw [beq_eq_false_iff_ne]; exact hx0
   by_cases hp0 : 0 < pl.length
   ·have hpi : decide ((0 : Int) < (pl.length : Int)) = true := decide_eq_true (by omega)
    go_wp2_with fail
    refine (pick_any (n := 10) _ hlen (by omega) (by omega) (by omega) HRD.out HBY.out hbg).mono ?_
    rintro e w5 ⟨x5, rfl, hx5, hx6, hrd, ho⟩
    replace HO := tuck (HO.out.trans ho)
    replace HBY := tuck (HBY.out.only ho hbg)
    replace HPL := tuck (HPL.out.only ho hgw)
    replace HRD := tuck hrd
    clear ho hrd
    by_cases hx7 : 0 < x5
    ·have hxi : decide ((0 : Int) < x5) = true := decide_eq_true hx7
     go_wp2_with fail
     refine (pick_any (n := (pl.length : Int)) _ hlen (by omega) (by omega) (by omega) HRD.out HBY.out hbg).mono ?_
     rintro e w9 ⟨x, rfl, hx0, hx1, hrd, ho⟩
     obtain ⟨q, rfl⟩ : ∃ q : Nat, x = q := ⟨x.toNat, by omega⟩
     have hq : q < pl.length := by omega
     obtain ⟨rg, hrg, -, ua, uc, k1, k2, k3⟩ := (HPL.out.only ho hgw).at hq
     obtain ⟨rfl, hrgl⟩ := hrg
     obtain ⟨pb, po, pn, pc9, he3⟩ := k3
     injection he3 with e1 e2 e3
     subst e1
     have HI := tuck (k2.intsC (B := w.heap.size) fun b hb => Nat.le_of_not_lt fun h => hb (Or.inr h))
     have HN := tuck (plN.out _ (List.getElem_mem hq))
     have HO9 := tuck (HO.out.trans ho)
     have HRD9 := tuck hrd
     generalize pl[q] = y at *
     obtain ⟨yN, yn⟩ := y
     clear k2 e2 e3 ho hrd HRD HO hx1
     go_wp2_with fail
     exact HP.out _ _ _ _ _ _ HI.out HN.out (by omega) HRD9.out HO9.out
    ·have hxi : decide ((0 : Int) < x5) = false := decide_eq_false hx7
     go_wp2_with fail
     refine (num_any (N := fun i => ([0, 1, 4, -1] : List Int).getD i 0) (o2 := 0) (n := 4) _ hlen (by omega) (by omega) (by omega) (HRD.out.below (below1 _ _)) (HBY.out.below (below1 _ _)) hbg (ints_new [0, 1, 4, -1] _ 3) (Nat.ne_of_gt HRD.out.facts.1)).mono ?_
     rintro e w7y ⟨i7, hi7, he7, hrd, ho⟩
     obtain ⟨y, hy7⟩ : ∃ y : Int, y = ([0, 1, 4, -1] : List Int).getD i7 0 := ⟨_, rfl⟩
     obtain rfl : e = .returned (.int .i64 y) := by rw [hy7]; exact he7
     replace HO := tuck ((HO.out.alloc _).trans ho)
     replace HBY := tuck ((HBY.out.below (below1 _ _)).only ho hbg)
     replace HRD := tuck hrd
     clear ho hrd hi7 he7 hy7
     go_wp2_with fail
     refine (num_any (N := fun i => ([0, 1, 9223372036854775807] : List Int).getD i 0) (o2 := 0) (n := 3) _ hlen (by omega) (by omega) (by omega) (HRD.out.below (below1 _ _)) (HBY.out.below (below1 _ _)) hbg (ints_new [0, 1, 9223372036854775807] _ 3) (Nat.ne_of_gt HRD.out.facts.1)).mono ?_
     rintro e w7z ⟨i7, hi7, he7, hrd, ho⟩
     obtain ⟨z, hy7⟩ : ∃ y : Int, y = ([0, 1, 9223372036854775807] : List Int).getD i7 0 := ⟨_, rfl⟩
     obtain rfl : e = .returned (.int .i64 z) := by rw [hy7]; exact he7
     replace HO := tuck ((HO.out.alloc _).trans ho)
     replace HBY := tuck ((HBY.out.below (below1 _ _)).only ho hbg)
     replace HRD := tuck hrd
     clear ho hrd hi7 he7 hy7
     go_wp2_with fail
     exact HP.out _ _ _ _ _ _ (two_ints _ y z HO.out.size) (by omega) (by omega) (HRD.out.below (below1 _ _)) (HO.out.alloc _)
   ·have hpi : decide ((0 : Int) < (pl.length : Int)) = false := decide_eq_false (by omega)
    go_wp2_with fail
    refine (num_any (N := fun i => ([0, 1, 4, -1] : List Int).getD i 0) (o2 := 0) (n := 4) _ hlen (by omega) (by omega) (by omega) (HRD.out.below (below1 _ _)) (HBY.out.below (below1 _ _)) hbg (ints_new [0, 1, 4, -1] _ 3) (Nat.ne_of_gt HRD.out.facts.1)).mono ?_
    rintro e w7y ⟨i7, hi7, he7, hrd, ho⟩
    obtain ⟨y, hy7⟩ : ∃ y : Int, y = ([0, 1, 4, -1] : List Int).getD i7 0 := ⟨_, rfl⟩
    obtain rfl : e = .returned (.int .i64 y) := by rw [hy7]; exact he7
    replace HO := tuck ((HO.out.alloc _).trans ho)
    replace HBY := tuck ((HBY.out.below (below1 _ _)).only ho hbg)
    replace HRD := tuck hrd
    clear ho hrd hi7 he7 hy7
    go_wp2_with fail
    refine (num_any (N := fun i => ([0, 1, 9223372036854775807] : List Int).getD i 0) (o2 := 0) (n := 3) _ hlen (by omega) (by omega) (by omega) (HRD.out.below (below1 _ _)) (HBY.out.below (below1 _ _)) hbg (ints_new [0, 1, 9223372036854775807] _ 3) (Nat.ne_of_gt HRD.out.facts.1)).mono ?_
    rintro e w7z ⟨i7, hi7, he7, hrd, ho⟩
    obtain ⟨z, hy7⟩ : ∃ y : Int, y = ([0, 1, 9223372036854775807] : List Int).getD i7 0 := ⟨_, rfl⟩
    obtain rfl : e = .returned (.int .i64 z) := by rw [hy7]; exact he7
    replace HO := tuck ((HO.out.alloc _).trans ho)
    replace HBY := tuck ((HBY.out.below (below1 _ _)).only ho hbg)
    replace HRD := tuck hrd
    clear ho hrd hi7 he7 hy7
    go_wp2_with fail
    exact HP.out _ _ _ _ _ _ (two_ints _ y z HO.out.size) (by omega) (by omega) (HRD.out.below (below1 _ _)) (HO.out.alloc _)
 ·have hri : decide ((0 : Int) < (rx.length : Int)) = false := decide_eq_false (by omega)
  by_cases hp0 : 0 < pl.length
  ·have hpi : decide ((0 : Int) < (pl.length : Int)) = true := decide_eq_true (by omega)
   go_wp2_with fail
   refine (pick_any (n := 10) _ hlen (by omega) (by omega) (by omega) HRD.out HBY.out hbg).mono ?_
   rintro e w5 ⟨x5, rfl, hx5, hx6, hrd, ho⟩
   replace HO := tuck (HO.out.trans ho)
   replace HBY := tuck (HBY.out.only ho hbg)
   replace HPL := tuck (HPL.out.only ho hgw)
   replace HRD := tuck hrd
   clear ho hrd
   by_cases hx7 : 0 < x5
   ·have hxi : decide ((0 : Int) < x5) = true := decide_eq_true hx7
    go_wp2_with fail
    refine (pick_any (n := (pl.length : Int)) _ hlen (by omega) (by omega) (by omega) HRD.out HBY.out hbg).mono ?_
    rintro e w9 ⟨x, rfl, hx0, hx1, hrd, ho⟩
    obtain ⟨q, rfl⟩ : ∃ q : Nat, x = q := ⟨x.toNat, by omega⟩
    have hq : q < pl.length := by omega
    obtain ⟨rg, hrg, -, ua, uc, k1, k2, k3⟩ := (HPL.out.only ho hgw).at hq
    obtain ⟨rfl, hrgl⟩ := hrg
    obtain ⟨pb, po, pn, pc9, he3⟩ := k3
    injection he3 with e1 e2 e3
    subst e1
    have HI := tuck (k2.intsC (B := w.heap.size) fun b hb => Nat.le_of_not_lt fun h => hb (Or.inr h))
    have HN := tuck (plN.out _ (List.getElem_mem hq))
    have HO9 := tuck (HO.out.trans ho)
    have HRD9 := tuck hrd
    generalize pl[q] = y at *
    obtain ⟨yN, yn⟩ := y
    clear k2 e2 e3 ho hrd HRD HO hx1
    go_wp2_with fail
    exact HP.out _ _ _ _ _ _ HI.out HN.out (by omega) HRD9.out HO9.out
   ·have hxi : decide ((0 : Int) < x5) = false := decide_eq_false hx7
    go_wp2_with fail
    refine (num_any (N := fun i => ([0, 1, 4, -1] : List Int).getD i 0) (o2 := 0) (n := 4) _ hlen (by omega) (by omega) (by omega) (HRD.out.below (below1 _ _)) (HBY.out.below (below1 _ _)) hbg (ints_new [0, 1, 4, -1] _ 3) (Nat.ne_of_gt HRD.out.facts.1)).mono ?_
    rintro e w7y ⟨i7, hi7, he7, hrd, ho⟩
    obtain ⟨y, hy7⟩ : ∃ y : Int, y = ([0, 1, 4, -1] : List Int).getD i7 0 := ⟨_, rfl⟩
    obtain rfl : e = .returned (.int .i64 y) := by rw [hy7]; exact he7
    replace HO := tuck ((HO.out.alloc _).trans ho)
    replace HBY := tuck ((HBY.out.below (below1 _ _)).only ho hbg)
    replace HRD := tuck hrd
    clear ho hrd hi7 he7 hy7
    go_wp2_with fail
    refine (num_any (N := fun i => ([0, 1, 9223372036854775807] : List Int).getD i 0) (o2 := 0) (n := 3) _ hlen (by omega) (by omega) (by omega) (HRD.out.below (below1 _ _)) (HBY.out.below (below1 _ _)) hbg (ints_new [0, 1, 9223372036854775807] _ 3) (Nat.ne_of_gt HRD.out.facts.1)).mono ?_
    rintro e w7z ⟨i7, hi7, he7, hrd, ho⟩
    obtain ⟨z, hy7⟩ : ∃ y : Int, y = ([0, 1, 9223372036854775807] : List Int).getD i7 0 := ⟨_, rfl⟩
    obtain rfl : e = .returned (.int .i64 z) := by rw [hy7]; exact he7
    replace HO := tuck ((HO.out.alloc _).trans ho)
    replace HBY := tuck ((HBY.out.below (below1 _ _)).only ho hbg)
    replace HRD := tuck hrd
    clear ho hrd hi7 he7 hy7
    go_wp2_with fail
    exact HP.out _ _ _ _ _ _ (two_ints _ y z HO.out.size) (by omega) (by omega) (HRD.out.below (below1 _ _)) (HO.out.alloc _)
  ·have hpi : decide ((0 : Int) < (pl.length : Int)) = false := decide_eq_false (by omega)
   go_wp2_with fail
   refine (num_any (N := fun i => ([0, 1, 4, -1] : List Int).getD i 0) (o2 := 0) (n := 4) _ hlen (by omega) (by omega) (by omega) (HRD.out.below (below1 _ _)) (HBY.out.below (below1 _ _)) hbg (ints_new [0, 1, 4, -1] _ 3) (Nat.ne_of_gt HRD.out.facts.1)).mono ?_
   rintro e w7y ⟨i7, hi7, he7, hrd, ho⟩
   obtain ⟨y, hy7⟩ : ∃ y : Int, y = ([0, 1, 4, -1] : List Int).getD i7 0 := ⟨_, rfl⟩
   obtain rfl : e = .returned (.int .i64 y) := by rw [hy7]; exact he7
   replace HO := tuck ((HO.out.alloc _).trans ho)
   replace HBY := tuck ((HBY.out.below (below1 _ _)).only ho hbg)
   replace HRD := tuck hrd
   clear ho hrd hi7 he7 hy7
   go_wp2_with fail
   refine (num_any (N := fun i => ([0, 1, 9223372036854775807] : List Int).getD i 0) (o2 := 0) (n := 3) _ hlen (by omega) (by omega) (by omega) (HRD.out.below (below1 _ _)) (HBY.out.below (below1 _ _)) hbg (ints_new [0, 1, 9223372036854775807] _ 3) (Nat.ne_of_gt HRD.out.facts.1)).mono ?_
   rintro e w7z ⟨i7, hi7, he7, hrd, ho⟩
   obtain ⟨z, hy7⟩ : ∃ y : Int, y = ([0, 1, 9223372036854775807] : List Int).getD i7 0 := ⟨_, rfl⟩
   obtain rfl : e = .returned (.int .i64 z) := by rw [hy7]; exact he7
   replace HO := tuck ((HO.out.alloc _).trans ho)
   replace HBY := tuck ((HBY.out.below (below1 _ _)).only ho hbg)
   replace HRD := tuck hrd
   clear ho hrd hi7 he7 hy7
   go_wp2_with fail
   exact HP.out _ _ _ _ _ _ (two_ints _ y z HO.out.size) (by omega) (by omega) (HRD.out.below (below1 _ _)) (HO.out.alloc _)
end Go.Proofs.YtpddjebdncaceaaGreat
