/-
  ContrE.
-/
import Derived.Test.YtlbikgnanabjgaaGreatQ25
import Derived.Test.YtlbikgnanabjgaaGreatQ26
namespace Go.Proofs.YtlbikgnanabjgaaGreat
open Go.RowKit
def descend : Tm → List Nat → Tm
 | t, [] => t
 | t, i :: p => descend (kidT t i) p
def WayOk : Tm → List Nat → Prop
 | _, [] => True
 | t, i :: p => i < t.kids.length ∧ WayOk (kidT t i) p
def PartPost (X : Nat → Prop) (w : World) (T : Tm) (e : Ending) (w' : World) : Prop :=
 Below w.heap.size w w' ∧ ∃ s, e = .returned (.tuple #[.agg #[.int .i64 T.kind, .int .i64 T.num, s], .bool true]) ∧ SlX w' X T.kids s
set_option maxRecDepth 100000 in
theorem part_any (p : List Nat) (t : Tm) (hok : WayOk t p) (hp : p.length ≤ 10) (w : World) (X : Nat → Prop) (s : Value) (hs : SlX w X t.kids s) (g cap : Nat) (hc : ∀ j (hj : j < p.length), w.cell? ⟨g, j, none⟩ = some (.int .i64 (p[j] : Int))) (hi : ∀ j (hj : j < p.length), p[j] ≤ 10) (hg : p ≠ [] → g < w.heap.size) :
  Calls Tryz.prog 119 #[.slice (some ⟨g, 0, none⟩) p.length cap, .agg #[.int .i64 t.kind, .int .i64 t.num, s]] w (PartPost X w (descend t p)) := by
 obtain ⟨a, c, rfl⟩ := hs.form
 have HPOST : Hid (∀ (T : Tm) (s : Value) w', T = descend t p → SlX w X T.kids s → Below w.heap.size w w' → PartPost X w (descend t p) (.returned (.tuple #[.agg #[.int .i64 T.kind, .int .i64 T.num, s], .bool true])) w') := tuck fun T s w' h h1 h2 => by
  subst h
  exact ⟨h2, s, rfl, h1.below h2⟩
 generalize PartPost X w (descend t p) = post at *
 have HS := tuck hs
 have HOK := tuck hok
 have HC := tuck hc
 have HI := tuck hi
 have HG := tuck hg
 clear hs hok hc hi hg
 go_enter Tryz.func119, Tryz.ntmps119
 go_wp2_with fail
 have HB0 := tuck (below2 w (.cells #[.int .i64 t.kind, .int .i64 t.num, .slice a t.kids.length c] 25) (.cells #[.int .i64 0, .int .i64 0, .slice none 0 0] 25))
 have HV0 := tuck ((VarAt.new w t.kind t.num (.slice a t.kids.length c)).below (below1 _ (.cells #[.int .i64 0, .int .i64 0, .slice none 0 0] 25)))
 have HV1 := tuck (var_new1 w (.cells #[.int .i64 t.kind, .int .i64 t.num, .slice a t.kids.length c] 25) 0 0 (.slice none 0 0))
 generalize (w.alloc (.cells #[.int .i64 t.kind, .int .i64 t.num, .slice a t.kids.length c] 25)).alloc (.cells #[.int .i64 0, .int .i64 0, .slice none 0 0] 25) = W0 at *
 go_loopw [10] (fun i wr => ∃ (q : Nat) (T : Tm) (sT : Value), q ≤ p.length ∧ i = .int .i64 q ∧ Below w.heap.size w wr ∧ VarAt w.heap.size T.kind T.num sT wr ∧ VarAt (w.heap.size + 1) 0 0 (.slice none 0 0) wr ∧ SlX w X T.kids sT ∧ WayOk T (p.drop q) ∧ descend T (p.drop q) = descend t p) (fun i _ => p.length - (intOf i).toNat)
 case atStart => exact ⟨0, t, _, Nat.zero_le _, rfl, HB0.out, HV0.out, HV1.out, HS.out, HOK.out, rfl⟩
 case round =>
  obtain ⟨q, T, sT, hq, rfl, hb, hv, hv1, hsT, hway, hdes⟩ := hrel
  obtain ⟨aT, cT, b, o, rfl, hlT, hpT, hcT⟩ := hsT.open
  have HB := tuck hb
  have HV := tuck hv
  have HVZ := tuck hv1
  have HST := tuck hsT
  have HWAY := tuck hway
  have HDES := tuck hdes
  have HCT := tuck hcT
  have HPT := tuck hpT
  clear hb hv hv1 hsT hway hdes hcT hpT
  obtain ⟨z0, a0, a1, a2, af⟩ := HV.out.facts
  by_cases hlt : q < p.length
  ·have hlti : ((q : Int) < (p.length : Int)) := by omega
   have hw := HWAY.out
   have hd := HDES.out
   rw [List.drop_eq_getElem_cons hlt, WayOk] at hw
   rw [List.drop_eq_getElem_cons hlt, descend] at hd
   have hpc := HC.out q hlt
   have hgb := HG.out (by intro e; rw [e] at hlt; simp at hlt)
   have hic := HI.out q hlt
   have hpr := (HB.out.cell (p := ⟨g, q, none⟩) hgb).trans hpc
   have hx := hw.1
   rw [kidT_eq hx] at hw hd
   obtain ⟨-, hw2⟩ := hw
   have HW2 := tuck hw2
   have HD2 := tuck hd
   clear hw2 hd hpc
   obtain ⟨rfl, -, hbw⟩ := HPT.out (by intro e; rw [e] at hx; simp at hx)
   obtain ⟨sv, c0, c1, c2, hsv⟩ := HCT.out _ hx
   obtain ⟨sa, sc, rfl⟩ := hsv.form
   replace c0 := (HB.out.cell (p := ⟨b, o + p[q] * 3, none⟩) hbw).trans c0
   replace c1 := (HB.out.cell (p := ⟨b, o + p[q] * 3 + 1, none⟩) hbw).trans c1
   replace c2 := (HB.out.cell (p := ⟨b, o + p[q] * 3 + 2, none⟩) hbw).trans c2
   have hxi : ((p[q] : Nat) : Int) < (T.kids.length : Int) := by omega
   have HSV := tuck hsv
   clear hsv HCT HPT HWAY
   generalize hy : T.kids[p[q]] = Y at *
   generalize p[q] = x at *
   clear hy
   go_wp2_with fail
   go_roundw
   case rel => exact ⟨q + 1, Y, .slice sa Y.kids.length sc, by omega, by go_num, bSet3 HB.out (Nat.le_refl _) _ _ _ _ _ _, HV.out.set, HVZ.out.far3 (by omega) _ _ _ _ _ _, HSV.out, HW2.out, HD2.out⟩
   case measure => simp [intOf]; omega
  ·have hge2 : ¬ ((q : Int) < (p.length : Int)) := by omega
   have hT : T = descend t p := by rw [← HDES.out, List.drop_eq_nil_of_le (by omega)]; rfl
   obtain ⟨z1, b0, b1, b2, bf⟩ := HVZ.out.facts
   go_wp2_with fail
   refine bodyPost_ret (v := .tuple #[.agg #[.int .i64 T.kind, .int .i64 T.num, .slice aT T.kids.length cT], .bool true]) (by simp [results, Tryz.results119, go_sem, *]) rfl (HPOST.out T _ _ hT HST.out ?_)
   exact bSet3 HB.out (Nat.le_succ _) _ _ _ _ _ _
end Go.Proofs.YtlbikgnanabjgaaGreat
namespace Go.Proofs.YtlbikgnanabjgaaGreat
open Go.RowKit
def With (X : Nat → Prop) (w : World) (n : Nat) : Nat → Prop := fun i => X i ∨ (w.heap.size ≤ i ∧ i < n)
theorem With.lt {X : Nat → Prop} {w W : World} (hX : ∀ i, X i → i < w.heap.size) (hb : w.heap.size ≤ W.heap.size) : ∀ i, With X w W.heap.size i → i < W.heap.size := fun i h => by
 rcases h with h | h
 ·have := hX i h; omega
 ·exact h.2
theorem SlX.widen {w W : World} {X : Nat → Prop} {l : List Tm} {v : Value} (h : SlX w X l v) (hb : Below w.heap.size w W) (n : Nat) : SlX W (With X w n) l v :=
 h.to fun p u hn hc => ⟨fun hx => by
  rcases hx with hx | hx
  ·exact hn hx
  ·have := World.block_lt_of_cell? w p hc; omega, (hb.cell (World.block_lt_of_cell? w p hc)).trans hc⟩
theorem SlX.narrow {w : World} {X Y : Nat → Prop} {l : List Tm} {v : Value} (h : SlX w Y l v) (hXY : ∀ i, X i → Y i) : SlX w X l v :=
 h.to fun _ _ hn hc => ⟨fun hx => hn (hXY _ hx), hc⟩
theorem SlX.set3 {w : World} {X : Nat → Prop} {l : List Tm} {v : Value} (h : SlX w X l v) {g : Nat} (hg : X g) (i j k : Nat) (x y z : Value) : SlX (((w.setCell ⟨g, i, none⟩ x).setCell ⟨g, j, none⟩ y).setCell ⟨g, k, none⟩ z) X l v :=
 ((h.set (q := ⟨g, i, none⟩) hg _).set (q := ⟨g, j, none⟩) hg _).set (q := ⟨g, k, none⟩) hg _
theorem ContrPost.open {X : Nat → Prop} {w w' : World} {P : Prop} {T : Tm} {e : Ending} (h : ContrPost X w P T e w') : ∃ (U : Tm) (a : Option Addr) (c : Nat), e = .returned (.tuple #[.agg #[.int .i64 U.kind, .int .i64 U.num, .slice a U.kids.length c], .bool (tr P)]) ∧ Below w.heap.size w w' ∧ SlX w' X U.kids (.slice a U.kids.length c) ∧ (P → U = T) := by
 obtain ⟨hb, U, s, rfl, hs, hU⟩ := h
 obtain ⟨a, c, rfl⟩ := hs.form
 exact ⟨U, a, c, rfl, hb, hs, hU⟩
set_option maxRecDepth 100000 in
theorem ruleFunc_any (F : FuncId) (hcf : ∀ (args : Array Value) (w : World), (callFunc F args).run Tryz.prog w = .ok (.enter F args) w) (t : Tm) (P : Prop) (T : Tm) (w : World) (X : Nat → Prop) (hX : ∀ i, X i → i < w.heap.size) (s : Value) (hs : SlX w X t.kids s)
  (hF : ∀ (w' : World) (X' : Nat → Prop), (∀ i, X' i → i < w'.heap.size) → SlX w' X' t.kids s → Calls Tryz.prog F #[.agg #[.int .i64 t.kind, .int .i64 t.num, s]] w' (ContrPost X' w' P T)) :
  Calls Tryz.prog 118 #[.func (.func F) #[] #[], .agg #[.int .i64 t.kind, .int .i64 t.num, s]] w (ContrPost X w P T) := by
 obtain ⟨a, c, rfl⟩ := hs.form
 have hb2 := below2 w (.cells #[.int .i64 t.kind, .int .i64 t.num, .slice a t.kids.length c] 25) (.cells #[.int .i64 0, .int .i64 0, .slice none 0 0] 25)
 have HV1 := tuck (var_new1 w (.cells #[.int .i64 t.kind, .int .i64 t.num, .slice a t.kids.length c] 25) 0 0 (.slice none 0 0))
 have hsz : ((w.alloc (.cells #[.int .i64 t.kind, .int .i64 t.num, .slice a t.kids.length c] 25)).alloc (.cells #[.int .i64 0, .int .i64 0, .slice none 0 0] 25)).heap.size = w.heap.size + 2 := by simp
 have HF := tuck (hF _ (With X w ((w.alloc (.cells #[.int .i64 t.kind, .int .i64 t.num, .slice a t.kids.length c] 25)).alloc (.cells #[.int .i64 0, .int .i64 0, .slice none 0 0] 25)).heap.size) (With.lt hX hb2.size) (hs.widen hb2 _))
 have HP : Hid (∀ (U : Tm) (a' : Option Addr) (c' : Nat) w', Below w.heap.size w w' → SlX w' X U.kids (.slice a' U.kids.length c') → (P → U = T) → ContrPost X w P T (.returned (.tuple #[.agg #[.int .i64 U.kind, .int .i64 U.num, .slice a' U.kids.length c'], .bool (tr P)])) w') := tuck fun U a' c' w' h1 h2 h3 => ⟨h1, U, _, rfl, h2, h3⟩
 generalize ContrPost X w P T = post at *
 have HB2 := tuck hb2
 have HSZ := tuck hsz
 clear hF hs hb2 hsz
 go_enter Tryz.func118, Tryz.ntmps118
 go_wp2_with fail
 refine HF.out.mono ?_
 rintro e w1 hpost
 obtain ⟨U, a', c', rfl, hb1, hs1, hU⟩ := hpost.open
 obtain ⟨z1, r0, r1, r2, rf⟩ := (HV1.out.below hb1).facts
 have HS1 := tuck hs1
 have HU := tuck hU
 have HB1 := tuck (bAfter HB2.out hb1)
 clear hpost hb1 hs1 hU HF
 go_wp2_with fail
 refine bodyPost_ret (v := .tuple #[.agg #[.int .i64 U.kind, .int .i64 U.num, .slice a' U.kids.length c'], .bool (tr P)]) (by simp [results, Tryz.results118, go_sem, *]) rfl (HP.out U a' c' _ ?_ ?_ HU.out)
 ·exact bSet3 HB1.out (Nat.le_succ _) _ _ _ _ _ _
 ·exact (HS1.out.set3 (Or.inr ⟨Nat.le_succ _, by rw [HSZ.out]; omega⟩) _ _ _ _ _ _).narrow fun i h => Or.inl h
theorem rule0_any (w : World) : Calls Tryz.prog 66 #[.int .i64 0] w fun e w' => e = .returned (.tuple #[Value.nilIface, .bool false]) ∧ w' = w := by
 obtain ⟨post, hpost⟩ : ∃ post : Ending → World → Prop, post = fun e w' => e = .returned (.tuple #[Value.nilIface, .bool false]) ∧ w' = w := ⟨_, rfl⟩
 rw [← hpost]
 have HP : Hid (post (.returned (.tuple #[Value.nilIface, .bool false])) (w)) := tuck (by rw [hpost]; exact ⟨rfl, rfl⟩)
 clear hpost
 go_enter Tryz.func66, Tryz.ntmps66
 go_wp2_with fail
 exact HP.out
theorem rule1_any (w : World) : Calls Tryz.prog 66 #[.int .i64 1] w fun e w' => e = .returned (.tuple #[.iface 120 (.func (.func 77) #[] #[]), .bool true]) ∧ w' = w := by
 obtain ⟨post, hpost⟩ : ∃ post : Ending → World → Prop, post = fun e w' => e = .returned (.tuple #[.iface 120 (.func (.func 77) #[] #[]), .bool true]) ∧ w' = w := ⟨_, rfl⟩
 rw [← hpost]
 have HP : Hid (post (.returned (.tuple #[.iface 120 (.func (.func 77) #[] #[]), .bool true])) (w)) := tuck (by rw [hpost]; exact ⟨rfl, rfl⟩)
 clear hpost
 go_enter Tryz.func66, Tryz.ntmps66
 go_wp2_with fail
 exact HP.out
theorem rule3_any (w : World) : Calls Tryz.prog 66 #[.int .i64 3] w fun e w' => e = .returned (.tuple #[.iface 120 (.func (.func 78) #[] #[]), .bool true]) ∧ w' = w := by
 obtain ⟨post, hpost⟩ : ∃ post : Ending → World → Prop, post = fun e w' => e = .returned (.tuple #[.iface 120 (.func (.func 78) #[] #[]), .bool true]) ∧ w' = w := ⟨_, rfl⟩
 rw [← hpost]
 have HP : Hid (post (.returned (.tuple #[.iface 120 (.func (.func 78) #[] #[]), .bool true])) (w)) := tuck (by rw [hpost]; exact ⟨rfl, rfl⟩)
 clear hpost
 go_enter Tryz.func66, Tryz.ntmps66
 go_wp2_with fail
 exact HP.out
theorem rule2_any (w : World) : Calls Tryz.prog 66 #[.int .i64 2] w fun e w' => e = .returned (.tuple #[.iface 121 (.slice (some ⟨w.heap.size, 0, none⟩) 1 1), .bool true]) ∧ w' = w.alloc (.cells #[.int .i64 1] 3) := by
 obtain ⟨post, hpost⟩ : ∃ post : Ending → World → Prop, post = fun e w' => e = .returned (.tuple #[.iface 121 (.slice (some ⟨w.heap.size, 0, none⟩) 1 1), .bool true]) ∧ w' = w.alloc (.cells #[.int .i64 1] 3) := ⟨_, rfl⟩
 rw [← hpost]
 have HP : Hid (post (.returned (.tuple #[.iface 121 (.slice (some ⟨w.heap.size, 0, none⟩) 1 1), .bool true])) (w.alloc (.cells #[.int .i64 1] 3))) := tuck (by rw [hpost]; exact ⟨rfl, rfl⟩)
 clear hpost
 go_enter Tryz.func66, Tryz.ntmps66
 go_wp2_with fail
 exact HP.out
theorem rule4_any (w : World) : Calls Tryz.prog 66 #[.int .i64 4] w fun e w' => e = .returned (.tuple #[.iface 121 (.slice (some ⟨w.heap.size, 0, none⟩) 1 1), .bool true]) ∧ w' = w.alloc (.cells #[.int .i64 2] 3) := by
 obtain ⟨post, hpost⟩ : ∃ post : Ending → World → Prop, post = fun e w' => e = .returned (.tuple #[.iface 121 (.slice (some ⟨w.heap.size, 0, none⟩) 1 1), .bool true]) ∧ w' = w.alloc (.cells #[.int .i64 2] 3) := ⟨_, rfl⟩
 rw [← hpost]
 have HP : Hid (post (.returned (.tuple #[.iface 121 (.slice (some ⟨w.heap.size, 0, none⟩) 1 1), .bool true])) (w.alloc (.cells #[.int .i64 2] 3))) := tuck (by rw [hpost]; exact ⟨rfl, rfl⟩)
 clear hpost
 go_enter Tryz.func66, Tryz.ntmps66
 go_wp2_with fail
 exact HP.out
theorem rule5_any (w : World) : Calls Tryz.prog 66 #[.int .i64 5] w fun e w' => e = .returned (.tuple #[.iface 121 (.slice (some ⟨w.heap.size, 0, none⟩) 2 2), .bool true]) ∧ w' = w.alloc (.cells #[.int .i64 0, .int .i64 1] 3) := by
 obtain ⟨post, hpost⟩ : ∃ post : Ending → World → Prop, post = fun e w' => e = .returned (.tuple #[.iface 121 (.slice (some ⟨w.heap.size, 0, none⟩) 2 2), .bool true]) ∧ w' = w.alloc (.cells #[.int .i64 0, .int .i64 1] 3) := ⟨_, rfl⟩
 rw [← hpost]
 have HP : Hid (post (.returned (.tuple #[.iface 121 (.slice (some ⟨w.heap.size, 0, none⟩) 2 2), .bool true])) (w.alloc (.cells #[.int .i64 0, .int .i64 1] 3))) := tuck (by rw [hpost]; exact ⟨rfl, rfl⟩)
 clear hpost
 go_enter Tryz.func66, Tryz.ntmps66
 go_wp2_with fail
 exact HP.out
theorem rule6_any (w : World) : Calls Tryz.prog 66 #[.int .i64 6] w fun e w' => e = .returned (.tuple #[.iface 121 (.slice (some ⟨w.heap.size, 0, none⟩) 2 2), .bool true]) ∧ w' = w.alloc (.cells #[.int .i64 0, .int .i64 2] 3) := by
 obtain ⟨post, hpost⟩ : ∃ post : Ending → World → Prop, post = fun e w' => e = .returned (.tuple #[.iface 121 (.slice (some ⟨w.heap.size, 0, none⟩) 2 2), .bool true]) ∧ w' = w.alloc (.cells #[.int .i64 0, .int .i64 2] 3) := ⟨_, rfl⟩
 rw [← hpost]
 have HP : Hid (post (.returned (.tuple #[.iface 121 (.slice (some ⟨w.heap.size, 0, none⟩) 2 2), .bool true])) (w.alloc (.cells #[.int .i64 0, .int .i64 2] 3))) := tuck (by rw [hpost]; exact ⟨rfl, rfl⟩)
 clear hpost
 go_enter Tryz.func66, Tryz.ntmps66
 go_wp2_with fail
 exact HP.out
end Go.Proofs.YtlbikgnanabjgaaGreat
namespace Go.Proofs.YtlbikgnanabjgaaGreat
open Go.RowKit
set_option maxRecDepth 100000 in
set_option maxHeartbeats 1600000 in
theorem contract_any (t : Tm) (hr : t.rootOk) (hk : ∀ i (hi : i < t.kids.length), t.kids[i].Valid) (w : World) (X : Nat → Prop) (hX : ∀ i, X i → i < w.heap.size) (s : Value) (hs : SlX w X t.kids s) :
  Calls Tryz.prog 58 #[.agg #[.int .i64 t.kind, .int .i64 t.num, s]] w (ContrPost X w (t.redex ≠ 0 ∧ t.contr.Valid) t.contr) := by
 obtain ⟨a, c, rfl⟩ := hs.form
 have hb2 := below2 w (.cells #[.int .i64 t.kind, .int .i64 t.num, .slice a t.kids.length c] 25) (.cells #[.int .i64 0, .int .i64 0, .slice none 0 0] 25)
 have HV0 := tuck ((VarAt.new w t.kind t.num (.slice a t.kids.length c)).below (below1 _ (.cells #[.int .i64 0, .int .i64 0, .slice none 0 0] 25)))
 have HV1 := tuck (var_new1 w (.cells #[.int .i64 t.kind, .int .i64 t.num, .slice a t.kids.length c] 25) 0 0 (.slice none 0 0))
 have hsz : ((w.alloc (.cells #[.int .i64 t.kind, .int .i64 t.num, .slice a t.kids.length c] 25)).alloc (.cells #[.int .i64 0, .int .i64 0, .slice none 0 0] 25)).heap.size = w.heap.size + 2 := by simp
 have HRED := tuck (redI_any t hr ((w.alloc (.cells #[.int .i64 t.kind, .int .i64 t.num, .slice a t.kids.length c] 25)).alloc (.cells #[.int .i64 0, .int .i64 0, .slice none 0 0] 25)) (.slice a t.kids.length c) (hs.sl.below hb2))
 have HB2 := tuck hb2
 have HSZ := tuck hsz
 have HS := tuck hs
 have hU0 : ((w.alloc (.cells #[.int .i64 t.kind, .int .i64 t.num, .slice a t.kids.length c] 25)).alloc (.cells #[.int .i64 0, .int .i64 0, .slice none 0 0] 25)).heap.size ≤ ((w.alloc (.cells #[.int .i64 t.kind, .int .i64 t.num, .slice a t.kids.length c] 25)).alloc (.cells #[.int .i64 0, .int .i64 0, .slice none 0 0] 25)).heap.size := Nat.le_refl _
 -- the frame's own blocks
 have HSW : Hid (∀ w2 : World, Below ((w.alloc (.cells #[.int .i64 t.kind, .int .i64 t.num, .slice a t.kids.length c] 25)).alloc (.cells #[.int .i64 0, .int .i64 0, .slice none 0 0] 25)).heap.size ((w.alloc (.cells #[.int .i64 t.kind, .int .i64 t.num, .slice a t.kids.length c] 25)).alloc (.cells #[.int .i64 0, .int .i64 0, .slice none 0 0] 25)) w2 → SlX w2 (With X w ((w.alloc (.cells #[.int .i64 t.kind, .int .i64 t.num, .slice a t.kids.length c] 25)).alloc (.cells #[.int .i64 0, .int .i64 0, .slice none 0 0] 25)).heap.size) t.kids (.slice a t.kids.length c)) := tuck fun w2 h => (hs.widen hb2 _).below h
 have HXW : Hid (∀ w2 : World, Below ((w.alloc (.cells #[.int .i64 t.kind, .int .i64 t.num, .slice a t.kids.length c] 25)).alloc (.cells #[.int .i64 0, .int .i64 0, .slice none 0 0] 25)).heap.size ((w.alloc (.cells #[.int .i64 t.kind, .int .i64 t.num, .slice a t.kids.length c] 25)).alloc (.cells #[.int .i64 0, .int .i64 0, .slice none 0 0] 25)) w2 → ∀ i, With X w ((w.alloc (.cells #[.int .i64 t.kind, .int .i64 t.num, .slice a t.kids.length c] 25)).alloc (.cells #[.int .i64 0, .int .i64 0, .slice none 0 0] 25)).heap.size i → i < w2.heap.size) := tuck fun w2 h i hi => Nat.lt_of_lt_of_le (With.lt hX hb2.size i hi) h.size
 clear hsz hU0 hb2
 by_cases h0 : t.redex = 0
 ·have HP : Hid (∀ w', Below w.heap.size w w' → ContrPost X w (t.redex ≠ 0 ∧ t.contr.Valid) t.contr (.returned (.tuple #[.agg #[.int .i64 0, .int .i64 0, .slice none 0 0], .bool false])) w') := tuck fun w' h1 =>
   ⟨h1, zeroT, .slice none 0 0, by rw [tr_not (fun h => h.1 h0)]; rfl, SlX.nil _ _ _ _, fun h => absurd h0 h.1⟩
  generalize ContrPost X w (t.redex ≠ 0 ∧ t.contr.Valid) t.contr = post at *
  rw [h0] at HRED
  clear hs hX hr hk h0
  go_enter Tryz.func58, Tryz.ntmps58
  go_wp2_with fail
  generalize ((w.alloc (.cells #[.int .i64 t.kind, .int .i64 t.num, .slice a t.kids.length c] 25)).alloc (.cells #[.int .i64 0, .int .i64 0, .slice none 0 0] 25)) = W0 at *
  refine HRED.out.mono ?_
  rintro e w1 ⟨rfl, hb1⟩
  obtain ⟨z0, a0, a1, a2, -⟩ := (HV0.out.below hb1).facts
  obtain ⟨z1, r0, r1, r2, rf⟩ := (HV1.out.below hb1).facts
  have HB1 := tuck hb1
  clear hb1 HRED
  go_wp2_with (go_at_call 66; refine (rule0_any _).mono ?_; rintro e w2 ⟨rfl, rfl⟩)
  refine bodyPost_ret (v := .tuple #[.agg #[.int .i64 0, .int .i64 0, .slice none 0 0], .bool false]) (by simp [results, Tryz.results58, go_sem, *]) rfl (HP.out _ ?_)
  exact bSet3 (bAfter HB2.out HB1.out) (Nat.le_succ _) _ _ _ _ _ _
 have hkk : ∀ i, i < t.kids.length → (kidT t i).Valid := fun i hi => by rw [kidT_eq hi]; exact hk i hi
 have HPOST : Hid (∀ (c0 : Bool) (U : Tm) (a' : Option Addr) (c' : Nat) w', Below w.heap.size w w' → c0 = tr t.contr.Valid → SlX w' X U.kids (.slice a' U.kids.length c') → (t.contr.Valid → U = t.contr) → ContrPost X w (t.redex ≠ 0 ∧ t.contr.Valid) t.contr (.returned (.tuple #[.agg #[.int .i64 U.kind, .int .i64 U.num, .slice a' U.kids.length c'], .bool c0])) w') := tuck fun c0 U a' c' w' h1 h2 h3 h4 =>
  ⟨h1, U, _, by rw [h2, show (t.redex ≠ 0 ∧ t.contr.Valid) = t.contr.Valid from propext ⟨fun h => h.2, fun h => ⟨h0, h⟩⟩], h3, fun h => h4 h.2⟩
 generalize ContrPost X w (t.redex ≠ 0 ∧ t.contr.Valid) t.contr = post at *
 rcases redex_shape hr h0 with ⟨e, hkd, hl, hm⟩ | ⟨e, hkd, hl, hm⟩ | ⟨e, hkd, hl, hm⟩ | ⟨e, hkd, hl, hm⟩ | ⟨e, hkd, hl, hm⟩ | ⟨e, hkd, hl, hm⟩
 ·have HCON : Hid (∀ w2 : World, Below ((w.alloc (.cells #[.int .i64 t.kind, .int .i64 t.num, .slice a t.kids.length c] 25)).alloc (.cells #[.int .i64 0, .int .i64 0, .slice none 0 0] 25)).heap.size ((w.alloc (.cells #[.int .i64 t.kind, .int .i64 t.num, .slice a t.kids.length c] 25)).alloc (.cells #[.int .i64 0, .int .i64 0, .slice none 0 0] 25)) w2 → Calls Tryz.prog 118 #[.func (.func 77) #[] #[], .agg #[.int .i64 t.kind, .int .i64 t.num, .slice a t.kids.length c]] w2 (ContrPost (With X w ((w.alloc (.cells #[.int .i64 t.kind, .int .i64 t.num, .slice a t.kids.length c] 25)).alloc (.cells #[.int .i64 0, .int .i64 0, .slice none 0 0] 25)).heap.size) w2 t.contr.Valid t.contr)) := tuck fun w2 h =>
   ruleFunc_any 77 (fun _ _ => by kernel_rfl) t _ _ w2 _ (HXW.out w2 h) _ (HSW.out w2 h) fun w' X' hX' hs' => apply_any t hr hk e w' X' hX' _ hs'
  have hmt : ∀ (n : Nat) (w : World), (method (n + 1) 120 (.func (.func 77) #[] #[]) "loop.example/depkernel/impl.contractum").run Tryz.prog w = .ok (118, .func (.func 77) #[] #[]) w := fun _ _ => by kernel_rfl
  have hcf : ∀ (args : Array Value) (w : World), (callFunc 118 args).run Tryz.prog w = .ok (.enter 118 args) w := fun _ _ => by kernel_rfl
  rw [e] at HRED
  clear hs hX hr hk h0 hkk hkd hl hm e HS HXW HSW
  generalize t.contr.Valid = V at *
  generalize t.contr = C at *
  go_enter Tryz.func58, Tryz.ntmps58
  go_wp2_with fail
  generalize ((w.alloc (.cells #[.int .i64 t.kind, .int .i64 t.num, .slice a t.kids.length c] 25)).alloc (.cells #[.int .i64 0, .int .i64 0, .slice none 0 0] 25)) = W0 at *
  refine HRED.out.mono ?_
  rintro e w1 ⟨rfl, hb1⟩
  obtain ⟨z0, a0, a1, a2, -⟩ := (HV0.out.below hb1).facts
  obtain ⟨z1, r0, r1, r2, rf⟩ := (HV1.out.below hb1).facts
  have HB1 := tuck hb1
  clear hb1 HRED
  go_wp2_with (go_at_call 66; refine (rule1_any _).mono ?_; rintro e w2 ⟨rfl, rfl⟩)
  refine (HCON.out _ HB1.out).mono ?_
  rintro e w3 hpost
  obtain ⟨U, a', c', rfl, hb3, hs3, hU⟩ := hpost.open
  replace r0 := (hb3.cell (p := ⟨w.heap.size + 1, 0, none⟩) z1).trans r0
  replace r1 := (hb3.cell (p := ⟨w.heap.size + 1, 1, none⟩) z1).trans r1
  replace r2 := (hb3.cell (p := ⟨w.heap.size + 1, 2, none⟩) z1).trans r2
  have rf3 : ∀ i, w3.frozen? ⟨w.heap.size + 1, i, none⟩ = false := fun i => (hb3.frozen (p := ⟨w.heap.size + 1, i, none⟩) z1).trans (rf i)
  have HS3 := tuck hs3
  have HU := tuck hU
  have HB3 := tuck (bAfter (bAfter HB2.out HB1.out) hb3)
  clear hpost hb3 hs3 hU HCON rf a0 a1 a2 z0
  go_wp2_with fail
  refine bodyPost_ret (v := .tuple #[.agg #[.int .i64 U.kind, .int .i64 U.num, .slice a' U.kids.length c'], .bool (tr V)]) (by simp [results, Tryz.results58, go_sem, *]) rfl (HPOST.out _ U a' c' _ ?_ ?_ ?_ ?_)
  ·exact bSet3 HB3.out (Nat.le_succ _) _ _ _ _ _ _
  ·rfl
  ·exact (HS3.out.set3 (Or.inr ⟨Nat.le_succ _, by rw [HSZ.out]; omega⟩) _ _ _ _ _ _).narrow fun i h => Or.inl h
  ·exact HU.out
 ·have hcv : t.contr.Valid := contr_part hk hr h0 (by omega) (by omega)
  have hce : t.contr = kidT t 1 := by unfold Tm.contr; rw [if_neg (by omega), if_pos e]
  have HCON : Hid (∀ w2 : World, Below ((w.alloc (.cells #[.int .i64 t.kind, .int .i64 t.num, .slice a t.kids.length c] 25)).alloc (.cells #[.int .i64 0, .int .i64 0, .slice none 0 0] 25)).heap.size ((w.alloc (.cells #[.int .i64 t.kind, .int .i64 t.num, .slice a t.kids.length c] 25)).alloc (.cells #[.int .i64 0, .int .i64 0, .slice none 0 0] 25)) w2 → Calls Tryz.prog 119 #[.slice (some ⟨w2.heap.size, 0, none⟩) 1 1, .agg #[.int .i64 t.kind, .int .i64 t.num, .slice a t.kids.length c]] (w2.alloc (.cells #[.int .i64 1] 3)) (PartPost (With X w ((w.alloc (.cells #[.int .i64 t.kind, .int .i64 t.num, .slice a t.kids.length c] 25)).alloc (.cells #[.int .i64 0, .int .i64 0, .slice none 0 0] 25)).heap.size) (w2.alloc (.cells #[.int .i64 1] 3)) t.contr)) := tuck fun w2 h => by
   have hq := part_any [1] t (⟨by omega, trivial⟩) (by simp) (w2.alloc (.cells #[.int .i64 1] 3)) (With X w ((w.alloc (.cells #[.int .i64 t.kind, .int .i64 t.num, .slice a t.kids.length c] 25)).alloc (.cells #[.int .i64 0, .int .i64 0, .slice none 0 0] 25)).heap.size) _ ((HSW.out w2 h).below (below1 _ _)) w2.heap.size 1 (fun j hj => by
    simp only [List.length_cons, List.length_nil] at hj
    obtain rfl : j = 0 := by omega
    simp) (fun j hj => by
    simp only [List.length_cons, List.length_nil] at hj
    obtain rfl : j = 0 := by omega
    simp) (fun _ => by simp)
   rw [hce]
   exact hq
  have hmt : ∀ (n : Nat) (w : World) (v : Value), (method (n + 1) 121 v "loop.example/depkernel/impl.contractum").run Tryz.prog w = .ok (119, v) w := fun _ _ _ => by kernel_rfl
  have hcf : ∀ (args : Array Value) (w : World), (callFunc 119 args).run Tryz.prog w = .ok (.enter 119 args) w := fun _ _ => by kernel_rfl
  rw [e] at HRED
  rw [tr_of hcv] at HPOST
  clear hs hX hr hk h0 hkk hkd hl hm e HS HXW HSW hcv hce
  generalize t.contr = U at *
  go_enter Tryz.func58, Tryz.ntmps58
  go_wp2_with fail
  generalize ((w.alloc (.cells #[.int .i64 t.kind, .int .i64 t.num, .slice a t.kids.length c] 25)).alloc (.cells #[.int .i64 0, .int .i64 0, .slice none 0 0] 25)) = W0 at *
  refine HRED.out.mono ?_
  rintro e w1 ⟨rfl, hb1⟩
  obtain ⟨z0, a0, a1, a2, -⟩ := (HV0.out.below hb1).facts
  obtain ⟨z1, r0, r1, r2, rf⟩ := (HV1.out.below hb1).facts
  have HB1 := tuck hb1
  clear hb1 HRED
  have hz1w : w.heap.size + 1 < (w1.alloc (.cells #[.int .i64 1] 3)).heap.size := Nat.lt_of_lt_of_le z1 (below1 _ _).size
  replace r0 := ((below1 w1 (.cells #[.int .i64 1] 3)).cell (p := ⟨w.heap.size + 1, 0, none⟩) z1).trans r0
  replace r1 := ((below1 w1 (.cells #[.int .i64 1] 3)).cell (p := ⟨w.heap.size + 1, 1, none⟩) z1).trans r1
  replace r2 := ((below1 w1 (.cells #[.int .i64 1] 3)).cell (p := ⟨w.heap.size + 1, 2, none⟩) z1).trans r2
  have rf1 : ∀ i, (w1.alloc (.cells #[.int .i64 1] 3)).frozen? ⟨w.heap.size + 1, i, none⟩ = false := fun i => ((below1 w1 (.cells #[.int .i64 1] 3)).frozen (p := ⟨w.heap.size + 1, i, none⟩) z1).trans (rf i)
  have x0 := ((below1 w1 (.cells #[.int .i64 1] 3)).cell (p := ⟨w.heap.size, 0, none⟩) z0).trans a0
  have x1 := ((below1 w1 (.cells #[.int .i64 1] 3)).cell (p := ⟨w.heap.size, 1, none⟩) z0).trans a1
  have x2 := ((below1 w1 (.cells #[.int .i64 1] 3)).cell (p := ⟨w.heap.size, 2, none⟩) z0).trans a2
  have HBA := tuck (below1 w1 (.cells #[.int .i64 1] 3))
  clear a0 a1 a2 rf
  go_wp2_with (go_at_call 66; refine (rule2_any _).mono ?_; rintro e w2 ⟨rfl, rfl⟩)
  refine (HCON.out _ HB1.out).mono ?_
  rintro e w3 ⟨hb3, s3, rfl, hs3⟩
  obtain ⟨a', c', rfl⟩ := hs3.form
  replace r0 := (hb3.cell (p := ⟨w.heap.size + 1, 0, none⟩) hz1w).trans r0
  replace r1 := (hb3.cell (p := ⟨w.heap.size + 1, 1, none⟩) hz1w).trans r1
  replace r2 := (hb3.cell (p := ⟨w.heap.size + 1, 2, none⟩) hz1w).trans r2
  have rf3 : ∀ i, w3.frozen? ⟨w.heap.size + 1, i, none⟩ = false := fun i => (hb3.frozen (p := ⟨w.heap.size + 1, i, none⟩) hz1w).trans (rf1 i)
  have HS3 := tuck hs3
  have HB3 := tuck (bAfter (bAfter (bAfter HB2.out HB1.out) HBA.out) hb3)
  clear hb3 hs3 HCON rf1 x0 x1 x2 z0
  go_wp2_with fail
  refine bodyPost_ret (v := .tuple #[.agg #[.int .i64 U.kind, .int .i64 U.num, .slice a' U.kids.length c'], .bool true]) (by simp [results, Tryz.results58, go_sem, *]) rfl (HPOST.out _ U a' c' _ ?_ ?_ ?_ ?_)
  ·exact bSet3 HB3.out (Nat.le_succ _) _ _ _ _ _ _
  ·rfl
  ·exact (HS3.out.set3 (Or.inr ⟨Nat.le_succ _, by rw [HSZ.out]; omega⟩) _ _ _ _ _ _).narrow fun i h => Or.inl h
  ·exact fun _ => rfl
 ·have HCON : Hid (∀ w2 : World, Below ((w.alloc (.cells #[.int .i64 t.kind, .int .i64 t.num, .slice a t.kids.length c] 25)).alloc (.cells #[.int .i64 0, .int .i64 0, .slice none 0 0] 25)).heap.size ((w.alloc (.cells #[.int .i64 t.kind, .int .i64 t.num, .slice a t.kids.length c] 25)).alloc (.cells #[.int .i64 0, .int .i64 0, .slice none 0 0] 25)) w2 → Calls Tryz.prog 118 #[.func (.func 78) #[] #[], .agg #[.int .i64 t.kind, .int .i64 t.num, .slice a t.kids.length c]] w2 (ContrPost (With X w ((w.alloc (.cells #[.int .i64 t.kind, .int .i64 t.num, .slice a t.kids.length c] 25)).alloc (.cells #[.int .i64 0, .int .i64 0, .slice none 0 0] 25)).heap.size) w2 t.contr.Valid t.contr)) := tuck fun w2 h =>
   ruleFunc_any 78 (fun _ _ => by kernel_rfl) t _ _ w2 _ (HXW.out w2 h) _ (HSW.out w2 h) fun w' X' hX' hs' => unroll_any t hr hk e w' X' hX' _ hs'
  have hmt : ∀ (n : Nat) (w : World), (method (n + 1) 120 (.func (.func 78) #[] #[]) "loop.example/depkernel/impl.contractum").run Tryz.prog w = .ok (118, .func (.func 78) #[] #[]) w := fun _ _ => by kernel_rfl
  have hcf : ∀ (args : Array Value) (w : World), (callFunc 118 args).run Tryz.prog w = .ok (.enter 118 args) w := fun _ _ => by kernel_rfl
  rw [e] at HRED
  clear hs hX hr hk h0 hkk hkd hl hm e HS HXW HSW
  generalize t.contr.Valid = V at *
  generalize t.contr = C at *
  go_enter Tryz.func58, Tryz.ntmps58
  go_wp2_with fail
  generalize ((w.alloc (.cells #[.int .i64 t.kind, .int .i64 t.num, .slice a t.kids.length c] 25)).alloc (.cells #[.int .i64 0, .int .i64 0, .slice none 0 0] 25)) = W0 at *
  refine HRED.out.mono ?_
  rintro e w1 ⟨rfl, hb1⟩
  obtain ⟨z0, a0, a1, a2, -⟩ := (HV0.out.below hb1).facts
  obtain ⟨z1, r0, r1, r2, rf⟩ := (HV1.out.below hb1).facts
  have HB1 := tuck hb1
  clear hb1 HRED
  go_wp2_with (go_at_call 66; refine (rule3_any _).mono ?_; rintro e w2 ⟨rfl, rfl⟩)
  refine (HCON.out _ HB1.out).mono ?_
  rintro e w3 hpost
  obtain ⟨U, a', c', rfl, hb3, hs3, hU⟩ := hpost.open
  replace r0 := (hb3.cell (p := ⟨w.heap.size + 1, 0, none⟩) z1).trans r0
  replace r1 := (hb3.cell (p := ⟨w.heap.size + 1, 1, none⟩) z1).trans r1
  replace r2 := (hb3.cell (p := ⟨w.heap.size + 1, 2, none⟩) z1).trans r2
  have rf3 : ∀ i, w3.frozen? ⟨w.heap.size + 1, i, none⟩ = false := fun i => (hb3.frozen (p := ⟨w.heap.size + 1, i, none⟩) z1).trans (rf i)
  have HS3 := tuck hs3
  have HU := tuck hU
  have HB3 := tuck (bAfter (bAfter HB2.out HB1.out) hb3)
  clear hpost hb3 hs3 hU HCON rf a0 a1 a2 z0
  go_wp2_with fail
  refine bodyPost_ret (v := .tuple #[.agg #[.int .i64 U.kind, .int .i64 U.num, .slice a' U.kids.length c'], .bool (tr V)]) (by simp [results, Tryz.results58, go_sem, *]) rfl (HPOST.out _ U a' c' _ ?_ ?_ ?_ ?_)
  ·exact bSet3 HB3.out (Nat.le_succ _) _ _ _ _ _ _
  ·rfl
  ·exact (HS3.out.set3 (Or.inr ⟨Nat.le_succ _, by rw [HSZ.out]; omega⟩) _ _ _ _ _ _).narrow fun i h => Or.inl h
  ·exact HU.out
 ·have hcv : t.contr.Valid := contr_part hk hr h0 (by omega) (by omega)
  have hce : t.contr = kidT t 2 := by unfold Tm.contr; rw [if_neg (by omega), if_neg (by omega), if_neg (by omega), if_pos e]
  have HCON : Hid (∀ w2 : World, Below ((w.alloc (.cells #[.int .i64 t.kind, .int .i64 t.num, .slice a t.kids.length c] 25)).alloc (.cells #[.int .i64 0, .int .i64 0, .slice none 0 0] 25)).heap.size ((w.alloc (.cells #[.int .i64 t.kind, .int .i64 t.num, .slice a t.kids.length c] 25)).alloc (.cells #[.int .i64 0, .int .i64 0, .slice none 0 0] 25)) w2 → Calls Tryz.prog 119 #[.slice (some ⟨w2.heap.size, 0, none⟩) 1 1, .agg #[.int .i64 t.kind, .int .i64 t.num, .slice a t.kids.length c]] (w2.alloc (.cells #[.int .i64 2] 3)) (PartPost (With X w ((w.alloc (.cells #[.int .i64 t.kind, .int .i64 t.num, .slice a t.kids.length c] 25)).alloc (.cells #[.int .i64 0, .int .i64 0, .slice none 0 0] 25)).heap.size) (w2.alloc (.cells #[.int .i64 2] 3)) t.contr)) := tuck fun w2 h => by
   have hq := part_any [2] t (⟨by omega, trivial⟩) (by simp) (w2.alloc (.cells #[.int .i64 2] 3)) (With X w ((w.alloc (.cells #[.int .i64 t.kind, .int .i64 t.num, .slice a t.kids.length c] 25)).alloc (.cells #[.int .i64 0, .int .i64 0, .slice none 0 0] 25)).heap.size) _ ((HSW.out w2 h).below (below1 _ _)) w2.heap.size 1 (fun j hj => by
    simp only [List.length_cons, List.length_nil] at hj
    obtain rfl : j = 0 := by omega
    simp) (fun j hj => by
    simp only [List.length_cons, List.length_nil] at hj
    obtain rfl : j = 0 := by omega
    simp) (fun _ => by simp)
   rw [hce]
   exact hq
  have hmt : ∀ (n : Nat) (w : World) (v : Value), (method (n + 1) 121 v "loop.example/depkernel/impl.contractum").run Tryz.prog w = .ok (119, v) w := fun _ _ _ => by kernel_rfl
  have hcf : ∀ (args : Array Value) (w : World), (callFunc 119 args).run Tryz.prog w = .ok (.enter 119 args) w := fun _ _ => by kernel_rfl
  rw [e] at HRED
  rw [tr_of hcv] at HPOST
  clear hs hX hr hk h0 hkk hkd hl hm e HS HXW HSW hcv hce
  generalize t.contr = U at *
  go_enter Tryz.func58, Tryz.ntmps58
  go_wp2_with fail
  generalize ((w.alloc (.cells #[.int .i64 t.kind, .int .i64 t.num, .slice a t.kids.length c] 25)).alloc (.cells #[.int .i64 0, .int .i64 0, .slice none 0 0] 25)) = W0 at *
  refine HRED.out.mono ?_
  rintro e w1 ⟨rfl, hb1⟩
  obtain ⟨z0, a0, a1, a2, -⟩ := (HV0.out.below hb1).facts
  obtain ⟨z1, r0, r1, r2, rf⟩ := (HV1.out.below hb1).facts
  have HB1 := tuck hb1
  clear hb1 HRED
  have hz1w : w.heap.size + 1 < (w1.alloc (.cells #[.int .i64 2] 3)).heap.size := Nat.lt_of_lt_of_le z1 (below1 _ _).size
  replace r0 := ((below1 w1 (.cells #[.int .i64 2] 3)).cell (p := ⟨w.heap.size + 1, 0, none⟩) z1).trans r0
  replace r1 := ((below1 w1 (.cells #[.int .i64 2] 3)).cell (p := ⟨w.heap.size + 1, 1, none⟩) z1).trans r1
  replace r2 := ((below1 w1 (.cells #[.int .i64 2] 3)).cell (p := ⟨w.heap.size + 1, 2, none⟩) z1).trans r2
  have rf1 : ∀ i, (w1.alloc (.cells #[.int .i64 2] 3)).frozen? ⟨w.heap.size + 1, i, none⟩ = false := fun i => ((below1 w1 (.cells #[.int .i64 2] 3)).frozen (p := ⟨w.heap.size + 1, i, none⟩) z1).trans (rf i)
  have x0 := ((below1 w1 (.cells #[.int .i64 2] 3)).cell (p := ⟨w.heap.size, 0, none⟩) z0).trans a0
  have x1 := ((below1 w1 (.cells #[.int .i64 2] 3)).cell (p := ⟨w.heap.size, 1, none⟩) z0).trans a1
  have x2 := ((below1 w1 (.cells #[.int .i64 2] 3)).cell (p := ⟨w.heap.size, 2, none⟩) z0).trans a2
  have HBA := tuck (below1 w1 (.cells #[.int .i64 2] 3))
  clear a0 a1 a2 rf
  go_wp2_with (go_at_call 66; refine (rule4_any _).mono ?_; rintro e w2 ⟨rfl, rfl⟩)
  refine (HCON.out _ HB1.out).mono ?_
  rintro e w3 ⟨hb3, s3, rfl, hs3⟩
  obtain ⟨a', c', rfl⟩ := hs3.form
  replace r0 := (hb3.cell (p := ⟨w.heap.size + 1, 0, none⟩) hz1w).trans r0
  replace r1 := (hb3.cell (p := ⟨w.heap.size + 1, 1, none⟩) hz1w).trans r1
  replace r2 := (hb3.cell (p := ⟨w.heap.size + 1, 2, none⟩) hz1w).trans r2
  have rf3 : ∀ i, w3.frozen? ⟨w.heap.size + 1, i, none⟩ = false := fun i => (hb3.frozen (p := ⟨w.heap.size + 1, i, none⟩) hz1w).trans (rf1 i)
  have HS3 := tuck hs3
  have HB3 := tuck (bAfter (bAfter (bAfter HB2.out HB1.out) HBA.out) hb3)
  clear hb3 hs3 HCON rf1 x0 x1 x2 z0
  go_wp2_with fail
  refine bodyPost_ret (v := .tuple #[.agg #[.int .i64 U.kind, .int .i64 U.num, .slice a' U.kids.length c'], .bool true]) (by simp [results, Tryz.results58, go_sem, *]) rfl (HPOST.out _ U a' c' _ ?_ ?_ ?_ ?_)
  ·exact bSet3 HB3.out (Nat.le_succ _) _ _ _ _ _ _
  ·rfl
  ·exact (HS3.out.set3 (Or.inr ⟨Nat.le_succ _, by rw [HSZ.out]; omega⟩) _ _ _ _ _ _).narrow fun i h => Or.inl h
  ·exact fun _ => rfl
 ·have hcv : t.contr.Valid := contr_part hk hr h0 (by omega) (by omega)
  have hce : t.contr = kidT (kidT t 0) 1 := by unfold Tm.contr; rw [if_neg (by omega), if_neg (by omega), if_neg (by omega), if_neg (by omega), if_pos e]
  have HCON : Hid (∀ w2 : World, Below ((w.alloc (.cells #[.int .i64 t.kind, .int .i64 t.num, .slice a t.kids.length c] 25)).alloc (.cells #[.int .i64 0, .int .i64 0, .slice none 0 0] 25)).heap.size ((w.alloc (.cells #[.int .i64 t.kind, .int .i64 t.num, .slice a t.kids.length c] 25)).alloc (.cells #[.int .i64 0, .int .i64 0, .slice none 0 0] 25)) w2 → Calls Tryz.prog 119 #[.slice (some ⟨w2.heap.size, 0, none⟩) 2 2, .agg #[.int .i64 t.kind, .int .i64 t.num, .slice a t.kids.length c]] (w2.alloc (.cells #[.int .i64 0, .int .i64 1] 3)) (PartPost (With X w ((w.alloc (.cells #[.int .i64 t.kind, .int .i64 t.num, .slice a t.kids.length c] 25)).alloc (.cells #[.int .i64 0, .int .i64 0, .slice none 0 0] 25)).heap.size) (w2.alloc (.cells #[.int .i64 0, .int .i64 1] 3)) t.contr)) := tuck fun w2 h => by
   have hq := part_any [0, 1] t (⟨by omega, by have := kid_len (hkk 0 (by omega)).root hm (a := 3) (by decide); omega, trivial⟩) (by simp) (w2.alloc (.cells #[.int .i64 0, .int .i64 1] 3)) (With X w ((w.alloc (.cells #[.int .i64 t.kind, .int .i64 t.num, .slice a t.kids.length c] 25)).alloc (.cells #[.int .i64 0, .int .i64 0, .slice none 0 0] 25)).heap.size) _ ((HSW.out w2 h).below (below1 _ _)) w2.heap.size 2 (fun j hj => by
    simp only [List.length_cons, List.length_nil] at hj
    obtain rfl | rfl : j = 0 ∨ j = 1 := by omega
    ·simp
    ·simp) (fun j hj => by
    simp only [List.length_cons, List.length_nil] at hj
    obtain rfl | rfl : j = 0 ∨ j = 1 := by omega
    ·simp
    ·simp) (fun _ => by simp)
   rw [hce]
   exact hq
  have hmt : ∀ (n : Nat) (w : World) (v : Value), (method (n + 1) 121 v "loop.example/depkernel/impl.contractum").run Tryz.prog w = .ok (119, v) w := fun _ _ _ => by kernel_rfl
  have hcf : ∀ (args : Array Value) (w : World), (callFunc 119 args).run Tryz.prog w = .ok (.enter 119 args) w := fun _ _ => by kernel_rfl
  rw [e] at HRED
  rw [tr_of hcv] at HPOST
  clear hs hX hr hk h0 hkk hkd hl hm e HS HXW HSW hcv hce
  generalize t.contr = U at *
  go_enter Tryz.func58, Tryz.ntmps58
  go_wp2_with fail
  generalize ((w.alloc (.cells #[.int .i64 t.kind, .int .i64 t.num, .slice a t.kids.length c] 25)).alloc (.cells #[.int .i64 0, .int .i64 0, .slice none 0 0] 25)) = W0 at *
  refine HRED.out.mono ?_
  rintro e w1 ⟨rfl, hb1⟩
  obtain ⟨z0, a0, a1, a2, -⟩ := (HV0.out.below hb1).facts
  obtain ⟨z1, r0, r1, r2, rf⟩ := (HV1.out.below hb1).facts
  have HB1 := tuck hb1
  clear hb1 HRED
  have hz1w : w.heap.size + 1 < (w1.alloc (.cells #[.int .i64 0, .int .i64 1] 3)).heap.size := Nat.lt_of_lt_of_le z1 (below1 _ _).size
  replace r0 := ((below1 w1 (.cells #[.int .i64 0, .int .i64 1] 3)).cell (p := ⟨w.heap.size + 1, 0, none⟩) z1).trans r0
  replace r1 := ((below1 w1 (.cells #[.int .i64 0, .int .i64 1] 3)).cell (p := ⟨w.heap.size + 1, 1, none⟩) z1).trans r1
  replace r2 := ((below1 w1 (.cells #[.int .i64 0, .int .i64 1] 3)).cell (p := ⟨w.heap.size + 1, 2, none⟩) z1).trans r2
  have rf1 : ∀ i, (w1.alloc (.cells #[.int .i64 0, .int .i64 1] 3)).frozen? ⟨w.heap.size + 1, i, none⟩ = false := fun i => ((below1 w1 (.cells #[.int .i64 0, .int .i64 1] 3)).frozen (p := ⟨w.heap.size + 1, i, none⟩) z1).trans (rf i)
  have x0 := ((below1 w1 (.cells #[.int .i64 0, .int .i64 1] 3)).cell (p := ⟨w.heap.size, 0, none⟩) z0).trans a0
  have x1 := ((below1 w1 (.cells #[.int .i64 0, .int .i64 1] 3)).cell (p := ⟨w.heap.size, 1, none⟩) z0).trans a1
  have x2 := ((below1 w1 (.cells #[.int .i64 0, .int .i64 1] 3)).cell (p := ⟨w.heap.size, 2, none⟩) z0).trans a2
  have HBA := tuck (below1 w1 (.cells #[.int .i64 0, .int .i64 1] 3))
  clear a0 a1 a2 rf
  go_wp2_with (go_at_call 66; refine (rule5_any _).mono ?_; rintro e w2 ⟨rfl, rfl⟩)
  refine (HCON.out _ HB1.out).mono ?_
  rintro e w3 ⟨hb3, s3, rfl, hs3⟩
  obtain ⟨a', c', rfl⟩ := hs3.form
  replace r0 := (hb3.cell (p := ⟨w.heap.size + 1, 0, none⟩) hz1w).trans r0
  replace r1 := (hb3.cell (p := ⟨w.heap.size + 1, 1, none⟩) hz1w).trans r1
  replace r2 := (hb3.cell (p := ⟨w.heap.size + 1, 2, none⟩) hz1w).trans r2
  have rf3 : ∀ i, w3.frozen? ⟨w.heap.size + 1, i, none⟩ = false := fun i => (hb3.frozen (p := ⟨w.heap.size + 1, i, none⟩) hz1w).trans (rf1 i)
  have HS3 := tuck hs3
  have HB3 := tuck (bAfter (bAfter (bAfter HB2.out HB1.out) HBA.out) hb3)
  clear hb3 hs3 HCON rf1 x0 x1 x2 z0
  go_wp2_with fail
  refine bodyPost_ret (v := .tuple #[.agg #[.int .i64 U.kind, .int .i64 U.num, .slice a' U.kids.length c'], .bool true]) (by simp [results, Tryz.results58, go_sem, *]) rfl (HPOST.out _ U a' c' _ ?_ ?_ ?_ ?_)
  ·exact bSet3 HB3.out (Nat.le_succ _) _ _ _ _ _ _
  ·rfl
  ·exact (HS3.out.set3 (Or.inr ⟨Nat.le_succ _, by rw [HSZ.out]; omega⟩) _ _ _ _ _ _).narrow fun i h => Or.inl h
  ·exact fun _ => rfl
 ·have hcv : t.contr.Valid := contr_part hk hr h0 (by omega) (by omega)
  have hce : t.contr = kidT (kidT t 0) 2 := by unfold Tm.contr; rw [if_neg (by omega), if_neg (by omega), if_neg (by omega), if_neg (by omega), if_neg (by omega)]
  have HCON : Hid (∀ w2 : World, Below ((w.alloc (.cells #[.int .i64 t.kind, .int .i64 t.num, .slice a t.kids.length c] 25)).alloc (.cells #[.int .i64 0, .int .i64 0, .slice none 0 0] 25)).heap.size ((w.alloc (.cells #[.int .i64 t.kind, .int .i64 t.num, .slice a t.kids.length c] 25)).alloc (.cells #[.int .i64 0, .int .i64 0, .slice none 0 0] 25)) w2 → Calls Tryz.prog 119 #[.slice (some ⟨w2.heap.size, 0, none⟩) 2 2, .agg #[.int .i64 t.kind, .int .i64 t.num, .slice a t.kids.length c]] (w2.alloc (.cells #[.int .i64 0, .int .i64 2] 3)) (PartPost (With X w ((w.alloc (.cells #[.int .i64 t.kind, .int .i64 t.num, .slice a t.kids.length c] 25)).alloc (.cells #[.int .i64 0, .int .i64 0, .slice none 0 0] 25)).heap.size) (w2.alloc (.cells #[.int .i64 0, .int .i64 2] 3)) t.contr)) := tuck fun w2 h => by
   have hq := part_any [0, 2] t (⟨by omega, by have := kid_len (hkk 0 (by omega)).root hm (a := 3) (by decide); omega, trivial⟩) (by simp) (w2.alloc (.cells #[.int .i64 0, .int .i64 2] 3)) (With X w ((w.alloc (.cells #[.int .i64 t.kind, .int .i64 t.num, .slice a t.kids.length c] 25)).alloc (.cells #[.int .i64 0, .int .i64 0, .slice none 0 0] 25)).heap.size) _ ((HSW.out w2 h).below (below1 _ _)) w2.heap.size 2 (fun j hj => by
    simp only [List.length_cons, List.length_nil] at hj
    obtain rfl | rfl : j = 0 ∨ j = 1 := by omega
    ·simp
    ·simp) (fun j hj => by
    simp only [List.length_cons, List.length_nil] at hj
    obtain rfl | rfl : j = 0 ∨ j = 1 := by omega
    ·simp
    ·simp) (fun _ => by simp)
   rw [hce]
   exact hq
  have hmt : ∀ (n : Nat) (w : World) (v : Value), (method (n + 1) 121 v "loop.example/depkernel/impl.contractum").run Tryz.prog w = .ok (119, v) w := fun _ _ _ => by kernel_rfl
  have hcf : ∀ (args : Array Value) (w : World), (callFunc 119 args).run Tryz.prog w = .ok (.enter 119 args) w := fun _ _ => by kernel_rfl
  rw [e] at HRED
  rw [tr_of hcv] at HPOST
  clear hs hX hr hk h0 hkk hkd hl hm e HS HXW HSW hcv hce
  generalize t.contr = U at *
  go_enter Tryz.func58, Tryz.ntmps58
  go_wp2_with fail
  generalize ((w.alloc (.cells #[.int .i64 t.kind, .int .i64 t.num, .slice a t.kids.length c] 25)).alloc (.cells #[.int .i64 0, .int .i64 0, .slice none 0 0] 25)) = W0 at *
  refine HRED.out.mono ?_
  rintro e w1 ⟨rfl, hb1⟩
  obtain ⟨z0, a0, a1, a2, -⟩ := (HV0.out.below hb1).facts
  obtain ⟨z1, r0, r1, r2, rf⟩ := (HV1.out.below hb1).facts
  have HB1 := tuck hb1
  clear hb1 HRED
  have hz1w : w.heap.size + 1 < (w1.alloc (.cells #[.int .i64 0, .int .i64 2] 3)).heap.size := Nat.lt_of_lt_of_le z1 (below1 _ _).size
  replace r0 := ((below1 w1 (.cells #[.int .i64 0, .int .i64 2] 3)).cell (p := ⟨w.heap.size + 1, 0, none⟩) z1).trans r0
  replace r1 := ((below1 w1 (.cells #[.int .i64 0, .int .i64 2] 3)).cell (p := ⟨w.heap.size + 1, 1, none⟩) z1).trans r1
  replace r2 := ((below1 w1 (.cells #[.int .i64 0, .int .i64 2] 3)).cell (p := ⟨w.heap.size + 1, 2, none⟩) z1).trans r2
  have rf1 : ∀ i, (w1.alloc (.cells #[.int .i64 0, .int .i64 2] 3)).frozen? ⟨w.heap.size + 1, i, none⟩ = false := fun i => ((below1 w1 (.cells #[.int .i64 0, .int .i64 2] 3)).frozen (p := ⟨w.heap.size + 1, i, none⟩) z1).trans (rf i)
  have x0 := ((below1 w1 (.cells #[.int .i64 0, .int .i64 2] 3)).cell (p := ⟨w.heap.size, 0, none⟩) z0).trans a0
  have x1 := ((below1 w1 (.cells #[.int .i64 0, .int .i64 2] 3)).cell (p := ⟨w.heap.size, 1, none⟩) z0).trans a1
  have x2 := ((below1 w1 (.cells #[.int .i64 0, .int .i64 2] 3)).cell (p := ⟨w.heap.size, 2, none⟩) z0).trans a2
  have HBA := tuck (below1 w1 (.cells #[.int .i64 0, .int .i64 2] 3))
  clear a0 a1 a2 rf
  go_wp2_with (go_at_call 66; refine (rule6_any _).mono ?_; rintro e w2 ⟨rfl, rfl⟩)
  refine (HCON.out _ HB1.out).mono ?_
  rintro e w3 ⟨hb3, s3, rfl, hs3⟩
  obtain ⟨a', c', rfl⟩ := hs3.form
  replace r0 := (hb3.cell (p := ⟨w.heap.size + 1, 0, none⟩) hz1w).trans r0
  replace r1 := (hb3.cell (p := ⟨w.heap.size + 1, 1, none⟩) hz1w).trans r1
  replace r2 := (hb3.cell (p := ⟨w.heap.size + 1, 2, none⟩) hz1w).trans r2
  have rf3 : ∀ i, w3.frozen? ⟨w.heap.size + 1, i, none⟩ = false := fun i => (hb3.frozen (p := ⟨w.heap.size + 1, i, none⟩) hz1w).trans (rf1 i)
  have HS3 := tuck hs3
  have HB3 := tuck (bAfter (bAfter (bAfter HB2.out HB1.out) HBA.out) hb3)
  clear hb3 hs3 HCON rf1 x0 x1 x2 z0
  go_wp2_with fail
  refine bodyPost_ret (v := .tuple #[.agg #[.int .i64 U.kind, .int .i64 U.num, .slice a' U.kids.length c'], .bool true]) (by simp [results, Tryz.results58, go_sem, *]) rfl (HPOST.out _ U a' c' _ ?_ ?_ ?_ ?_)
  ·exact bSet3 HB3.out (Nat.le_succ _) _ _ _ _ _ _
  ·rfl
  ·exact (HS3.out.set3 (Or.inr ⟨Nat.le_succ _, by rw [HSZ.out]; omega⟩) _ _ _ _ _ _).narrow fun i h => Or.inl h
  ·exact fun _ => rfl
end Go.Proofs.YtlbikgnanabjgaaGreat
