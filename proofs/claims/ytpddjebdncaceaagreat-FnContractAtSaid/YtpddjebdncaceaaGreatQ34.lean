/-
  PlA, PlP, Ints, Norm, TeleP, PlB.
-/
import Derived.Test.YtpddjebdncaceaaGreatQ01
import Derived.Test.YtpddjebdncaceaaGreatQ08
import Derived.Test.YtpddjebdncaceaaGreatQ10
import Derived.Test.YtpddjebdncaceaaGreatQ11
import Derived.Test.YtpddjebdncaceaaGreatQ24
import Derived.Test.YtpddjebdncaceaaGreatQ31
import Derived.Test.YtpddjebdncaceaaGreatQ33
import Derived.Laws.MakeOwn
import Derived.ProofKit
import Derived.StillTailTactics
import Derived.Test.YtpddjebdncaceaaGreatProg
import Derived.WalkSpells
namespace Go.Proofs.YtpddjebdncaceaaGreat
open Go.RowKit
def Ints (w : World) (B : Nat) (N : Int → Int) (len : Nat) (v : Value) : Prop :=
 ∃ a cap b o, v = .slice a len cap ∧ (0 < len → a = some ⟨b, o, none⟩ ∧ B ≤ b ∧ b < w.heap.size) ∧ ∀ i : Nat, i < len → w.cell? ⟨b, o + i, none⟩ = some (I6 (N i))
theorem Ints.below {w w' : World} {B : Nat} {N : Int → Int} {len : Nat} {v : Value} (h : Ints w B N len v) (hb : Below w.heap.size w w') : Ints w' B N len v := by
 obtain ⟨a, cap, b, o, rfl, h1, h2⟩ := h
 exact ⟨a, cap, b, o, rfl, fun h => ⟨(h1 h).1, (h1 h).2.1, Nat.lt_of_lt_of_le (h1 h).2.2 hb.size⟩, fun i hi => (hb.cell (p := ⟨b, o + i, none⟩) (h1 (by omega)).2.2).trans (h2 i hi)⟩
theorem Ints.mono {w : World} {B B' : Nat} {N : Int → Int} {len : Nat} {v : Value} (h : Ints w B N len v) (hB : B' ≤ B) : Ints w B' N len v := by
 obtain ⟨a, cap, b, o, rfl, h1, h2⟩ := h
 exact ⟨a, cap, b, o, rfl, fun h => ⟨(h1 h).1, Nat.le_trans hB (h1 h).2.1, (h1 h).2.2⟩, h2⟩
theorem Ints.form {w : World} {B : Nat} {N : Int → Int} {len : Nat} {v : Value} (h : Ints w B N len v) : ∃ a cap, v = .slice a len cap := by
 obtain ⟨a, cap, _, _, h1, _⟩ := h
 exact ⟨a, cap, h1⟩
theorem info_int : (Tryz.prog.info? 3).map (fun i => (i.zero, i.size, i.bytes)) = some (some (I6 0), 1, 8) := by kernel_rfl
end Go.Proofs.YtpddjebdncaceaaGreat
namespace Go.Proofs.YtpddjebdncaceaaGreat
mutual
def Tm.nodesFrom : Tm → List (Tm × Nat) → List (List (Tm × Nat) × Tm)
 | .mk k n l, p => (p, .mk k n l) :: kidsFrom (.mk k n l) l 0 p
def kidsFrom : Tm → List Tm → Nat → List (Tm × Nat) → List (List (Tm × Nat) × Tm)
 | _, [], _, _ => []
 | t0, t :: l, i, p => t.nodesFrom (p ++ [(t0, i)]) ++ kidsFrom t0 l (i + 1) p
end
mutual
theorem Tm.nodes_len : ∀ (t : Tm) (p : List (Tm × Nat)), (t.nodesFrom p).length = t.size
 | .mk k n l, p => by
  rw [Tm.nodesFrom, List.length_cons, kids_len (.mk k n l) l 0 p, Tm.size]
  omega
theorem kids_len : ∀ (t0 : Tm) (l : List Tm) (i : Nat) (p : List (Tm × Nat)), (kidsFrom t0 l i p).length = sizes l
 | _, [], _, _ => by rw [kidsFrom, sizes]; rfl
 | t0, t :: l, i, p => by
  rw [kidsFrom, List.length_append, t.nodes_len, kids_len t0 l (i + 1) p, sizes]
end
def NodeOk (H : Nat) (y : List (Tm × Nat) × Tm) : Prop := y.2.Valid ∧ InPath y.1 ∧ (∀ z ∈ y.1, z.1.Valid) ∧ hgts y.2.kids + y.1.length ≤ H
theorem NodeOk.kid {H : Nat} {p : List (Tm × Nat)} {t : Tm} (h : NodeOk H (p, t)) {i : Nat} (hi : i < t.kids.length) : NodeOk H (p ++ [(t, i)], kidT t i) := by
 obtain ⟨h1, h2, h3, h4⟩ := h
 refine ⟨h1.kidT hi, inPath_snoc h2 hi, fun z hz => ?_, ?_⟩
 ·rcases List.mem_append.1 hz with hz | hz
  ·exact h3 z hz
  ·rw [List.mem_singleton.1 hz]; exact h1
 ·have k1 := mem_hgts hi
  have k2 := (t.kids[i]).hgt_eq
  show hgts (kidT t i).kids + (p ++ [(t, i)]).length ≤ H
  rw [kidT_eq hi, List.length_append, List.length_singleton]
  show hgts t.kids[i].kids + (p.length + 1) ≤ H
  have h4' : hgts t.kids + p.length ≤ H := h4
  omega
mutual
theorem Tm.nodes_ok {H : Nat} : ∀ (t : Tm) (p : List (Tm × Nat)), NodeOk H (p, t) → ∀ y ∈ t.nodesFrom p, NodeOk H y
 | .mk k n l, p, h, y, hy => by
  rw [Tm.nodesFrom] at hy
  rcases List.mem_cons.1 hy with rfl | hy
  ·exact h
  ·exact kids_ok (.mk k n l) l 0 p (by simp [Tm.kids]) h y hy
theorem kids_ok {H : Nat} : ∀ (t0 : Tm) (l : List Tm) (i : Nat) (p : List (Tm × Nat)), t0.kids.drop i = l → NodeOk H (p, t0) → ∀ y ∈ kidsFrom t0 l i p, NodeOk H y
 | _, [], _, _, _, _, y, hy => by rw [kidsFrom] at hy; cases hy
 | t0, t :: l, i, p, hd, h, y, hy => by
  have hi : i < t0.kids.length := by
   rcases Nat.lt_or_ge i t0.kids.length with h | h
   ·exact h
   ·rw [List.drop_eq_nil_of_le h] at hd; cases hd
  have hdd := List.drop_eq_getElem_cons hi
  rw [hd] at hdd
  obtain ⟨ht, hl⟩ := List.cons.inj hdd
  have hk : kidT t0 i = t := by rw [kidT_eq hi, ht]
  rw [kidsFrom] at hy
  rcases List.mem_append.1 hy with hy | hy
  ·exact t.nodes_ok (p ++ [(t0, i)]) (hk ▸ h.kid hi) y hy
  ·exact kids_ok t0 l (i + 1) p hl.symm h y hy
end
theorem Tm.Valid.nodes {t : Tm} (h : t.Valid) : ∀ y ∈ t.nodesFrom [], NodeOk (hgts t.kids) y := t.nodes_ok [] ⟨h, trivial, fun z hz => (by cases hz), Nat.le_refl _⟩
theorem NodeOk.short {t : Tm} {y : List (Tm × Nat) × Tm} (h : NodeOk (hgts t.kids) y) (hv : t.Valid) : y.1.length ≤ 29 := by
 have h1 := h.2.2.2
 have h2 := t.hgt_eq
 have h3 := hv.2.1
 omega
end Go.Proofs.YtpddjebdncaceaaGreat
namespace Go.Proofs.YtpddjebdncaceaaGreat
open Go.RowKit
def CurAt (u : World) (g : Nat) (t : Tm) (p : List (Tm × Nat)) (M : Nat → Prop) (w : World) : Prop :=
 View u M w ∧ ∃ s qs, SlIn u 0 t.kids s ∧ Passed u p qs ∧ StkAt g 3 81 #[I6 t.kind, I6 t.num, s, .slice none 0 0] qs M w
theorem cur_cells {g : Nat} {x y z d : Value} {qs : List (Tm × Value × Nat)} {M : Nat → Prop} {w : World} {T : TypeId} (h : StkAt g 3 T #[x, y, z, d] qs M w) : g < w.heap.size ∧ w.cell? ⟨g, 0, none⟩ = some x ∧ w.cell? ⟨g, 1, none⟩ = some y ∧ w.cell? ⟨g, 2, none⟩ = some z ∧ ∀ i, w.frozen? ⟨g, i, none⟩ = false := by
 obtain ⟨-, v, h2, -, -, -⟩ := h
 obtain ⟨z1, z2, z3⟩ := block_of_cells h2
 exact ⟨z1, (z2 0).trans (by simp), (z2 1).trans (by simp), (z2 2).trans (by simp), z3⟩
theorem cur_put {g : Nat} {x y z d x' y' z' : Value} {qs : List (Tm × Value × Nat)} {M : Nat → Prop} {w : World} {T : TypeId} (h : StkAt g 3 T #[x, y, z, d] qs M w) : StkAt g 3 T #[x', y', z', d] qs M (((w.setCell ⟨g, 0, none⟩ x').setCell ⟨g, 1, none⟩ y').setCell ⟨g, 2, none⟩ z') := by
 obtain ⟨h1, v, h2, ho, h3, h4⟩ := h
 refine ⟨h1, v, ?_, by simp, ?_, h4⟩
 ·have := block_set (block_set (block_set h2 0 x') 1 y') 2 z'
  simpa using this
 ·exact ownsRow_setCell_below (ownsRow_setCell_below (ownsRow_setCell_below h3 (a := ⟨g, 0, none⟩) (Nat.lt_succ_self g) _) (a := ⟨g, 1, none⟩) (Nat.lt_succ_self g) _) (a := ⟨g, 2, none⟩) (Nat.lt_succ_self g) _
theorem Passed.length {u : World} : ∀ {p : List (Tm × Nat)} {qs : List (Tm × Value × Nat)}, Passed u p qs → qs.length = p.length
 | [], [], _ => rfl
 | _ :: p, _ :: q, h => by rw [List.length_cons, List.length_cons, Passed.length (p := p) (qs := q) h.2.2.2]
 | [], _ :: _, h => by cases h
 | _ :: _, [], h => by cases h
theorem Passed.snoc {u : World} {t : Tm} {s : Value} {i : Nat} (hs : SlIn u 0 t.kids s) : ∀ {p : List (Tm × Nat)} {qs : List (Tm × Value × Nat)}, Passed u p qs → Passed u (p ++ [(t, i)]) (qs ++ [(t, s, i)])
 | [], [], _ => ⟨rfl, rfl, hs, trivial⟩
 | _ :: p, _ :: q, h => ⟨h.1, h.2.1, h.2.2.1, Passed.snoc hs (p := p) (qs := q) h.2.2.2⟩
 | [], _ :: _, h => by cases h
 | _ :: _, [], h => by cases h
theorem Step.set3 {M M' : Nat → Prop} {a b : World} (h : Step M a b M') {g : Nat} (hg : M' g) (x y z : Value) : Step M a (((b.setCell ⟨g, 0, none⟩ x).setCell ⟨g, 1, none⟩ y).setCell ⟨g, 2, none⟩ z) M' :=
 ((h.setCell (p := ⟨g, 0, none⟩) hg _).setCell (p := ⟨g, 1, none⟩) hg _).setCell (p := ⟨g, 2, none⟩) hg _
theorem View.set3 {u w : World} {M : Nat → Prop} (h : View u M w) {g : Nat} (hg : M g) (x y z : Value) : View u M (((w.setCell ⟨g, 0, none⟩ x).setCell ⟨g, 1, none⟩ y).setCell ⟨g, 2, none⟩ z) :=
 ((h.set (q := ⟨g, 0, none⟩) hg _).set (q := ⟨g, 1, none⟩) hg _).set (q := ⟨g, 2, none⟩) hg _
def MovePost (u : World) (g : Nat) (t : Tm) (p : List (Tm × Nat)) (M : Nat → Prop) (w : World) (v : Value) (e : Ending) (w' : World) : Prop := e = .returned v ∧ ∃ M', Step M w w' M' ∧ CurAt u g t p M' w'
set_option maxRecDepth 100000 in
set_option maxHeartbeats 1600000 in
theorem down_yes {u w : World} {g : Nat} {t : Tm} {p : List (Tm × Nat)} {M : Nat → Prop} (i : Nat) (hi : i < t.kids.length) (hp : p.length < 100) (h : CurAt u g t p M w) :
  Calls Tryz.prog 79 #[.pointer (some ⟨g, 0, none⟩), I6 (i : Int)] w (MovePost u g (kidT t i) (p ++ [(t, i)]) M w (.bool true)) := by
 obtain ⟨hu, s, qs, hs, hpas, hst⟩ := h
 obtain ⟨a, cap, bb, o, rfl, hl, hpp, hc⟩ := hs.open
 unfold maxLen at hl
 obtain ⟨rfl, -, hbw⟩ := hpp (by intro e; rw [e] at hi; simp at hi)
 obtain ⟨sv, c0, c1, c2, hsv⟩ := hc i hi
 obtain ⟨sa, sc, rfl⟩ := hsv.form
 obtain ⟨z, d0, d1, d2, df⟩ := cur_cells hst
 have hi0 : (0 : Int) ≤ (i : Int) := by omega
 have hil : (i : Int) < (t.kids.length : Int) := by omega
 have HPUSH := tuck (push_any (k := t.kind) (n := t.num) (some ⟨bb, o, none⟩) t.kids.length cap i t ⟨rfl, rfl⟩ (by rw [hpas.length]; exact hp) (hst.below (Below.refl _ _).drew))
 have HST0 := tuck (Step.of_below (M := M) (Below.refl _ w).drew (fun i hi => (hst.lt i hi).2))
 have HPAS := tuck (Passed.snoc (i := i) hs hpas)
 have HU := tuck hu
 have hkid := kidT_eq hi
 have HPOST : Hid (∀ w' M' v, Step M w w' M' → View u M' w' → v = .slice sa t.kids[i].kids.length sc → StkAt g 3 81 #[I6 t.kids[i].kind, I6 t.kids[i].num, v, .slice none 0 0] (qs ++ [(t, .slice (some ⟨bb, o, none⟩) t.kids.length cap, i)]) M' w' → MovePost u g (kidT t i) (p ++ [(t, i)]) M w (.bool true) (.returned (.bool true)) w') := tuck fun w' M' v h1 h2 h3 h4 => by
  rw [hkid]
  subst h3
  exact ⟨rfl, M', h1, h2, _, _, hsv, HPAS.out, h4⟩
 generalize MovePost u g (kidT t i) (p ++ [(t, i)]) M w (.bool true) = post at *
 have hbb := World.block_lt_of_cell? u _ c0
 have HC0 := tuck c0
 have HC1 := tuck c1
 have HC2 := tuck c2
 clear hst hpas hu hpp hc hsv hs hkid c0 c1 c2 hbw
 generalize t.kids[i] = T at *
 go_enter Tryz.func79, Tryz.ntmps79
 go_wp2_with fail
 go_still_tail 8, (by kernel_rfl)
 change wpList _ _ _ _ _ w.drew
 go_wp2_with fail
 refine HPUSH.out.mono ?_
 rintro e w1 ⟨rfl, M', hstep', hst⟩
 have hstep := HST0.out.trans hstep'
 clear hstep'
 have hu1 := HU.out.step hstep
 have e0 := hu1.rd _ _ HC0.out
 have e1 := hu1.rd _ _ HC1.out
 have e2 := hu1.rd _ _ HC2.out
 have heb := World.block_lt_of_cell? w1 _ e0
 obtain ⟨z, d0, d1, d2, df⟩ := cur_cells hst
 have HST := tuck hst
 have HSTEP := tuck hstep
 have HU1 := tuck hu1
 clear hst hstep hu1
 go_wp2_with fail
 exact HPOST.out _ M' _ (HSTEP.out.set3 HST.out.own _ _ _) (HU1.out.set3 HST.out.own _ _ _) rfl (cur_put HST.out)
set_option maxRecDepth 100000 in
theorem down_no {u w : World} {g : Nat} {t : Tm} {p : List (Tm × Nat)} {M : Nat → Prop} (i : Int) (hi : ¬ (0 ≤ i ∧ i < (t.kids.length : Int))) (h : CurAt u g t p M w) :
  Calls Tryz.prog 79 #[.pointer (some ⟨g, 0, none⟩), I6 i] w fun e w' => e = .returned (.bool false) ∧ w' = w := by
 obtain ⟨hu, s, qs, hs, hpas, hst⟩ := h
 obtain ⟨a, cap, rfl⟩ := hs.form
 obtain ⟨z, d0, d1, d2, df⟩ := cur_cells hst
 clear hu hs hpas hst
 by_cases h0 : i < 0
 ·clear hi
  go_enter Tryz.func79, Tryz.ntmps79
  go_wp2_with fail
  go_ret
  exact ⟨rfl, rfl⟩
 ·have hge : (t.kids.length : Int) ≤ i := by omega
  clear hi
  go_enter Tryz.func79, Tryz.ntmps79
  go_wp2_with fail
  go_ret
  exact ⟨rfl, rfl⟩
end Go.Proofs.YtpddjebdncaceaaGreat
namespace Go.Proofs.YtpddjebdncaceaaGreat
open Go.RowKit
theorem CurAt.new (u w1 : World) (t : Tm) (s : Value) (hb : Below u.heap.size u w1) (hs : SlIn u 0 t.kids s) :
  CurAt u w1.heap.size t [] (fun i => i = w1.heap.size ∨ (Value.slice none 0 0).ownBlock = some i) (w1.alloc (.cells #[I6 t.kind, I6 t.num, s, .slice none 0 0] 81)) := by
 refine ⟨View.of_below (bAfter hb (below1 _ _)) ?_, s, [], hs, trivial, by simp, .slice none 0 0, by simpa using heap_new w1 (.cells #[I6 t.kind, I6 t.num, s, .slice none 0 0] 81), by simp, World.ownsRow_nil _ _ _ _, rfl⟩
 rintro i (rfl | h)
 ·exact hb.size
 ·cases h
def PlacePost (t : Tm) (N : Int → Int) (len : Nat) (w : World) (e : Ending) (w' : World) : Prop :=
 Below w.heap.size w w' ∧ ((IsPlace t N len ∧ ∃ g M, e = .returned (.tuple #[.pointer (some ⟨g, 0, none⟩), .bool true]) ∧ CurAt w g (wayT t N len) (wayP t N len) M w' ∧ ∀ i, M i → w.heap.size ≤ i) ∨ (¬ IsPlace t N len ∧ e = .returned (.tuple #[.pointer none, .bool false])))
set_option maxRecDepth 100000 in
set_option maxHeartbeats 1600000 in
theorem placeI_any (t : Tm) (N : Int → Int) (len : Nat) (hlen : len ≤ 1048576) (w : World) (vt vp : Value) (ht : TmIn w 0 t vt) (hp : Ints w 0 N len vp) :
  Calls Tryz.prog 43 #[vp, vt] w (PlacePost t N len w) := by
 obtain ⟨s, rfl, hs⟩ := ht
 obtain ⟨a, c, rfl⟩ := hs.form
 obtain ⟨pa, pc, pb, po, rfl, hp1, hp2⟩ := hp
 have HPY : Hid (∀ e w', Below w.heap.size w w' → IsPlace t N len → (∃ g M, e = .returned (.tuple #[.pointer (some ⟨g, 0, none⟩), .bool true]) ∧ CurAt w g (wayT t N len) (wayP t N len) M w' ∧ ∀ i, M i → w.heap.size ≤ i) → PlacePost t N len w e w') := tuck fun e w' h1 h2 h3 => ⟨h1, Or.inl ⟨h2, h3⟩⟩
 have HPN : Hid (∀ w', Below w.heap.size w w' → ¬ IsPlace t N len → PlacePost t N len w (.returned (.tuple #[.pointer none, .bool false])) w') := tuck fun w' h1 h2 => ⟨h1, Or.inr ⟨h2, rfl⟩⟩
 generalize PlacePost t N len w = post at *
 have HV := tuck (fun w' (h : SlIn w' 0 t.kids (.slice a t.kids.length c)) => validI_any t w' _ ⟨_, rfl, h⟩)
 have HS := tuck hs
 have HP1 := tuck hp1
 have HP2 := tuck hp2
 have HBX := tuck (VarAt.new w t.kind t.num (.slice a t.kids.length c))
 clear hs hp1 hp2
 have HB0 := tuck (below1 w (.cells #[I6 t.kind, I6 t.num, .slice a t.kids.length c] 34))
 go_enter Tryz.func43, Tryz.ntmps43
 go_wp2_with fail
 generalize w.alloc (.cells #[I6 t.kind, I6 t.num, .slice a t.kids.length c] 34) = W0 at *
 refine (HV.out W0 (HS.out.below HB0.out)).mono ?_
 rintro e w1 ⟨rfl, hb1⟩
 have HB1 := tuck (bAfter HB0.out hb1)
 obtain ⟨z, d0, d1, d2, df⟩ := (HBX.out.below hb1).facts
 clear hb1 HV HB0 HBX
 by_cases hv : t.Valid
 case neg =>
  rw [tr_not hv]
  go_wp2_with fail
  exact HPN.out w1 HB1.out fun h => hv h.1
 rw [tr_of hv]
 have hb2 := bAfter HB1.out (below1 w1 (.cells #[I6 t.kind, I6 t.num, .slice a t.kids.length c, .slice none 0 0] 81))
 have hM : ∀ i, (fun i => i = w1.heap.size ∨ (Value.slice none 0 0).ownBlock = some i) i → w.heap.size ≤ i := by
  rintro i (rfl | h)
  ·exact HB1.out.size
  ·cases h
 obtain ⟨M0, hcur, hM⟩ : ∃ M0 : Nat → Prop, CurAt w w1.heap.size t [] M0 (w1.alloc (.cells #[I6 t.kind, I6 t.num, .slice a t.kids.length c, .slice none 0 0] 81)) ∧ ∀ i, M0 i → w.heap.size ≤ i := ⟨_, CurAt.new w w1 t _ HB1.out HS.out, hM⟩
 have HCUR := tuck hcur
 have HB2 := tuck hb2
 have HM := tuck hM
 clear hcur hb2 hM
 go_wp2_with fail
 generalize w1.alloc (.cells #[I6 t.kind, I6 t.num, .slice a t.kids.length c, .slice none 0 0] 81) = W2 at *
 generalize w1.heap.size = g at *
 go_loopw [17] (fun i wr => ∃ (q : Nat) (p : List (Tm × Nat)) (x : Tm) (M : Nat → Prop), q ≤ len ∧ i = I6 q ∧ Below w.heap.size w wr ∧ way t N q = some (p, x) ∧ CurAt w g x p M wr ∧ ∀ i, M i → w.heap.size ≤ i) (fun i _ => len - (intOf i).toNat)
 case atStart => exact ⟨0, [], t, M0, Nat.zero_le _, rfl, HB2.out, rfl, HCUR.out, HM.out⟩
 case round =>
  obtain ⟨q, p, x, M, hq, rfl, hb, hw, hc, hm⟩ := hrel
  have HB := tuck hb
  have HW := tuck hw
  have HC := tuck hc
  have HMM := tuck hm
  clear hb hw hc hm
  by_cases hlt : q < len
  ·have hlti : ((q : Int) < (len : Int)) := by omega
   obtain ⟨rfl, -, hbl⟩ := HP1.out (by omega)
   have c0 := (HB.out.cell (p := ⟨pb, po + q, none⟩) hbl).trans (HP2.out q hlt)
   have hpb := World.block_lt_of_cell? wr _ c0
   have hk := way_ok hv q p x HW.out
   have hshort := hk.short hv
   have hqi : (0 : Int) ≤ (q : Int) := by omega
   by_cases hi : 0 ≤ N q ∧ N q < (x.kids.length : Int)
   ·obtain ⟨i, hNi⟩ : ∃ i : Nat, N q = (i : Int) := ⟨(N q).toNat, by omega⟩
    have hwy := way_yes HW.out hi
    rw [hNi] at c0 hi hwy
    rw [show ((i : Int)).toNat = i by omega] at hwy
    have HD := tuck (down_yes i (by omega) (by omega) HC.out)
    have HWY := tuck hwy
    clear hi hwy hk hNi
    go_wp2_with fail
    refine HD.out.mono ?_
    rintro e w3 ⟨rfl, M', hst, hc3⟩
    have HST := tuck hst
    have HC3 := tuck hc3
    clear hst hc3
    go_wp2_with fail
    go_roundw
    case rel => exact ⟨q + 1, _, _, M', by omega, by go_num, HST.out.below HB.out HB.out.size HMM.out, HWY.out, HC3.out, HST.out.ge HB.out.size HMM.out⟩
    case measure => simp [intOf]; omega
   ·have HD := tuck (down_no (N q) hi HC.out)
    have hno := no_place HW.out hi hlt
    generalize N q = nq at *
    clear hi hk
    go_wp2_with fail
    refine HD.out.mono ?_
    rintro e w3 ⟨rfl, rfl⟩
    go_wp2_with fail
    exact HPN.out _ HB.out hno
  ·obtain rfl : q = len := by omega
   have hlti : ¬ ((q : Int) < (q : Int)) := by omega
   have hpl := is_place hv HW.out
   rw [← hpl.2.1, ← hpl.2.2] at HC
   have hpi := hpl.1
   clear hlt hpl
   go_wp2_with fail
   exact HPY.out _ _ HB.out hpi ⟨g, M, rfl, HC.out, HMM.out⟩
end Go.Proofs.YtpddjebdncaceaaGreat
namespace Go.Proofs.YtpddjebdncaceaaGreat
open Go.RowKit
set_option maxRecDepth 100000 in
theorem outside_any (w : World) : Calls Tryz.prog 55 #[] w fun e w' => e = .returned (.agg #[.bool false, .bool false]) ∧ Below w.heap.size w w' := by
 go_enter Tryz.func55, Tryz.ntmps55
 go_wp2_with fail
 refine bodyPost_ret (v := .agg #[.bool false, .bool false]) (by simp [results, Tryz.results55, go_sem, *]) rfl ⟨rfl, ?_⟩
 exact below1 _ _
end Go.Proofs.YtpddjebdncaceaaGreat
namespace Go.Proofs.YtpddjebdncaceaaGreat
open Go.RowKit
def TlRes (w : World) (P : Prop) (T : Tm) (e : Ending) (w' : World) : Prop := Below w.heap.size w w' ∧ ∃ (a : Option Addr) (c : Nat), e = .returned (.tuple #[.agg #[I6 (orZero P T).kind, I6 (orZero P T).num, .slice a (orZero P T).kids.length c], .bool (tr P)]) ∧ SlIn w' w.heap.size (orZero P T).kids (.slice a (orZero P T).kids.length c)
theorem TlRes.no {w w' : World} {P : Prop} {T : Tm} (hP : ¬ P) (hb : Below w.heap.size w w') : TlRes w P T (.returned (.tuple #[.agg #[I6 0, I6 0, .slice none 0 0], .bool false])) w' := by
 have h : orZero P T = zeroT := by unfold orZero; rw [if_neg hP]
 refine ⟨hb, none, 0, ?_, ?_⟩
 ·rw [h, tr_not hP]; rfl
 ·rw [h]; exact SlIn.nil _ _ _ _
theorem TlRes.yes {w w' : World} {P : Prop} {T : Tm} {a : Option Addr} {c : Nat} (hP : P) (hb : Below w.heap.size w w') (hs : SlIn w' w.heap.size T.kids (.slice a T.kids.length c)) : TlRes w P T (.returned (.tuple #[.agg #[I6 T.kind, I6 T.num, .slice a T.kids.length c], .bool true])) w' := by
 have h : orZero P T = T := by unfold orZero; rw [if_pos hP]
 refine ⟨hb, a, c, ?_, ?_⟩
 ·rw [h, tr_of hP]
 ·rw [h]; exact hs
end Go.Proofs.YtpddjebdncaceaaGreat
