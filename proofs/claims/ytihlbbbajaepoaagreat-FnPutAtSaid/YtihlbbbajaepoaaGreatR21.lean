/-
  Plc, PlA.
-/
import Derived.Test.YtihlbbbajaepoaaGreatR16
import Derived.StillTailTactics
namespace Go.Proofs.YtihlbbbajaepoaaGreat
def way (t : Tm) (N : Int → Int) : Nat → Option (List (Tm × Nat) × Tm)
 | 0 => some ([], t)
 | i + 1 => (way t N i).bind fun x => if 0 ≤ N i ∧ N i < (x.2.kids.length : Int) then some (x.1 ++ [(x.2, (N i).toNat)], kidT x.2 (N i).toNat) else none
def wayP (t : Tm) (N : Int → Int) (i : Nat) : List (Tm × Nat) := ((way t N i).getD ([], zeroT)).1
def wayT (t : Tm) (N : Int → Int) (i : Nat) : Tm := ((way t N i).getD ([], zeroT)).2
def IsPlace (t : Tm) (N : Int → Int) (len : Nat) : Prop := t.Valid ∧ (way t N len).isSome = true
theorem way_yes {t : Tm} {N : Int → Int} {i : Nat} {p : List (Tm × Nat)} {x : Tm} (h : way t N i = some (p, x)) (hi : 0 ≤ N i ∧ N i < (x.kids.length : Int)) : way t N (i + 1) = some (p ++ [(x, (N i).toNat)], kidT x (N i).toNat) := by
 rw [way, h]
 simp only [Option.bind_some]
 rw [if_pos hi]
theorem way_no {t : Tm} {N : Int → Int} {i : Nat} {p : List (Tm × Nat)} {x : Tm} (h : way t N i = some (p, x)) (hi : ¬ (0 ≤ N i ∧ N i < (x.kids.length : Int))) : way t N (i + 1) = none := by
 rw [way, h]
 simp only [Option.bind_some]
 rw [if_neg hi]
theorem way_stays {t : Tm} {N : Int → Int} {i : Nat} (h : way t N i = none) : ∀ k, way t N (i + k) = none
 | 0 => h
 | k + 1 => by
  rw [← Nat.add_assoc, way, way_stays h k]
  rfl
theorem no_place {t : Tm} {N : Int → Int} {i len : Nat} {p : List (Tm × Nat)} {x : Tm} (h : way t N i = some (p, x)) (hi : ¬ (0 ≤ N i ∧ N i < (x.kids.length : Int))) (hl : i < len) : ¬ IsPlace t N len := by
 rintro ⟨-, h2⟩
 have := way_stays (way_no h hi) (len - (i + 1))
 rw [show i + 1 + (len - (i + 1)) = len by omega] at this
 rw [this] at h2
 cases h2
theorem is_place {t : Tm} {N : Int → Int} {len : Nat} {p : List (Tm × Nat)} {x : Tm} (hv : t.Valid) (h : way t N len = some (p, x)) : IsPlace t N len ∧ wayP t N len = p ∧ wayT t N len = x := by
 refine ⟨⟨hv, by rw [h]; rfl⟩, ?_, ?_⟩
 ·rw [wayP, h]; rfl
 ·rw [wayT, h]; rfl
theorem IsPlace.way {t : Tm} {N : Int → Int} {len : Nat} (h : IsPlace t N len) : way t N len = some (wayP t N len, wayT t N len) := by
 obtain ⟨-, h⟩ := h
 unfold wayP wayT
 cases hw : Go.Proofs.YtihlbbbajaepoaaGreat.way t N len with
 | none => rw [hw] at h; cases h
 | some y => rfl
def Chain (t : Tm) : List (Tm × Nat) → Tm → Prop
 | [], x => t = x
 | (a, i) :: p, x => a = t ∧ i < t.kids.length ∧ Chain (kidT t i) p x
theorem Chain.snoc : ∀ {p : List (Tm × Nat)} {t x : Tm} {i : Nat}, Chain t p x → i < x.kids.length → Chain t (p ++ [(x, i)]) (kidT x i)
 | [], _, _, _, h, hi => by
  rw [Chain] at h
  subst h
  exact ⟨rfl, hi, rfl⟩
 | (a, j) :: p, t, x, i, h, hi => ⟨h.1, h.2.1, Chain.snoc (p := p) h.2.2 hi⟩
theorem around_snoc : ∀ (p : List (Tm × Nat)) (x z : Tm) (i : Nat), around (p ++ [(x, i)]) z = around p (.mk x.kind x.num (x.kids.set i z))
 | [], x, z, i => rfl
 | (a, j) :: p, x, z, i => by
  rw [List.cons_append, around, around, around_snoc p x z i]
theorem set_kidT {l : List Tm} {i : Nat} (hi : i < l.length) : l.set i (l.getD i zeroT) = l := by
 apply List.ext_getElem
 ·simp
 ·intro j h1 h2
  by_cases e : i = j
  ·subst e
   simp [List.getD_eq_getElem?_getD, List.getElem?_eq_getElem hi]
  ·simp [List.getElem_set_ne e]
theorem inPath_snoc : ∀ {p : List (Tm × Nat)} {x : Tm} {i : Nat}, InPath p → i < x.kids.length → InPath (p ++ [(x, i)])
 | [], _, _, _, hi => ⟨hi, trivial⟩
 | _ :: p, _, _, h, hi => ⟨h.1, inPath_snoc (p := p) h.2 hi⟩
structure Known (t : Tm) (N : Int → Int) (i : Nat) (p : List (Tm × Nat)) (x : Tm) : Prop where
 len : p.length = i
 valid : x.Valid
 room : hgts x.kids + p.length ≤ hgts t.kids
 inn : InPath p
 nodes : ∀ y ∈ p, y.1.Valid
 back : around p x = t
 chain : Chain t p x
 ix : ∀ j (h : j < p.length), ((p[j].2 : Nat) : Int) = N (j : Int)
theorem way_ok {t : Tm} {N : Int → Int} (hv : t.Valid) : ∀ (i : Nat) (p : List (Tm × Nat)) (x : Tm), way t N i = some (p, x) → Known t N i p x
 | 0, p, x, h => by
  rw [way] at h
  obtain ⟨rfl, rfl⟩ : [] = p ∧ t = x := by simpa using h
  exact ⟨rfl, hv, Nat.le_refl _, trivial, fun y hy => (by cases hy), rfl, rfl, fun j h => (by simp at h)⟩
 | i + 1, p, x, h => by
  rw [way] at h
  cases hw : way t N i with
  | none => rw [hw] at h; cases h
  | some y =>
   obtain ⟨q, z⟩ := y
   rw [hw] at h
   simp only [Option.bind_some] at h
   by_cases hi : 0 ≤ N i ∧ N i < (z.kids.length : Int)
   ·rw [if_pos hi] at h
    obtain ⟨rfl, rfl⟩ : q ++ [(z, (N i).toNat)] = p ∧ kidT z (N i).toNat = x := by simpa using h
    have ih := way_ok hv i q z hw
    have hj : (N i).toNat < z.kids.length := by omega
    refine ⟨by simp [ih.len], ih.valid.kidT hj, ?_, inPath_snoc ih.inn hj, ?_, ?_, ih.chain.snoc hj, ?_⟩
    ·have h1 := mem_hgts hj
     rw [kidT_eq hj]
     have h2 := (z.kids[(N i).toNat]).hgt_eq
     have h3 := ih.room
     rw [List.length_append, List.length_singleton]
     omega
    ·intro y hy
     rcases List.mem_append.1 hy with hy | hy
     ·exact ih.nodes y hy
     ·rw [List.mem_singleton.1 hy]; exact ih.valid
    ·rw [around_snoc]
     unfold kidT
     rw [set_kidT hj, Tm.eta]
     exact ih.back
    ·intro j hjl
     rw [List.length_append, List.length_singleton] at hjl
     rcases Nat.lt_or_ge j q.length with hlt | hge
     ·rw [List.getElem_append_left hlt]; exact ih.ix j hlt
     ·have e : j = q.length := by omega
      subst e
      rw [List.getElem_append_right (Nat.le_refl _)]
      simp only [Nat.sub_self, List.getElem_cons_zero]
      rw [ih.len]
      omega
   ·rw [if_neg hi] at h; cases h
theorem IsPlace.ok {t : Tm} {N : Int → Int} {len : Nat} (h : IsPlace t N len) : Known t N len (wayP t N len) (wayT t N len) := way_ok h.1 _ _ _ h.way
theorem Known.short {t : Tm} {N : Int → Int} {i : Nat} {p : List (Tm × Nat)} {x : Tm} (h : Known t N i p x) (hv : t.Valid) : i ≤ 29 ∧ p.length ≤ 29 := by
 have h1 := h.room
 have h2 := h.len
 have h3 := t.hgt_eq
 have h4 := hv.2.1
 omega
theorem Tm.Valid.kids4 {t : Tm} (h : t.Valid) : t.kids.length ≤ 4 := by
 have h1 := h.root.1
 have : arity t.kind ≤ 4 := by unfold arity; (repeat' split) <;> omega
 omega
end Go.Proofs.YtihlbbbajaepoaaGreat
namespace Go.Proofs.YtihlbbbajaepoaaGreat
open Go.RowKit
def CurAt (u : World) (g : Nat) (t : Tm) (p : List (Tm × Nat)) (M : Nat → Prop) (w : World) : Prop :=
 View u M w ∧ ∃ s qs, SlIn u 0 t.kids s ∧ Passed u p qs ∧ StkAt g 3 94 #[.int .i64 t.kind, .int .i64 t.num, s, .slice none 0 0] qs M w
theorem cur_cells {g : Nat} {x y z d : Value} {qs : List (Tm × Value × Nat)} {M : Nat → Prop} {w : World} {T : TypeId} (h : StkAt g 3 T #[x, y, z, d] qs M w) : g < w.heap.size ∧ w.cell? ⟨g, 0, none⟩ = some x ∧ w.cell? ⟨g, 1, none⟩ = some y ∧ w.cell? ⟨g, 2, none⟩ = some z ∧ ∀ i, w.frozen? ⟨g, i, none⟩ = false := by
 obtain ⟨-, v, h2, -, -, -⟩ := h
 obtain ⟨z1, z2, z3⟩ := block_of_cells h2
 exact ⟨z1, (z2 0).trans (by simp), (z2 1).trans (by simp), (z2 2).trans (by simp), z3⟩
theorem cur_put {g : Nat} {x y z d x' y' z' : Value} {qs : List (Tm × Value × Nat)} {M : Nat → Prop} {w : World} {T : TypeId} (h : StkAt g 3 T #[x, y, z, d] qs M w) : StkAt g 3 T #[x', y', z', d] qs M (((w.setCell ⟨g, 0, none⟩ x').setCell ⟨g, 1, none⟩ y').setCell ⟨g, 2, none⟩ z') := by
 obtain ⟨h1, v, h2, ho, h3, h4⟩ := h
 refine ⟨h1, v, ?_, by simp, ?_, h4⟩
 ·have := block_set (block_set (block_set h2 0 x') 1 y') 2 z'
  simpa using this
 ·exact ownsRow_setCell_below (ownsRow_setCell_below (ownsRow_setCell_below h3 (a := ⟨g, 0, none⟩) (Nat.lt_succ_self g) _) (a := ⟨g, 1, none⟩) (Nat.lt_succ_self g) _) (a := ⟨g, 2, none⟩) (Nat.lt_succ_self g) _
theorem Passed.length {u : World} : ∀ {p : List (Tm × Nat)} {qs : List (Tm × Value × Nat)}, Passed u p qs → qs.length = p.length
 | [], [], _ => rfl
 | _ :: p, _ :: q, h => by rw [List.length_cons, List.length_cons, Passed.length (p := p) (qs := q) h.2.2.2]
 | [], _ :: _, h => by cases h
 | _ :: _, [], h => by cases h
theorem Passed.snoc {u : World} {t : Tm} {s : Value} {i : Nat} (hs : SlIn u 0 t.kids s) : ∀ {p : List (Tm × Nat)} {qs : List (Tm × Value × Nat)}, Passed u p qs → Passed u (p ++ [(t, i)]) (qs ++ [(t, s, i)])
 | [], [], _ => ⟨rfl, rfl, hs, trivial⟩
 | _ :: p, _ :: q, h => ⟨h.1, h.2.1, h.2.2.1, Passed.snoc hs (p := p) (qs := q) h.2.2.2⟩
 | [], _ :: _, h => by cases h
 | _ :: _, [], h => by cases h
theorem Step.set3 {M M' : Nat → Prop} {a b : World} (h : Step M a b M') {g : Nat} (hg : M' g) (x y z : Value) : Step M a (((b.setCell ⟨g, 0, none⟩ x).setCell ⟨g, 1, none⟩ y).setCell ⟨g, 2, none⟩ z) M' :=
 ((h.setCell (p := ⟨g, 0, none⟩) hg _).setCell (p := ⟨g, 1, none⟩) hg _).setCell (p := ⟨g, 2, none⟩) hg _
theorem View.set3 {u w : World} {M : Nat → Prop} (h : View u M w) {g : Nat} (hg : M g) (x y z : Value) : View u M (((w.setCell ⟨g, 0, none⟩ x).setCell ⟨g, 1, none⟩ y).setCell ⟨g, 2, none⟩ z) :=
 ((h.set (q := ⟨g, 0, none⟩) hg _).set (q := ⟨g, 1, none⟩) hg _).set (q := ⟨g, 2, none⟩) hg _
def MovePost (u : World) (g : Nat) (t : Tm) (p : List (Tm × Nat)) (M : Nat → Prop) (w : World) (v : Value) (e : Ending) (w' : World) : Prop := e = .returned v ∧ ∃ M', Step M w w' M' ∧ CurAt u g t p M' w'
set_option maxRecDepth 100000 in
set_option maxHeartbeats 1600000 in
theorem down_yes {u w : World} {g : Nat} {t : Tm} {p : List (Tm × Nat)} {M : Nat → Prop} (i : Nat) (hi : i < t.kids.length) (hp : p.length < 100) (h : CurAt u g t p M w) :
  Calls Tryz.prog 109 #[.pointer (some ⟨g, 0, none⟩), .int .i64 (i : Int)] w (MovePost u g (kidT t i) (p ++ [(t, i)]) M w (.bool true)) := by
 obtain ⟨hu, s, qs, hs, hpas, hst⟩ := h
 obtain ⟨a, cap, bb, o, rfl, hl, hpp, hc⟩ := hs.open
 unfold maxLen at hl
 obtain ⟨rfl, -, hbw⟩ := hpp (by intro e; rw [e] at hi; simp at hi)
 obtain ⟨sv, c0, c1, c2, hsv⟩ := hc i hi
 obtain ⟨sa, sc, rfl⟩ := hsv.form
 obtain ⟨z, d0, d1, d2, df⟩ := cur_cells hst
 have hi0 : (0 : Int) ≤ (i : Int) := by omega
 have hil : (i : Int) < (t.kids.length : Int) := by omega
 have HPUSH := tuck (push_any (k := t.kind) (n := t.num) (some ⟨bb, o, none⟩) t.kids.length cap i t ⟨rfl, rfl⟩ (by rw [hpas.length]; exact hp) (hst.below (Below.refl _ _).drew))
 have HST0 := tuck (Step.of_below (M := M) (Below.refl _ w).drew (fun i hi => (hst.lt i hi).2))
 have HPAS := tuck (Passed.snoc (i := i) hs hpas)
 have HU := tuck hu
 have hkid := kidT_eq hi
 have HPOST : Hid (∀ w' M' v, Step M w w' M' → View u M' w' → v = .slice sa t.kids[i].kids.length sc → StkAt g 3 94 #[.int .i64 t.kids[i].kind, .int .i64 t.kids[i].num, v, .slice none 0 0] (qs ++ [(t, .slice (some ⟨bb, o, none⟩) t.kids.length cap, i)]) M' w' → MovePost u g (kidT t i) (p ++ [(t, i)]) M w (.bool true) (.returned (.bool true)) w') := tuck fun w' M' v h1 h2 h3 h4 => by
  rw [hkid]
  subst h3
  exact ⟨rfl, M', h1, h2, _, _, hsv, HPAS.out, h4⟩
 generalize MovePost u g (kidT t i) (p ++ [(t, i)]) M w (.bool true) = post at *
 have hbb := World.block_lt_of_cell? u _ c0
 have HC0 := tuck c0
 have HC1 := tuck c1
 have HC2 := tuck c2
 clear hst hpas hu hpp hc hsv hs hkid c0 c1 c2 hbw
 generalize t.kids[i] = T at *
 go_enter Tryz.func109, Tryz.ntmps109
 go_wp2_with fail
 go_still_tail 8, (by kernel_rfl)
 change wpList _ _ _ _ _ w.drew
 go_wp2_with fail
 refine HPUSH.out.mono ?_
 rintro e w1 ⟨rfl, M', hstep', hst⟩
 have hstep := HST0.out.trans hstep'
 clear hstep'
 have hu1 := HU.out.step hstep
 have e0 := hu1.rd _ _ HC0.out
 have e1 := hu1.rd _ _ HC1.out
 have e2 := hu1.rd _ _ HC2.out
 have heb := World.block_lt_of_cell? w1 _ e0
 obtain ⟨z, d0, d1, d2, df⟩ := cur_cells hst
 have HST := tuck hst
 have HSTEP := tuck hstep
 have HU1 := tuck hu1
 clear hst hstep hu1
 go_wp2_with fail
 exact HPOST.out _ M' _ (HSTEP.out.set3 HST.out.own _ _ _) (HU1.out.set3 HST.out.own _ _ _) rfl (cur_put HST.out)
set_option maxRecDepth 100000 in
theorem down_no {u w : World} {g : Nat} {t : Tm} {p : List (Tm × Nat)} {M : Nat → Prop} (i : Int) (hi : ¬ (0 ≤ i ∧ i < (t.kids.length : Int))) (h : CurAt u g t p M w) :
  Calls Tryz.prog 109 #[.pointer (some ⟨g, 0, none⟩), .int .i64 i] w fun e w' => e = .returned (.bool false) ∧ w' = w := by
 obtain ⟨hu, s, qs, hs, hpas, hst⟩ := h
 obtain ⟨a, cap, rfl⟩ := hs.form
 obtain ⟨z, d0, d1, d2, df⟩ := cur_cells hst
 clear hu hs hpas hst
 by_cases h0 : i < 0
 ·clear hi
  go_enter Tryz.func109, Tryz.ntmps109
  go_wp2_with fail
  go_ret
  exact ⟨rfl, rfl⟩
 ·have hge : (t.kids.length : Int) ≤ i := by omega
  clear hi
  go_enter Tryz.func109, Tryz.ntmps109
  go_wp2_with fail
  go_ret
  exact ⟨rfl, rfl⟩
end Go.Proofs.YtihlbbbajaepoaaGreat
