/-
  PlA.
-/
import Derived.Test.YtihlbbbajaepoaaP21
import Derived.Test.YtihlbbbajaepoaaP23
import Derived.StillTailTactics
namespace Go.Proofs.Ytihlbbbajaepoaa
open Go.RowKit
def CurAt (u : World) (g : Nat) (t : Tm) (p : List (Tm × Nat)) (M : Nat → Prop) (w : World) : Prop :=
 View u M w ∧ ∃ s qs, SlIn u 0 t.kids s ∧ Passed u p qs ∧ StkAt g 3 87 #[.int .i64 t.kind, .int .i64 t.num, s, .slice none 0 0] qs M w
theorem cur_cells {g : Nat} {x y z d : Value} {qs : List (Tm × Value × Nat)} {M : Nat → Prop} {w : World} {T : TypeId} (h : StkAt g 3 T #[x, y, z, d] qs M w) : g < w.heap.size ∧ w.cell? ⟨g, 0, none⟩ = some x ∧ w.cell? ⟨g, 1, none⟩ = some y ∧ w.cell? ⟨g, 2, none⟩ = some z ∧ ∀ i, w.frozen? ⟨g, i, none⟩ = false := by
 obtain ⟨-, v, h2, -, -, -⟩ := h
 obtain ⟨z1, z2, z3⟩ := block_of_cells h2
 exact ⟨z1, (z2 0).trans (by simp), (z2 1).trans (by simp), (z2 2).trans (by simp), z3⟩
theorem cur_put {g : Nat} {x y z d x' y' z' : Value} {qs : List (Tm × Value × Nat)} {M : Nat → Prop} {w : World} {T : TypeId} (h : StkAt g 3 T #[x, y, z, d] qs M w) : StkAt g 3 T #[x', y', z', d] qs M (((w.setCell ⟨g, 0, none⟩ x').setCell ⟨g, 1, none⟩ y').setCell ⟨g, 2, none⟩ z') := by
 obtain ⟨h1, v, h2, ho, h3, h4⟩ := h
 refine ⟨h1, v, ?_, by simp, ?_, h4⟩
 ·have := block_set (block_set (block_set h2 0 x') 1 y') 2 z'
  simpa using this
 ·exact ownsRow_setCell_below (ownsRow_setCell_below (ownsRow_setCell_below h3 (a := ⟨g, 0, none⟩) (Nat.lt_succ_self g) _) (a := ⟨g, 1, none⟩) (Nat.lt_succ_self g) _) (a := ⟨g, 2, none⟩) (Nat.lt_succ_self g) _
theorem Passed.length {u : World} : ∀ {p : List (Tm × Nat)} {qs : List (Tm × Value × Nat)}, Passed u p qs → qs.length = p.length
 | [], [], _ => rfl
 | _ :: p, _ :: q, h => by rw [List.length_cons, List.length_cons, Passed.length (p := p) (qs := q) h.2.2.2]
 | [], _ :: _, h => by cases h
 | _ :: _, [], h => by cases h
theorem Passed.snoc {u : World} {t : Tm} {s : Value} {i : Nat} (hs : SlIn u 0 t.kids s) : ∀ {p : List (Tm × Nat)} {qs : List (Tm × Value × Nat)}, Passed u p qs → Passed u (p ++ [(t, i)]) (qs ++ [(t, s, i)])
 | [], [], _ => ⟨rfl, rfl, hs, trivial⟩
 | _ :: p, _ :: q, h => ⟨h.1, h.2.1, h.2.2.1, Passed.snoc hs (p := p) (qs := q) h.2.2.2⟩
 | [], _ :: _, h => by cases h
 | _ :: _, [], h => by cases h
theorem Step.set3 {M M' : Nat → Prop} {a b : World} (h : Step M a b M') {g : Nat} (hg : M' g) (x y z : Value) : Step M a (((b.setCell ⟨g, 0, none⟩ x).setCell ⟨g, 1, none⟩ y).setCell ⟨g, 2, none⟩ z) M' :=
 ((h.setCell (p := ⟨g, 0, none⟩) hg _).setCell (p := ⟨g, 1, none⟩) hg _).setCell (p := ⟨g, 2, none⟩) hg _
theorem View.set3 {u w : World} {M : Nat → Prop} (h : View u M w) {g : Nat} (hg : M g) (x y z : Value) : View u M (((w.setCell ⟨g, 0, none⟩ x).setCell ⟨g, 1, none⟩ y).setCell ⟨g, 2, none⟩ z) :=
 ((h.set (q := ⟨g, 0, none⟩) hg _).set (q := ⟨g, 1, none⟩) hg _).set (q := ⟨g, 2, none⟩) hg _
def MovePost (u : World) (g : Nat) (t : Tm) (p : List (Tm × Nat)) (M : Nat → Prop) (w : World) (v : Value) (e : Ending) (w' : World) : Prop := e = .returned v ∧ ∃ M', Step M w w' M' ∧ CurAt u g t p M' w'
set_option maxRecDepth 100000 in
set_option maxHeartbeats 1600000 in
theorem down_yes {u w : World} {g : Nat} {t : Tm} {p : List (Tm × Nat)} {M : Nat → Prop} (i : Nat) (hi : i < t.kids.length) (hp : p.length < 100) (h : CurAt u g t p M w) :
  Calls Try.prog 69 #[.pointer (some ⟨g, 0, none⟩), .int .i64 (i : Int)] w (MovePost u g (kidT t i) (p ++ [(t, i)]) M w (.bool true)) := by
 obtain ⟨hu, s, qs, hs, hpas, hst⟩ := h
 obtain ⟨a, cap, bb, o, rfl, hl, hpp, hc⟩ := hs.open
 unfold maxLen at hl
 obtain ⟨rfl, -, hbw⟩ := hpp (by intro e; rw [e] at hi; simp at hi)
 obtain ⟨sv, c0, c1, c2, hsv⟩ := hc i hi
 obtain ⟨sa, sc, rfl⟩ := hsv.form
 obtain ⟨z, d0, d1, d2, df⟩ := cur_cells hst
 have hi0 : (0 : Int) ≤ (i : Int) := by omega
 have hil : (i : Int) < (t.kids.length : Int) := by omega
 have HPUSH := tuck (push_any (k := t.kind) (n := t.num) (some ⟨bb, o, none⟩) t.kids.length cap i t ⟨rfl, rfl⟩ (by rw [hpas.length]; exact hp) (hst.below (Below.refl _ _).drew))
 have HST0 := tuck (Step.of_below (M := M) (Below.refl _ w).drew (fun i hi => (hst.lt i hi).2))
 have HPAS := tuck (Passed.snoc (i := i) hs hpas)
 have HU := tuck hu
 have hkid := kidT_eq hi
 have HPOST : Hid (∀ w' M' v, Step M w w' M' → View u M' w' → v = .slice sa t.kids[i].kids.length sc → StkAt g 3 87 #[.int .i64 t.kids[i].kind, .int .i64 t.kids[i].num, v, .slice none 0 0] (qs ++ [(t, .slice (some ⟨bb, o, none⟩) t.kids.length cap, i)]) M' w' → MovePost u g (kidT t i) (p ++ [(t, i)]) M w (.bool true) (.returned (.bool true)) w') := tuck fun w' M' v h1 h2 h3 h4 => by
  rw [hkid]
  subst h3
  exact ⟨rfl, M', h1, h2, _, _, hsv, HPAS.out, h4⟩
 generalize MovePost u g (kidT t i) (p ++ [(t, i)]) M w (.bool true) = post at *
 have hbb := World.block_lt_of_cell? u _ c0
 have HC0 := tuck c0
 have HC1 := tuck c1
 have HC2 := tuck c2
 clear hst hpas hu hpp hc hsv hs hkid c0 c1 c2 hbw
 generalize t.kids[i] = T at *
 go_enter Try.func69, Try.ntmps69
 go_wp2_with fail
 go_still_tail 8, (by kernel_rfl)
 change wpList _ _ _ _ _ w.drew
 go_wp2_with fail
 refine HPUSH.out.mono ?_
 rintro e w1 ⟨rfl, M', hstep', hst⟩
 have hstep := HST0.out.trans hstep'
 clear hstep'
 have hu1 := HU.out.step hstep
 have e0 := hu1.rd _ _ HC0.out
 have e1 := hu1.rd _ _ HC1.out
 have e2 := hu1.rd _ _ HC2.out
 have heb := World.block_lt_of_cell? w1 _ e0
 obtain ⟨z, d0, d1, d2, df⟩ := cur_cells hst
 have HST := tuck hst
 have HSTEP := tuck hstep
 have HU1 := tuck hu1
 clear hst hstep hu1
 go_wp2_with fail
 exact HPOST.out _ M' _ (HSTEP.out.set3 HST.out.own _ _ _) (HU1.out.set3 HST.out.own _ _ _) rfl (cur_put HST.out)
set_option maxRecDepth 100000 in
theorem down_no {u w : World} {g : Nat} {t : Tm} {p : List (Tm × Nat)} {M : Nat → Prop} (i : Int) (hi : ¬ (0 ≤ i ∧ i < (t.kids.length : Int))) (h : CurAt u g t p M w) :
  Calls Try.prog 69 #[.pointer (some ⟨g, 0, none⟩), .int .i64 i] w fun e w' => e = .returned (.bool false) ∧ w' = w := by
 obtain ⟨hu, s, qs, hs, hpas, hst⟩ := h
 obtain ⟨a, cap, rfl⟩ := hs.form
 obtain ⟨z, d0, d1, d2, df⟩ := cur_cells hst
 clear hu hs hpas hst
 by_cases h0 : i < 0
 ·clear hi
  go_enter Try.func69, Try.ntmps69
  go_wp2_with fail
  go_ret
  exact ⟨rfl, rfl⟩
 ·have hge : (t.kids.length : Int) ≤ i := by omega
  clear hi
  go_enter Try.func69, Try.ntmps69
  go_wp2_with fail
  go_ret
  exact ⟨rfl, rfl⟩
end Go.Proofs.Ytihlbbbajaepoaa
