/-
  PlAD, DkI, PlAE.
-/
import Derived.Test.YtpddjebdncaceaaGreatR11
import Derived.Test.YtpddjebdncaceaaGreatR14
import Derived.Test.YtpddjebdncaceaaGreatR15
import Derived.Test.YtpddjebdncaceaaGreatR19
import Derived.Test.YtpddjebdncaceaaGreatR26
import Derived.Test.YtpddjebdncaceaaGreatR33
import Derived.BigQuiet
import Derived.IntWalk
namespace Go.Proofs.YtpddjebdncaceaaGreat
theorem way_congr {t : Tm} {N N' : Int → Int} : ∀ i : Nat, (∀ j : Nat, j < i → N' j = N j) → way t N' i = way t N i
 | 0, _ => rfl
 | i + 1, h => by
  rw [way, way, way_congr i (fun j hj => h j (by omega)), h i (by omega)]
theorem way_kid {t x : Tm} {p : List (Tm × Nat)} {i : Nat} (h : way t (ixAt p) p.length = some (p, x)) (hi : i < x.kids.length) : way t (ixAt (p ++ [(x, i)])) (p ++ [(x, i)]).length = some (p ++ [(x, i)], kidT x i) := by
 rw [List.length_append, List.length_singleton]
 have h1 : way t (ixAt (p ++ [(x, i)])) p.length = some (p, x) := by
  rw [← h]
  exact way_congr _ fun j hj => by
   rw [ixAt_eq _ _ (by rw [List.length_append, List.length_singleton]; omega), ixAt_eq _ _ hj, List.getElem_append_left hj]
 have h2 : ixAt (p ++ [(x, i)]) (p.length : Int) = (i : Int) := by
  rw [ixAt_eq _ _ (by simp), List.getElem_append_right (Nat.le_refl _)]
  simp
 have h3 := way_yes h1 (by rw [h2]; exact ⟨by omega, by omega⟩)
 rw [h3, h2]
 simp
mutual
theorem Tm.nodes_way (t0 : Tm) : ∀ (t : Tm) (p : List (Tm × Nat)), way t0 (ixAt p) p.length = some (p, t) → ∀ y ∈ t.nodesFrom p, way t0 (ixAt y.1) y.1.length = some y
 | .mk k n l, p, h, y, hy => by
  rw [Tm.nodesFrom] at hy
  rcases List.mem_cons.1 hy with rfl | hy
  ·exact h
  ·exact kids_way t0 (.mk k n l) l 0 p (by simp [Tm.kids]) h y hy
theorem kids_way (t0 : Tm) : ∀ (x : Tm) (l : List Tm) (i : Nat) (p : List (Tm × Nat)), x.kids.drop i = l → way t0 (ixAt p) p.length = some (p, x) → ∀ y ∈ kidsFrom x l i p, way t0 (ixAt y.1) y.1.length = some y
 | _, [], _, _, _, _, y, hy => by rw [kidsFrom] at hy; cases hy
 | x, t :: l, i, p, hd, h, y, hy => by
  have hi : i < x.kids.length := by
   rcases Nat.lt_or_ge i x.kids.length with h | h
   ·exact h
   ·rw [List.drop_eq_nil_of_le h] at hd; cases hd
  have hdd := List.drop_eq_getElem_cons hi
  rw [hd] at hdd
  obtain ⟨ht, hl⟩ := List.cons.inj hdd
  have hk : kidT x i = t := by rw [kidT_eq hi, ht]
  rw [kidsFrom] at hy
  rcases List.mem_append.1 hy with hy | hy
  ·exact Tm.nodes_way t0 t (p ++ [(x, i)]) (by rw [← hk]; exact way_kid h hi) y hy
  ·exact kids_way t0 x l (i + 1) p hl.symm h y hy
end
theorem nodes_place {t : Tm} (hv : t.Valid) {y : List (Tm × Nat) × Tm} (hy : y ∈ t.nodesFrom []) : IsPlace t (ixAt y.1) y.1.length ∧ wayT t (ixAt y.1) y.1.length = y.2 := by
 have h := Tm.nodes_way t t [] rfl y hy
 obtain ⟨h1, -, h3⟩ := is_place hv h
 exact ⟨h1, h3⟩
theorem redexP_at {t : Tm} {j : Nat} (h : j < (placesP true t).length) : IsPlace t (placesP true t)[j].1 (placesP true t)[j].2 ∧ (wayT t (placesP true t)[j].1 (placesP true t)[j].2).redex ≠ 0 := by
 have hv : t.Valid := Classical.byContradiction fun hn => by
  unfold placesP at h
  rw [if_neg hn] at h
  simp at h
 have e : placesP true t = plcOf true (t.nodesFrom []) := by
  unfold placesP
  rw [if_pos hv]
 have hm := List.getElem_mem h
 generalize (placesP true t)[j] = x at *
 rw [e] at hm
 simp only [plcOf, List.mem_map, List.mem_filter] at hm
 obtain ⟨y, ⟨hy, hr⟩, rfl⟩ := hm
 obtain ⟨h1, h2⟩ := nodes_place hv hy
 refine ⟨h1, ?_⟩
 rw [h2]
 simpa using hr
end Go.Proofs.YtpddjebdncaceaaGreat
namespace Go.Proofs.YtpddjebdncaceaaGreat
open Go.RowKit
theorem cellAt_keep {g q : Nat} {x : Value} {A B : World} (h : g < A.heap.size ∧ A.cell? ⟨g, q, none⟩ = some x) (hb : Below A.heap.size A B) : g < B.heap.size ∧ B.cell? ⟨g, q, none⟩ = some x :=
 ⟨Nat.lt_of_lt_of_le h.1 hb.size, (hb.cell (p := ⟨g, q, none⟩) h.1).trans h.2⟩
theorem cellAt_set3 {g q gz : Nat} {x y0 y1 y2 : Value} {A : World} (h : g < A.heap.size ∧ A.cell? ⟨g, q, none⟩ = some x) (hn : g ≠ gz) : g < (((A.setCell ⟨gz, 0, none⟩ y0).setCell ⟨gz, 1, none⟩ y1).setCell ⟨gz, 2, none⟩ y2).heap.size ∧ (((A.setCell ⟨gz, 0, none⟩ y0).setCell ⟨gz, 1, none⟩ y1).setCell ⟨gz, 2, none⟩ y2).cell? ⟨g, q, none⟩ = some x := by
 refine ⟨by simpa [World.setCell] using h.1, ?_⟩
 rw [World.cell?_of_block (a := ⟨g, q, none⟩) (Below.heap_setCell _ _ _ g (by show g ≠ gz; exact hn)), World.cell?_of_block (a := ⟨g, q, none⟩) (Below.heap_setCell _ _ _ g (by show g ≠ gz; exact hn)), World.cell?_of_block (a := ⟨g, q, none⟩) (Below.heap_setCell _ _ _ g (by show g ≠ gz; exact hn))]
 exact h.2
end Go.Proofs.YtpddjebdncaceaaGreat
namespace Go.Proofs.YtpddjebdncaceaaGreat
mutual
theorem Tm.find_first : ∀ (t : Tm) (p : List (Tm × Nat)), (t.find false false).map (fun x => (p ++ x.1, x.2)) = ((t.nodesFrom p).filter fun y => decide (y.2.redex ≠ 0)).head?
 | .mk k n l, p => by
  rw [Tm.find, Tm.nodesFrom]
  by_cases h : (Tm.mk k n l).redex ≠ 0
  ·rw [if_pos ⟨h, rfl⟩, List.filter_cons_of_pos (by simpa using h)]
   simp
  ·rw [if_neg (fun h2 => h h2.1), List.filter_cons_of_neg (by simpa using h)]
   have hk := kids_first (.mk k n l) l 0 p
   rw [← hk]
   cases findL false false (.mk k n l) l 0 with
   | none => simp [h]
   | some x => rfl
theorem kids_first : ∀ (t0 : Tm) (l : List Tm) (i : Nat) (p : List (Tm × Nat)), (findL false false t0 l i).map (fun x => (p ++ x.1, x.2)) = ((kidsFrom t0 l i p).filter fun y => decide (y.2.redex ≠ 0)).head?
 | _, [], _, _ => by rw [findL, kidsFrom]; rfl
 | t0, t :: l, i, p => by
  have h1 := t.find_first (p ++ [(t0, i)])
  have h2 := kids_first t0 l (i + 1) p
  rw [findL, kidsFrom, List.filter_append, List.head?_append, ← h1, ← h2, if_neg (fun h => by cases h.1)]
  cases t.find false false with
  | none => rfl
  | some x => simp
end
theorem step_first {t : Tm} (hv : t.Valid) : (placesP true t = [] → t.step false false = none) ∧ ∀ (h : 0 < (placesP true t).length), IsPlace t (placesP true t)[0].1 (placesP true t)[0].2 ∧ (wayT t (placesP true t)[0].1 (placesP true t)[0].2).redex ≠ 0 ∧ t.step false false = some (around (wayP t (placesP true t)[0].1 (placesP true t)[0].2) (wayT t (placesP true t)[0].1 (placesP true t)[0].2).contr) := by
 have e : placesP true t = ((t.nodesFrom []).filter fun y => decide (y.2.redex ≠ 0)).map fun y => (ixAt y.1, y.1.length) := by
  unfold placesP
  rw [if_pos hv]
  simp [plcOf]
 have hf := t.find_first []
 have hs := t.find_step (rl := false) (mo := false)
 rw [show (fun x : List (Tm × Nat) × Tm => (([] : List (Tm × Nat)) ++ x.1, x.2)) = id by funext x; simp, Option.map_id] at hf
 rw [hs]
 refine ⟨fun h => ?_, fun h => ?_⟩
 ·rw [e] at h
  have h2 := List.map_eq_nil_iff.1 h
  rw [h2] at hf
  rw [show t.find false false = none from hf]
  rfl
 ·have hp := redexP_at h
  refine ⟨hp.1, hp.2, ?_⟩
  cases hl : (t.nodesFrom []).filter fun y => decide (y.2.redex ≠ 0) with
  | nil => rw [hl] at e; rw [e] at h; simp at h
  | cons y L =>
   rw [hl] at hf e
   have hm : y ∈ t.nodesFrom [] := (List.mem_filter.1 (show y ∈ (t.nodesFrom []).filter fun y => decide (y.2.redex ≠ 0) from by rw [hl]; simp)).1
   have hw := Tm.nodes_way t t [] rfl y hm
   obtain ⟨-, k2, k3⟩ := is_place hv (show way t (ixAt y.1) y.1.length = some (y.1, y.2) from hw)
   have e0 : (placesP true t)[0] = (ixAt y.1, y.1.length) := by simp only [e]; rfl
   rw [e0]
   simp only
   rw [k2, k3, show t.find false false = some y from hf]
   rfl
end Go.Proofs.YtpddjebdncaceaaGreat
