/-
  Row.
-/
import Derived.Test.YteeafpnjpcgfaaaGreatB08
namespace Go.Proofs.YteeafpnjpcgfaaaGreat
open Go.RowKit
def cellsL : List (Tm × Value) → List Value
 | [] => []
 | (t, s) :: r => .int .i64 t.kind :: .int .i64 t.num :: s :: cellsL r
theorem cellsL_length : ∀ r : List (Tm × Value), (cellsL r).length = r.length * 3
 | [] => rfl
 | (t, s) :: r => by simp only [cellsL, List.length_cons, cellsL_length r]; omega
theorem RowAt.list {w : World} {B : Nat} : ∀ {l : List Tm} {b o : Nat}, RowAt w B l b o → ∃ r : List (Tm × Value), r.map (·.1) = l ∧ (∀ j u, (cellsL r)[j]? = some u → w.cell? ⟨b, o + j, none⟩ = some u) ∧ ∀ x ∈ r, SlIn w B x.1.kids x.2
 | [], _, _, _ => ⟨[], rfl, fun j u h => by simp [cellsL] at h, fun x h => by cases h⟩
 | t :: l, b, o, h => by
  rw [RowAt] at h
  obtain ⟨s, c0, c1, c2, hs⟩ := TmAt_iff.1 h.1
  obtain ⟨r, hr, hc, hx⟩ := RowAt.list h.2
  refine ⟨(t, s) :: r, by rw [List.map_cons, hr], fun j u hu => ?_, fun x hx' => ?_⟩
  ·match j with
   | 0 => simp only [cellsL, List.getElem?_cons_zero, Option.some.injEq] at hu; subst hu; exact c0
   | 1 => simp only [cellsL, List.getElem?_cons_succ, List.getElem?_cons_zero, Option.some.injEq] at hu; subst hu; exact c1
   | 2 => simp only [cellsL, List.getElem?_cons_succ, List.getElem?_cons_zero, Option.some.injEq] at hu; subst hu; exact c2
   | j + 3 =>
    simp only [cellsL, List.getElem?_cons_succ] at hu
    rw [show o + (j + 3) = o + 3 + j by omega]
    exact hc j u hu
  ·rcases List.mem_cons.1 hx' with rfl | h
   ·exact hs
   ·exact hx x h
theorem RowAt.of_list {w : World} {B : Nat} : ∀ {r : List (Tm × Value)} {b o : Nat}, (∀ j u, (cellsL r)[j]? = some u → w.cell? ⟨b, o + j, none⟩ = some u) → (∀ x ∈ r, SlIn w B x.1.kids x.2) → RowAt w B (r.map (·.1)) b o
 | [], _, _, _, _ => by rw [List.map_nil, RowAt]; trivial
 | (t, s) :: r, b, o, hc, hx => by
  rw [List.map_cons, RowAt]
  refine ⟨TmAt_iff.2 ⟨s, hc 0 _ rfl, hc 1 _ rfl, hc 2 _ rfl, hx _ (by simp)⟩, RowAt.of_list (fun j u hu => ?_) (fun x h => hx x (by simp [h]))⟩
  rw [show o + 3 + j = o + (j + 3) by omega]
  exact hc (j + 3) u hu
theorem RowOwn.of_list {w : World} : ∀ {r : List (Tm × Value × List Nat)} {b o : Nat}, (∀ j u, (cellsL (r.map fun x => (x.1, x.2.1)))[j]? = some u → w.cell? ⟨b, o + j, none⟩ = some u) → (∀ x ∈ r, SlOwn w x.1.kids x.2.1 x.2.2) → RowOwn w (r.map (·.1)) b o (r.flatMap (·.2.2))
 | [], _, _, _, _ => by rw [List.map_nil, RowOwn]; rfl
 | (t, s, F) :: r, b, o, hc, hx => by
  rw [List.map_cons, RowOwn]
  refine ⟨F, r.flatMap (·.2.2), by simp, TmOwn_iff.2 ⟨s, hc 0 _ rfl, hc 1 _ rfl, hc 2 _ rfl, hx _ (by simp)⟩, RowOwn.of_list (fun j u hu => ?_) (fun x h => hx x (by simp [h]))⟩
  rw [show o + 3 + j = o + (j + 3) by omega]
  exact hc (j + 3) u hu
theorem SlOwn.alloc {w : World} {l : List Tm} {v : Value} {F : List Nat} (h : SlOwn w l v F) (hF : ∀ g ∈ F, g < w.heap.size) (o : Obj) : SlOwn (w.alloc o) l v F :=
 h.keep fun g hg => SameAt.of_block (Below.heap_alloc _ _ _ (hF g hg))
theorem SlOwn.below {w w' : World} {l : List Tm} {v : Value} {F : List Nat} (h : SlOwn w l v F) (hF : ∀ g ∈ F, g < w.heap.size) (hb : Below w.heap.size w w') : SlOwn w' l v F :=
 h.keep fun g hg => SameAt.of_block (hb.block _ (hF g hg))
theorem SlOwn.setCell {w : World} {l : List Tm} {v : Value} {F : List Nat} (h : SlOwn w l v F) {p : Addr} (hp : p.block ∉ F) (u : Value) : SlOwn (w.setCell p u) l v F :=
 h.keep fun g hg => SameAt.of_block (Below.heap_setCell w p u g (fun e => hp (by rw [← e]; exact hg)))
theorem SlOwn.set3 {w : World} {l : List Tm} {v : Value} {F : List Nat} (h : SlOwn w l v F) {g : Nat} (hp : g ∉ F) (a b c : Nat) (x y z : Value) : SlOwn (((w.setCell ⟨g, a, none⟩ x).setCell ⟨g, b, none⟩ y).setCell ⟨g, c, none⟩ z) l v F :=
 ((h.setCell (p := ⟨g, a, none⟩) hp _).setCell (p := ⟨g, b, none⟩) hp _).setCell (p := ⟨g, c, none⟩) hp _
theorem bSet3 {B : Nat} {a w : World} (h : Below B a w) {g : Nat} (hg : B ≤ g) (i j k : Nat) (x y z : Value) : Below B a (((w.setCell ⟨g, i, none⟩ x).setCell ⟨g, j, none⟩ y).setCell ⟨g, k, none⟩ z) :=
 ((h.setCell (p := ⟨g, i, none⟩) hg _).setCell (p := ⟨g, j, none⟩) hg _).setCell (p := ⟨g, k, none⟩) hg _
theorem size_set3 (w : World) (g i j k : Nat) (x y z : Value) : (((w.setCell ⟨g, i, none⟩ x).setCell ⟨g, j, none⟩ y).setCell ⟨g, k, none⟩ z).heap.size = w.heap.size := by simp [World.setCell]
end Go.Proofs.YteeafpnjpcgfaaaGreat
