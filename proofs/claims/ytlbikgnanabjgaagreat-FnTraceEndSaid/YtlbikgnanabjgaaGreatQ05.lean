/-
  Own, Row.
-/
import Derived.Test.YtlbikgnanabjgaaGreatQ01
namespace Go.Proofs.YtlbikgnanabjgaaGreat
open Go.RowKit
mutual
def TmOwn (w : World) : Tm → Nat → Nat → List Nat → Prop
 | .mk k n l, b, o, F => ∃ (a : Option Addr) (cap b' : Nat) (F' : List Nat), w.cell? ⟨b, o, none⟩ = some (.int .i64 k) ∧ w.cell? ⟨b, o + 1, none⟩ = some (.int .i64 n) ∧ w.cell? ⟨b, o + 2, none⟩ = some (.slice a l.length cap) ∧
   l.length ≤ maxLen ∧ (l = [] ∧ F = [] ∨ a = some ⟨b', 0, none⟩ ∧ F = b' :: F' ∧ (∀ i, w.frozen? ⟨b', i, none⟩ = false)) ∧ (l ≠ [] → RowOwn w l b' 0 F')
def RowOwn (w : World) : List Tm → Nat → Nat → List Nat → Prop
 | [], _, _, F => F = []
 | t :: l, b, o, F => ∃ F1 F2, F = F1 ++ F2 ∧ TmOwn w t b o F1 ∧ RowOwn w l b (o + 3) F2
end
def SlOwn (w : World) (l : List Tm) (v : Value) (F : List Nat) : Prop :=
 ∃ (a : Option Addr) (cap b' : Nat) (F' : List Nat), v = .slice a l.length cap ∧ l.length ≤ maxLen ∧ (l = [] ∧ F = [] ∨ a = some ⟨b', 0, none⟩ ∧ F = b' :: F' ∧ (∀ i, w.frozen? ⟨b', i, none⟩ = false)) ∧ (l ≠ [] → RowOwn w l b' 0 F')
theorem TmOwn_iff {w : World} {t : Tm} {b o : Nat} {F : List Nat} : TmOwn w t b o F ↔
  ∃ s, w.cell? ⟨b, o, none⟩ = some (.int .i64 t.kind) ∧ w.cell? ⟨b, o + 1, none⟩ = some (.int .i64 t.num) ∧ w.cell? ⟨b, o + 2, none⟩ = some s ∧ SlOwn w t.kids s F := by
 cases t with
 | mk k n l =>
  simp only [TmOwn, Tm.kind, Tm.num, Tm.kids, SlOwn]
  constructor
  ·rintro ⟨a, cap, b', F', h1, h2, h3, h4, h5, h6⟩
   exact ⟨_, h1, h2, h3, a, cap, b', F', rfl, h4, h5, h6⟩
  ·rintro ⟨s, h1, h2, h3, a, cap, b', F', rfl, h4, h5, h6⟩
   exact ⟨a, cap, b', F', h1, h2, h3, h4, h5, h6⟩
theorem RowOwn_append {w : World} : ∀ {l m : List Tm} {b o : Nat} {F : List Nat}, RowOwn w (l ++ m) b o F ↔ ∃ F1 F2, F = F1 ++ F2 ∧ RowOwn w l b o F1 ∧ RowOwn w m b (o + l.length * 3) F2
 | [], m, b, o, F => by
  constructor
  ·intro h; exact ⟨[], F, rfl, by rw [RowOwn], by simpa using h⟩
  ·rintro ⟨F1, F2, rfl, h1, h2⟩
   rw [RowOwn] at h1
   subst h1
   simpa using h2
 | t :: l, m, b, o, F => by
  rw [List.cons_append, RowOwn]
  constructor
  ·rintro ⟨F1, F2, rfl, h1, h2⟩
   obtain ⟨G1, G2, rfl, h3, h4⟩ := RowOwn_append.1 h2
   exact ⟨F1 ++ G1, G2, by simp, by rw [RowOwn]; exact ⟨F1, G1, rfl, h1, h3⟩, by rw [List.length_cons, show o + (l.length + 1) * 3 = o + 3 + l.length * 3 by omega]; exact h4⟩
  ·rintro ⟨F1, F2, rfl, h1, h2⟩
   rw [RowOwn] at h1
   obtain ⟨G1, G2, rfl, h3, h4⟩ := h1
   refine ⟨G1, G2 ++ F2, by simp, h3, RowOwn_append.2 ⟨G2, F2, rfl, h4, ?_⟩⟩
   rw [List.length_cons, show o + (l.length + 1) * 3 = o + 3 + l.length * 3 by omega] at h2
   exact h2
def SameAt (w w' : World) (g : Nat) : Prop := ∀ i, w'.cell? ⟨g, i, none⟩ = w.cell? ⟨g, i, none⟩ ∧ w'.frozen? ⟨g, i, none⟩ = w.frozen? ⟨g, i, none⟩
theorem SameAt.of_block {w w' : World} {g : Nat} (h : w'.heap[g]? = w.heap[g]?) : SameAt w w' g := fun _ => ⟨World.cell?_of_block (w := w) h, World.frozen?_of_block (w := w) h⟩
mutual
theorem TmOwn.keep {w w' : World} : ∀ {t : Tm} {b o : Nat} {F : List Nat}, TmOwn w t b o F → (∀ i, i < 3 → w'.cell? ⟨b, o + i, none⟩ = w.cell? ⟨b, o + i, none⟩) → (∀ g ∈ F, SameAt w w' g) → TmOwn w' t b o F
 | .mk k n l, b, o, F, h, hc, hF => by
  rw [TmOwn] at h ⊢
  obtain ⟨a, cap, b', F', h1, h2, h3, h4, h5, h6⟩ := h
  refine ⟨a, cap, b', F', (hc 0 (by omega)).trans h1, (hc 1 (by omega)).trans h2, (hc 2 (by omega)).trans h3, h4, ?_, fun hn => ?_⟩
  ·rcases h5 with h5 | ⟨e1, e2, e3⟩
   ·exact Or.inl h5
   ·exact Or.inr ⟨e1, e2, fun i => ((hF b' (by rw [e2]; simp)) i).2.trans (e3 i)⟩
  ·rcases h5 with h5 | ⟨e1, e2, e3⟩
   ·exact absurd h5.1 hn
   ·exact RowOwn.keep (h6 hn) (fun i _ => ((hF b' (by rw [e2]; simp)) _).1) (fun g hg => hF g (by rw [e2]; simp [hg]))
theorem RowOwn.keep {w w' : World} : ∀ {l : List Tm} {b o : Nat} {F : List Nat}, RowOwn w l b o F → (∀ i, i < l.length * 3 → w'.cell? ⟨b, o + i, none⟩ = w.cell? ⟨b, o + i, none⟩) → (∀ g ∈ F, SameAt w w' g) → RowOwn w' l b o F
 | [], _, _, _, h, _, _ => by rw [RowOwn] at h ⊢; exact h
 | t :: l, b, o, F, h, hc, hF => by
  rw [RowOwn] at h ⊢
  obtain ⟨F1, F2, rfl, h1, h2⟩ := h
  refine ⟨F1, F2, rfl, TmOwn.keep h1 (fun i hi => hc i (by simp; omega)) (fun g hg => hF g (by simp [hg])), RowOwn.keep h2 (fun i hi => ?_) (fun g hg => hF g (by simp [hg]))⟩
  have := hc (3 + i) (by simp; omega)
  rwa [← Nat.add_assoc] at this
end
theorem SlOwn.keep {w w' : World} {l : List Tm} {v : Value} {F : List Nat} (h : SlOwn w l v F) (hF : ∀ g ∈ F, SameAt w w' g) : SlOwn w' l v F := by
 obtain ⟨a, cap, b', F', rfl, h4, h5, h6⟩ := h
 refine ⟨a, cap, b', F', rfl, h4, ?_, fun hn => ?_⟩
 ·rcases h5 with h5 | ⟨e1, e2, e3⟩
  ·exact Or.inl h5
  ·exact Or.inr ⟨e1, e2, fun i => ((hF b' (by rw [e2]; simp)) i).2.trans (e3 i)⟩
 ·rcases h5 with h5 | ⟨e1, e2, e3⟩
  ·exact absurd h5.1 hn
  ·exact (h6 hn).keep (fun i _ => ((hF b' (by rw [e2]; simp)) _).1) (fun g hg => hF g (by rw [e2]; simp [hg]))
mutual
theorem TmOwn.at {w : World} {B : Nat} : ∀ {t : Tm} {b o : Nat} {F : List Nat}, TmOwn w t b o F → (∀ g ∈ F, B ≤ g) → TmAt w B t b o
 | .mk k n l, b, o, F, h, hB => by
  rw [TmOwn] at h
  rw [TmAt]
  obtain ⟨a, cap, b', F', h1, h2, h3, h4, h5, h6⟩ := h
  refine ⟨a, cap, b', 0, h1, h2, h3, h4, fun hn => ?_, ?_⟩
  ·rcases h5 with h5 | ⟨e1, e2, e3⟩
   ·exact absurd h5.1 hn
   ·exact ⟨e1, hB b' (by rw [e2]; simp)⟩
  ·rcases h5 with h5 | ⟨e1, e2, e3⟩
   ·rw [h5.1, RowAt]; trivial
   ·by_cases hn : l = []
    ·rw [hn, RowAt]; trivial
    ·exact RowOwn.at (h6 hn) (fun g hg => hB g (by rw [e2]; simp [hg]))
theorem RowOwn.at {w : World} {B : Nat} : ∀ {l : List Tm} {b o : Nat} {F : List Nat}, RowOwn w l b o F → (∀ g ∈ F, B ≤ g) → RowAt w B l b o
 | [], _, _, _, _, _ => by rw [RowAt]; trivial
 | t :: l, b, o, F, h, hB => by
  rw [RowOwn] at h
  rw [RowAt]
  obtain ⟨F1, F2, rfl, h1, h2⟩ := h
  exact ⟨TmOwn.at h1 (fun g hg => hB g (by simp [hg])), RowOwn.at h2 (fun g hg => hB g (by simp [hg]))⟩
end
theorem SlOwn.sl {w : World} {B : Nat} {l : List Tm} {v : Value} {F : List Nat} (h : SlOwn w l v F) (hB : ∀ g ∈ F, B ≤ g) : SlIn w B l v := by
 obtain ⟨a, cap, b', F', rfl, h4, h5, h6⟩ := h
 refine ⟨a, cap, b', 0, rfl, h4, fun hn => ?_, ?_⟩
 ·rcases h5 with h5 | ⟨e1, e2, e3⟩
  ·exact absurd h5.1 hn
  ·exact ⟨e1, hB b' (by rw [e2]; simp)⟩
 ·by_cases hn : l = []
  ·rw [hn, RowAt]; trivial
  ·rcases h5 with h5 | ⟨e1, e2, e3⟩
   ·exact absurd h5.1 hn
   ·exact (h6 hn).at (fun g hg => hB g (by rw [e2]; simp [hg]))
theorem SlOwn.form {w : World} {l : List Tm} {v : Value} {F : List Nat} (h : SlOwn w l v F) : ∃ a cap, v = .slice a l.length cap := by
 obtain ⟨a, cap, _, _, h1, _⟩ := h
 exact ⟨a, cap, h1⟩
theorem SlOwn.nil (w : World) (a : Option Addr) (cap : Nat) : SlOwn w [] (.slice a 0 cap) [] := ⟨a, cap, 0, [], rfl, Nat.zero_le _, Or.inl ⟨rfl, rfl⟩, fun h => absurd rfl h⟩
end Go.Proofs.YtlbikgnanabjgaaGreat
namespace Go.Proofs.YtlbikgnanabjgaaGreat
open Go.RowKit
def cellsL : List (Tm × Value) → List Value
 | [] => []
 | (t, s) :: r => .int .i64 t.kind :: .int .i64 t.num :: s :: cellsL r
theorem cellsL_length : ∀ r : List (Tm × Value), (cellsL r).length = r.length * 3
 | [] => rfl
 | (t, s) :: r => by simp only [cellsL, List.length_cons, cellsL_length r]; omega
theorem RowAt.list {w : World} {B : Nat} : ∀ {l : List Tm} {b o : Nat}, RowAt w B l b o → ∃ r : List (Tm × Value), r.map (·.1) = l ∧ (∀ j u, (cellsL r)[j]? = some u → w.cell? ⟨b, o + j, none⟩ = some u) ∧ ∀ x ∈ r, SlIn w B x.1.kids x.2
 | [], _, _, _ => ⟨[], rfl, fun j u h => by simp [cellsL] at h, fun x h => by cases h⟩
 | t :: l, b, o, h => by
  rw [RowAt] at h
  obtain ⟨s, c0, c1, c2, hs⟩ := TmAt_iff.1 h.1
  obtain ⟨r, hr, hc, hx⟩ := RowAt.list h.2
  refine ⟨(t, s) :: r, by rw [List.map_cons, hr], fun j u hu => ?_, fun x hx' => ?_⟩
  ·match j with
   | 0 => simp only [cellsL, List.getElem?_cons_zero, Option.some.injEq] at hu; subst hu; exact c0
   | 1 => simp only [cellsL, List.getElem?_cons_succ, List.getElem?_cons_zero, Option.some.injEq] at hu; subst hu; exact c1
   | 2 => simp only [cellsL, List.getElem?_cons_succ, List.getElem?_cons_zero, Option.some.injEq] at hu; subst hu; exact c2
   | j + 3 =>
    simp only [cellsL, List.getElem?_cons_succ] at hu
    rw [show o + (j + 3) = o + 3 + j by omega]
    exact hc j u hu
  ·rcases List.mem_cons.1 hx' with rfl | h
   ·exact hs
   ·exact hx x h
theorem RowAt.of_list {w : World} {B : Nat} : ∀ {r : List (Tm × Value)} {b o : Nat}, (∀ j u, (cellsL r)[j]? = some u → w.cell? ⟨b, o + j, none⟩ = some u) → (∀ x ∈ r, SlIn w B x.1.kids x.2) → RowAt w B (r.map (·.1)) b o
 | [], _, _, _, _ => by rw [List.map_nil, RowAt]; trivial
 | (t, s) :: r, b, o, hc, hx => by
  rw [List.map_cons, RowAt]
  refine ⟨TmAt_iff.2 ⟨s, hc 0 _ rfl, hc 1 _ rfl, hc 2 _ rfl, hx _ (by simp)⟩, RowAt.of_list (fun j u hu => ?_) (fun x h => hx x (by simp [h]))⟩
  rw [show o + 3 + j = o + (j + 3) by omega]
  exact hc (j + 3) u hu
theorem RowOwn.of_list {w : World} : ∀ {r : List (Tm × Value × List Nat)} {b o : Nat}, (∀ j u, (cellsL (r.map fun x => (x.1, x.2.1)))[j]? = some u → w.cell? ⟨b, o + j, none⟩ = some u) → (∀ x ∈ r, SlOwn w x.1.kids x.2.1 x.2.2) → RowOwn w (r.map (·.1)) b o (r.flatMap (·.2.2))
 | [], _, _, _, _ => by rw [List.map_nil, RowOwn]; rfl
 | (t, s, F) :: r, b, o, hc, hx => by
  rw [List.map_cons, RowOwn]
  refine ⟨F, r.flatMap (·.2.2), by simp, TmOwn_iff.2 ⟨s, hc 0 _ rfl, hc 1 _ rfl, hc 2 _ rfl, hx _ (by simp)⟩, RowOwn.of_list (fun j u hu => ?_) (fun x h => hx x (by simp [h]))⟩
  rw [show o + 3 + j = o + (j + 3) by omega]
  exact hc (j + 3) u hu
theorem SlOwn.alloc {w : World} {l : List Tm} {v : Value} {F : List Nat} (h : SlOwn w l v F) (hF : ∀ g ∈ F, g < w.heap.size) (o : Obj) : SlOwn (w.alloc o) l v F :=
 h.keep fun g hg => SameAt.of_block (Below.heap_alloc _ _ _ (hF g hg))
theorem SlOwn.below {w w' : World} {l : List Tm} {v : Value} {F : List Nat} (h : SlOwn w l v F) (hF : ∀ g ∈ F, g < w.heap.size) (hb : Below w.heap.size w w') : SlOwn w' l v F :=
 h.keep fun g hg => SameAt.of_block (hb.block _ (hF g hg))
theorem SlOwn.setCell {w : World} {l : List Tm} {v : Value} {F : List Nat} (h : SlOwn w l v F) {p : Addr} (hp : p.block ∉ F) (u : Value) : SlOwn (w.setCell p u) l v F :=
 h.keep fun g hg => SameAt.of_block (Below.heap_setCell w p u g (fun e => hp (by rw [← e]; exact hg)))
theorem SlOwn.set3 {w : World} {l : List Tm} {v : Value} {F : List Nat} (h : SlOwn w l v F) {g : Nat} (hp : g ∉ F) (a b c : Nat) (x y z : Value) : SlOwn (((w.setCell ⟨g, a, none⟩ x).setCell ⟨g, b, none⟩ y).setCell ⟨g, c, none⟩ z) l v F :=
 ((h.setCell (p := ⟨g, a, none⟩) hp _).setCell (p := ⟨g, b, none⟩) hp _).setCell (p := ⟨g, c, none⟩) hp _
theorem bSet3 {B : Nat} {a w : World} (h : Below B a w) {g : Nat} (hg : B ≤ g) (i j k : Nat) (x y z : Value) : Below B a (((w.setCell ⟨g, i, none⟩ x).setCell ⟨g, j, none⟩ y).setCell ⟨g, k, none⟩ z) :=
 ((h.setCell (p := ⟨g, i, none⟩) hg _).setCell (p := ⟨g, j, none⟩) hg _).setCell (p := ⟨g, k, none⟩) hg _
theorem size_set3 (w : World) (g i j k : Nat) (x y z : Value) : (((w.setCell ⟨g, i, none⟩ x).setCell ⟨g, j, none⟩ y).setCell ⟨g, k, none⟩ z).heap.size = w.heap.size := by simp [World.setCell]
def numT : Nat → Tm
 | 0 => .mk 7 0 []
 | n + 1 => .mk 8 0 [numT n]
theorem numT_size : ∀ n, (numT n).size = n + 1
 | 0 => by rw [numT, Tm.size, sizes]
 | n + 1 => by rw [numT, Tm.size, sizes, sizes, numT_size n]; omega
end Go.Proofs.YtlbikgnanabjgaaGreat
