/-
  Own.
-/
import Derived.Test.YteeafpnjpcgfaaaGreatB01
namespace Go.Proofs.YteeafpnjpcgfaaaGreat
open Go.RowKit
mutual
def TmOwn (w : World) : Tm → Nat → Nat → List Nat → Prop
 | .mk k n l, b, o, F => ∃ (a : Option Addr) (cap b' : Nat) (F' : List Nat), w.cell? ⟨b, o, none⟩ = some (.int .i64 k) ∧ w.cell? ⟨b, o + 1, none⟩ = some (.int .i64 n) ∧ w.cell? ⟨b, o + 2, none⟩ = some (.slice a l.length cap) ∧
   l.length ≤ maxLen ∧ (l = [] ∧ F = [] ∨ a = some ⟨b', 0, none⟩ ∧ F = b' :: F' ∧ (∀ i, w.frozen? ⟨b', i, none⟩ = false)) ∧ (l ≠ [] → RowOwn w l b' 0 F')
def RowOwn (w : World) : List Tm → Nat → Nat → List Nat → Prop
 | [], _, _, F => F = []
 | t :: l, b, o, F => ∃ F1 F2, F = F1 ++ F2 ∧ TmOwn w t b o F1 ∧ RowOwn w l b (o + 3) F2
end
def SlOwn (w : World) (l : List Tm) (v : Value) (F : List Nat) : Prop :=
 ∃ (a : Option Addr) (cap b' : Nat) (F' : List Nat), v = .slice a l.length cap ∧ l.length ≤ maxLen ∧ (l = [] ∧ F = [] ∨ a = some ⟨b', 0, none⟩ ∧ F = b' :: F' ∧ (∀ i, w.frozen? ⟨b', i, none⟩ = false)) ∧ (l ≠ [] → RowOwn w l b' 0 F')
theorem TmOwn_iff {w : World} {t : Tm} {b o : Nat} {F : List Nat} : TmOwn w t b o F ↔
  ∃ s, w.cell? ⟨b, o, none⟩ = some (.int .i64 t.kind) ∧ w.cell? ⟨b, o + 1, none⟩ = some (.int .i64 t.num) ∧ w.cell? ⟨b, o + 2, none⟩ = some s ∧ SlOwn w t.kids s F := by
 cases t with
 | mk k n l =>
  simp only [TmOwn, Tm.kind, Tm.num, Tm.kids, SlOwn]
  constructor
  ·rintro ⟨a, cap, b', F', h1, h2, h3, h4, h5, h6⟩
   exact ⟨_, h1, h2, h3, a, cap, b', F', rfl, h4, h5, h6⟩
  ·rintro ⟨s, h1, h2, h3, a, cap, b', F', rfl, h4, h5, h6⟩
   exact ⟨a, cap, b', F', h1, h2, h3, h4, h5, h6⟩
theorem RowOwn_append {w : World} : ∀ {l m : List Tm} {b o : Nat} {F : List Nat}, RowOwn w (l ++ m) b o F ↔ ∃ F1 F2, F = F1 ++ F2 ∧ RowOwn w l b o F1 ∧ RowOwn w m b (o + l.length * 3) F2
 | [], m, b, o, F => by
  constructor
  ·intro h; exact ⟨[], F, rfl, by rw [RowOwn], by simpa using h⟩
  ·rintro ⟨F1, F2, rfl, h1, h2⟩
   rw [RowOwn] at h1
   subst h1
   simpa using h2
 | t :: l, m, b, o, F => by
  rw [List.cons_append, RowOwn]
  constructor
  ·rintro ⟨F1, F2, rfl, h1, h2⟩
   obtain ⟨G1, G2, rfl, h3, h4⟩ := RowOwn_append.1 h2
   exact ⟨F1 ++ G1, G2, by simp, by rw [RowOwn]; exact ⟨F1, G1, rfl, h1, h3⟩, by rw [List.length_cons, show o + (l.length + 1) * 3 = o + 3 + l.length * 3 by omega]; exact h4⟩
  ·rintro ⟨F1, F2, rfl, h1, h2⟩
   rw [RowOwn] at h1
   obtain ⟨G1, G2, rfl, h3, h4⟩ := h1
   refine ⟨G1, G2 ++ F2, by simp, h3, RowOwn_append.2 ⟨G2, F2, rfl, h4, ?_⟩⟩
   rw [List.length_cons, show o + (l.length + 1) * 3 = o + 3 + l.length * 3 by omega] at h2
   exact h2
def SameAt (w w' : World) (g : Nat) : Prop := ∀ i, w'.cell? ⟨g, i, none⟩ = w.cell? ⟨g, i, none⟩ ∧ w'.frozen? ⟨g, i, none⟩ = w.frozen? ⟨g, i, none⟩
theorem SameAt.of_block {w w' : World} {g : Nat} (h : w'.heap[g]? = w.heap[g]?) : SameAt w w' g := fun _ => ⟨World.cell?_of_block (w := w) h, World.frozen?_of_block (w := w) h⟩
mutual
theorem TmOwn.keep {w w' : World} : ∀ {t : Tm} {b o : Nat} {F : List Nat}, TmOwn w t b o F → (∀ i, i < 3 → w'.cell? ⟨b, o + i, none⟩ = w.cell? ⟨b, o + i, none⟩) → (∀ g ∈ F, SameAt w w' g) → TmOwn w' t b o F
 | .mk k n l, b, o, F, h, hc, hF => by
  rw [TmOwn] at h ⊢
  obtain ⟨a, cap, b', F', h1, h2, h3, h4, h5, h6⟩ := h
  refine ⟨a, cap, b', F', (hc 0 (by omega)).trans h1, (hc 1 (by omega)).trans h2, (hc 2 (by omega)).trans h3, h4, ?_, fun hn => ?_⟩
  ·rcases h5 with h5 | ⟨e1, e2, e3⟩
   ·exact Or.inl h5
   ·exact Or.inr ⟨e1, e2, fun i => ((hF b' (by rw [e2]; simp)) i).2.trans (e3 i)⟩
  ·rcases h5 with h5 | ⟨e1, e2, e3⟩
   ·exact absurd h5.1 hn
   ·exact RowOwn.keep (h6 hn) (fun i _ => ((hF b' (by rw [e2]; simp)) _).1) (fun g hg => hF g (by rw [e2]; simp [hg]))
theorem RowOwn.keep {w w' : World} : ∀ {l : List Tm} {b o : Nat} {F : List Nat}, RowOwn w l b o F → (∀ i, i < l.length * 3 → w'.cell? ⟨b, o + i, none⟩ = w.cell? ⟨b, o + i, none⟩) → (∀ g ∈ F, SameAt w w' g) → RowOwn w' l b o F
 | [], _, _, _, h, _, _ => by rw [RowOwn] at h ⊢; exact h
 | t :: l, b, o, F, h, hc, hF => by
  rw [RowOwn] at h ⊢
  obtain ⟨F1, F2, rfl, h1, h2⟩ := h
  refine ⟨F1, F2, rfl, TmOwn.keep h1 (fun i hi => hc i (by simp; omega)) (fun g hg => hF g (by simp [hg])), RowOwn.keep h2 (fun i hi => ?_) (fun g hg => hF g (by simp [hg]))⟩
  have := hc (3 + i) (by simp; omega)
  rwa [← Nat.add_assoc] at this
end
theorem SlOwn.keep {w w' : World} {l : List Tm} {v : Value} {F : List Nat} (h : SlOwn w l v F) (hF : ∀ g ∈ F, SameAt w w' g) : SlOwn w' l v F := by
 obtain ⟨a, cap, b', F', rfl, h4, h5, h6⟩ := h
 refine ⟨a, cap, b', F', rfl, h4, ?_, fun hn => ?_⟩
 ·rcases h5 with h5 | ⟨e1, e2, e3⟩
  ·exact Or.inl h5
  ·exact Or.inr ⟨e1, e2, fun i => ((hF b' (by rw [e2]; simp)) i).2.trans (e3 i)⟩
 ·rcases h5 with h5 | ⟨e1, e2, e3⟩
  ·exact absurd h5.1 hn
  ·exact (h6 hn).keep (fun i _ => ((hF b' (by rw [e2]; simp)) _).1) (fun g hg => hF g (by rw [e2]; simp [hg]))
mutual
theorem TmOwn.at {w : World} {B : Nat} : ∀ {t : Tm} {b o : Nat} {F : List Nat}, TmOwn w t b o F → (∀ g ∈ F, B ≤ g) → TmAt w B t b o
 | .mk k n l, b, o, F, h, hB => by
  rw [TmOwn] at h
  rw [TmAt]
  obtain ⟨a, cap, b', F', h1, h2, h3, h4, h5, h6⟩ := h
  refine ⟨a, cap, b', 0, h1, h2, h3, h4, fun hn => ?_, ?_⟩
  ·rcases h5 with h5 | ⟨e1, e2, e3⟩
   ·exact absurd h5.1 hn
   ·exact ⟨e1, hB b' (by rw [e2]; simp)⟩
  ·rcases h5 with h5 | ⟨e1, e2, e3⟩
   ·rw [h5.1, RowAt]; trivial
   ·by_cases hn : l = []
    ·rw [hn, RowAt]; trivial
    ·exact RowOwn.at (h6 hn) (fun g hg => hB g (by rw [e2]; simp [hg]))
theorem RowOwn.at {w : World} {B : Nat} : ∀ {l : List Tm} {b o : Nat} {F : List Nat}, RowOwn w l b o F → (∀ g ∈ F, B ≤ g) → RowAt w B l b o
 | [], _, _, _, _, _ => by rw [RowAt]; trivial
 | t :: l, b, o, F, h, hB => by
  rw [RowOwn] at h
  rw [RowAt]
  obtain ⟨F1, F2, rfl, h1, h2⟩ := h
  exact ⟨TmOwn.at h1 (fun g hg => hB g (by simp [hg])), RowOwn.at h2 (fun g hg => hB g (by simp [hg]))⟩
end
theorem SlOwn.sl {w : World} {B : Nat} {l : List Tm} {v : Value} {F : List Nat} (h : SlOwn w l v F) (hB : ∀ g ∈ F, B ≤ g) : SlIn w B l v := by
 obtain ⟨a, cap, b', F', rfl, h4, h5, h6⟩ := h
 refine ⟨a, cap, b', 0, rfl, h4, fun hn => ?_, ?_⟩
 ·rcases h5 with h5 | ⟨e1, e2, e3⟩
  ·exact absurd h5.1 hn
  ·exact ⟨e1, hB b' (by rw [e2]; simp)⟩
 ·by_cases hn : l = []
  ·rw [hn, RowAt]; trivial
  ·rcases h5 with h5 | ⟨e1, e2, e3⟩
   ·exact absurd h5.1 hn
   ·exact (h6 hn).at (fun g hg => hB g (by rw [e2]; simp [hg]))
theorem SlOwn.form {w : World} {l : List Tm} {v : Value} {F : List Nat} (h : SlOwn w l v F) : ∃ a cap, v = .slice a l.length cap := by
 obtain ⟨a, cap, _, _, h1, _⟩ := h
 exact ⟨a, cap, h1⟩
theorem SlOwn.nil (w : World) (a : Option Addr) (cap : Nat) : SlOwn w [] (.slice a 0 cap) [] := ⟨a, cap, 0, [], rfl, Nat.zero_le _, Or.inl ⟨rfl, rfl⟩, fun h => absurd rfl h⟩
mutual
def Tm.mark : Tm → Int → Tm | .mk _ _ l, k => .mk k (k + 1) (markL l (k + 2))
def markL : List Tm → Int → List Tm
 | [], _ => []
 | t :: l, k => t.mark k :: markL l (k + 2 * t.size)
end
theorem Tm.mark_eq (t : Tm) (k : Int) : t.mark k = .mk k (k + 1) (markL t.kids (k + 2)) := by cases t; rw [Tm.mark]; rfl
theorem markL_length : ∀ (l : List Tm) (k : Int), (markL l k).length = l.length
 | [], _ => by rw [markL]
 | t :: l, k => by rw [markL, List.length_cons, List.length_cons, markL_length l]
theorem markL_append : ∀ (l m : List Tm) (k : Int), markL (l ++ m) k = markL l k ++ markL m (k + 2 * sizes l)
 | [], m, k => by rw [List.nil_append, markL, List.nil_append, sizes]; simp
 | t :: l, m, k => by
  rw [List.cons_append, markL, markL, markL_append l, List.cons_append, sizes]
  congr 3
  omega
theorem markL_take_succ (l : List Tm) (k : Int) (i : Nat) (h : i < l.length) : markL (l.take (i + 1)) k = markL (l.take i) k ++ [l[i].mark (k + 2 * sizes (l.take i))] := by
 rw [List.take_succ_eq_append_getElem h, markL_append, markL, markL]
theorem markL_get : ∀ (l : List Tm) (k : Int) (i : Nat) (h : i < l.length), (markL l k)[i]'(by rw [markL_length]; exact h) = l[i].mark (k + 2 * sizes (l.take i))
 | t :: l, k, 0, _ => by simp [markL, sizes]
 | t :: l, k, i + 1, h => by
  simp only [markL, List.getElem_cons_succ, List.take_succ_cons, sizes]
  rw [markL_get l _ i (by simpa using h)]
  congr 1
  omega
end Go.Proofs.YteeafpnjpcgfaaaGreat
