/-
  PlP.
-/
import Derived.Test.YtihlbbbajaepoaaP23
namespace Go.Proofs.Ytihlbbbajaepoaa
mutual
def Tm.nodesFrom : Tm → List (Tm × Nat) → List (List (Tm × Nat) × Tm)
 | .mk k n l, p => (p, .mk k n l) :: kidsFrom (.mk k n l) l 0 p
def kidsFrom : Tm → List Tm → Nat → List (Tm × Nat) → List (List (Tm × Nat) × Tm)
 | _, [], _, _ => []
 | t0, t :: l, i, p => t.nodesFrom (p ++ [(t0, i)]) ++ kidsFrom t0 l (i + 1) p
end
def climbR : List (Tm × Nat) → Option (List (Tm × Nat) × Tm)
 | [] => none
 | (y, i) :: r => if i + 1 < y.kids.length then some (r.reverse ++ [(y, i + 1)], kidT y (i + 1)) else climbR r
def climb (p : List (Tm × Nat)) : Option (List (Tm × Nat) × Tm) := climbR p.reverse
theorem climb_nil : climb [] = none := rfl
theorem climb_snoc (p : List (Tm × Nat)) (y : Tm) (i : Nat) : climb (p ++ [(y, i)]) = if i + 1 < y.kids.length then some (p ++ [(y, i + 1)], kidT y (i + 1)) else climb p := by
 unfold climb
 rw [List.reverse_append]
 simp only [List.reverse_cons, List.reverse_nil, List.nil_append, List.cons_append, climbR, List.reverse_reverse]
def nextAt (y : List (Tm × Nat) × Tm) : Option (List (Tm × Nat) × Tm) := if 0 < y.2.kids.length then some (y.1 ++ [(y.2, 0)], kidT y.2 0) else climb y.1
def RunsTo : List (List (Tm × Nat) × Tm) → Option (List (Tm × Nat) × Tm) → Prop
 | [], _ => False
 | [a], e => nextAt a = e
 | a :: b :: l, e => nextAt a = some b ∧ RunsTo (b :: l) e
theorem RunsTo.append {b : List (Tm × Nat) × Tm} {B : List (List (Tm × Nat) × Tm)} {e : Option (List (Tm × Nat) × Tm)} (hB : RunsTo (b :: B) e) : ∀ {A : List (List (Tm × Nat) × Tm)}, RunsTo A (some b) → RunsTo (A ++ b :: B) e
 | [], h => h.elim
 | [_], h => ⟨h, hB⟩
 | _ :: a :: A, h => ⟨h.1, RunsTo.append hB (A := a :: A) h.2⟩
theorem RunsTo.get {e : Option (List (Tm × Nat) × Tm)} : ∀ {L : List (List (Tm × Nat) × Tm)}, RunsTo L e → ∀ k (h : k + 1 < L.length), nextAt (L[k]'(by omega)) = some L[k + 1]
 | [], h, _, _ => h.elim
 | [_], _, k, h => by simp at h
 | _ :: _ :: _, h, 0, _ => h.1
 | _ :: b :: l, h, k + 1, hk => by
  have := RunsTo.get (L := b :: l) h.2 k (by simpa using hk)
  simpa using this
theorem RunsTo.last {e : Option (List (Tm × Nat) × Tm)} : ∀ {L : List (List (Tm × Nat) × Tm)}, RunsTo L e → ∀ k (h : k < L.length), k + 1 = L.length → nextAt L[k] = e
 | [], h, _, _, _ => h.elim
 | [_], h, 0, _, _ => h
 | [_], _, k + 1, hk, _ => by simp at hk
 | _ :: _ :: _, _, 0, _, he => by simp at he
 | _ :: b :: l, h, k + 1, hk, he => by
  have := RunsTo.last (L := b :: l) h.2 k (by simpa using hk) (by simpa using he)
  simpa using this
theorem nodesFrom_head (t : Tm) (p : List (Tm × Nat)) : ∃ l, t.nodesFrom p = (p, t) :: l := by
 obtain ⟨k, n, l⟩ := t
 exact ⟨_, by rw [Tm.nodesFrom]⟩
mutual
theorem Tm.nodes_run : ∀ (t : Tm) (p : List (Tm × Nat)), RunsTo (t.nodesFrom p) (climb p)
 | .mk k n l, p => by
  rw [Tm.nodesFrom]
  cases l with
  | nil =>
   rw [kidsFrom]
   show nextAt _ = _
   unfold nextAt
   rw [if_neg (by simp [Tm.kids])]
  | cons x l =>
   obtain ⟨h1, y, L, h2, h3⟩ := kids_run (.mk k n (x :: l)) (x :: l) 0 p (by simp [Tm.kids]) (by simp)
   rw [h2] at h1 ⊢
   refine ⟨?_, h1⟩
   unfold nextAt
   rw [if_pos (by simp [Tm.kids]), h3]
theorem kids_run : ∀ (t0 : Tm) (l : List Tm) (i : Nat) (p : List (Tm × Nat)), t0.kids.drop i = l → l ≠ [] → RunsTo (kidsFrom t0 l i p) (climb p) ∧ ∃ y L, kidsFrom t0 l i p = y :: L ∧ y = (p ++ [(t0, i)], kidT t0 i)
 | _, [], _, _, _, h => absurd rfl h
 | t0, t :: l, i, p, hd, _ => by
  have hi : i < t0.kids.length := by
   rcases Nat.lt_or_ge i t0.kids.length with h | h
   ·exact h
   ·rw [List.drop_eq_nil_of_le h] at hd; cases hd
  have hdd := List.drop_eq_getElem_cons hi
  rw [hd] at hdd
  obtain ⟨ht, hl⟩ := List.cons.inj hdd
  have hk : kidT t0 i = t := by rw [kidT_eq hi, ht]
  have h1 := t.nodes_run (p ++ [(t0, i)])
  rw [climb_snoc] at h1
  obtain ⟨L, hL⟩ := nodesFrom_head t (p ++ [(t0, i)])
  rw [kidsFrom]
  refine ⟨?_, (p ++ [(t0, i)], t), L ++ kidsFrom t0 l (i + 1) p, by rw [hL]; rfl, by rw [hk]⟩
  cases l with
  | nil =>
   rw [kidsFrom, List.append_nil]
   have : ¬ i + 1 < t0.kids.length := by
    intro h
    have h2 : (t0.kids.drop (i + 1)).length = 0 := by rw [← hl]; rfl
    rw [List.length_drop] at h2
    omega
   rw [if_neg this] at h1
   exact h1
  | cons x l =>
   obtain ⟨k1, y, M, k2, k3⟩ := kids_run t0 (x :: l) (i + 1) p hl.symm (by simp)
   have : i + 1 < t0.kids.length := by
    have h2 : 0 < (t0.kids.drop (i + 1)).length := by rw [← hl]; simp
    rw [List.length_drop] at h2
    omega
   rw [if_pos this, ← k3] at h1
   rw [k2] at k1 ⊢
   exact RunsTo.append k1 h1
end
mutual
theorem Tm.nodes_len : ∀ (t : Tm) (p : List (Tm × Nat)), (t.nodesFrom p).length = t.size
 | .mk k n l, p => by
  rw [Tm.nodesFrom, List.length_cons, kids_len (.mk k n l) l 0 p, Tm.size]
  omega
theorem kids_len : ∀ (t0 : Tm) (l : List Tm) (i : Nat) (p : List (Tm × Nat)), (kidsFrom t0 l i p).length = sizes l
 | _, [], _, _ => by rw [kidsFrom, sizes]; rfl
 | t0, t :: l, i, p => by
  rw [kidsFrom, List.length_append, t.nodes_len, kids_len t0 l (i + 1) p, sizes]
end
def NodeOk (H : Nat) (y : List (Tm × Nat) × Tm) : Prop := y.2.Valid ∧ InPath y.1 ∧ (∀ z ∈ y.1, z.1.Valid) ∧ hgts y.2.kids + y.1.length ≤ H
theorem NodeOk.kid {H : Nat} {p : List (Tm × Nat)} {t : Tm} (h : NodeOk H (p, t)) {i : Nat} (hi : i < t.kids.length) : NodeOk H (p ++ [(t, i)], kidT t i) := by
 obtain ⟨h1, h2, h3, h4⟩ := h
 refine ⟨h1.kidT hi, inPath_snoc h2 hi, fun z hz => ?_, ?_⟩
 ·rcases List.mem_append.1 hz with hz | hz
  ·exact h3 z hz
  ·rw [List.mem_singleton.1 hz]; exact h1
 ·have k1 := mem_hgts hi
  have k2 := (t.kids[i]).hgt_eq
  show hgts (kidT t i).kids + (p ++ [(t, i)]).length ≤ H
  rw [kidT_eq hi, List.length_append, List.length_singleton]
  show hgts t.kids[i].kids + (p.length + 1) ≤ H
  have h4' : hgts t.kids + p.length ≤ H := h4
  omega
mutual
theorem Tm.nodes_ok {H : Nat} : ∀ (t : Tm) (p : List (Tm × Nat)), NodeOk H (p, t) → ∀ y ∈ t.nodesFrom p, NodeOk H y
 | .mk k n l, p, h, y, hy => by
  rw [Tm.nodesFrom] at hy
  rcases List.mem_cons.1 hy with rfl | hy
  ·exact h
  ·exact kids_ok (.mk k n l) l 0 p (by simp [Tm.kids]) h y hy
theorem kids_ok {H : Nat} : ∀ (t0 : Tm) (l : List Tm) (i : Nat) (p : List (Tm × Nat)), t0.kids.drop i = l → NodeOk H (p, t0) → ∀ y ∈ kidsFrom t0 l i p, NodeOk H y
 | _, [], _, _, _, _, y, hy => by rw [kidsFrom] at hy; cases hy
 | t0, t :: l, i, p, hd, h, y, hy => by
  have hi : i < t0.kids.length := by
   rcases Nat.lt_or_ge i t0.kids.length with h | h
   ·exact h
   ·rw [List.drop_eq_nil_of_le h] at hd; cases hd
  have hdd := List.drop_eq_getElem_cons hi
  rw [hd] at hdd
  obtain ⟨ht, hl⟩ := List.cons.inj hdd
  have hk : kidT t0 i = t := by rw [kidT_eq hi, ht]
  rw [kidsFrom] at hy
  rcases List.mem_append.1 hy with hy | hy
  ·exact t.nodes_ok (p ++ [(t0, i)]) (hk ▸ h.kid hi) y hy
  ·exact kids_ok t0 l (i + 1) p hl.symm h y hy
end
theorem Tm.Valid.nodes {t : Tm} (h : t.Valid) : ∀ y ∈ t.nodesFrom [], NodeOk (hgts t.kids) y := t.nodes_ok [] ⟨h, trivial, fun z hz => (by cases hz), Nat.le_refl _⟩
theorem NodeOk.short {t : Tm} {y : List (Tm × Nat) × Tm} (h : NodeOk (hgts t.kids) y) (hv : t.Valid) : y.1.length ≤ 29 := by
 have h1 := h.2.2.2
 have h2 := t.hgt_eq
 have h3 := hv.2.1
 omega
end Go.Proofs.Ytihlbbbajaepoaa
