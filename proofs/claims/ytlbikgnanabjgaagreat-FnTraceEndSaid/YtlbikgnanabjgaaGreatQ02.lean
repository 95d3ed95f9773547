/-
  Model.
-/
import Derived.Test.YtlbikgnanabjgaaGreatQ01
namespace Go.Proofs.YtlbikgnanabjgaaGreat
def arity (k : Int) : Int :=
 if k = 1 ∨ k = 2 ∨ k = 6 ∨ k = 7 then 0 else if k = 8 ∨ k = 11 ∨ k = 15 ∨ k = 16 then 1 else if k = 3 ∨ k = 4 ∨ k = 5 ∨ k = 13 then 2 else
 if k = 10 ∨ k = 12 ∨ k = 14 then 3 else if k = 9 then 4 else -1
def mostN (k : Int) : Int := if k = 1 then 20 else if k = 2 then 3 else 0
noncomputable def tr (p : Prop) : Bool := @decide p (Classical.propDecidable p)
theorem tr_iff {p : Prop} : tr p = true ↔ p := by simp [tr]
theorem tr_false {p : Prop} : tr p = false ↔ ¬ p := by simp [tr]
theorem tr_of {p : Prop} (h : p) : tr p = true := tr_iff.2 h
theorem tr_not {p : Prop} (h : ¬ p) : tr p = false := tr_false.2 h
def RootOk (k n : Int) (len : Nat) : Prop := arity k = len ∧ 0 ≤ n ∧ n ≤ mostN k
def Tm.rootOk (t : Tm) : Prop := RootOk t.kind t.num t.kids.length
mutual
def Tm.allOk : Tm → Prop | .mk k n l => RootOk k n l.length ∧ allsOk l
def allsOk : List Tm → Prop
 | [] => True
 | t :: l => t.allOk ∧ allsOk l
end
mutual
def Tm.hgt : Tm → Nat | .mk _ _ l => 1 + hgts l
def hgts : List Tm → Nat
 | [] => 0
 | t :: l => max t.hgt (hgts l)
end
theorem Tm.allOk_iff (t : Tm) : t.allOk ↔ t.rootOk ∧ allsOk t.kids := by cases t; rw [Tm.allOk]; rfl
theorem Tm.hgt_eq (t : Tm) : t.hgt = 1 + hgts t.kids := by cases t; rw [Tm.hgt]; rfl
theorem allsOk_iff : ∀ l : List Tm, allsOk l ↔ ∀ t ∈ l, t.allOk
 | [] => by simp [allsOk]
 | t :: l => by rw [allsOk, allsOk_iff l]; simp
theorem hgts_le : ∀ (l : List Tm) (d : Nat), hgts l ≤ d ↔ ∀ t ∈ l, t.hgt ≤ d
 | [], d => by simp [hgts]
 | t :: l, d => by
  rw [hgts, Nat.max_le, hgts_le l d]; simp
theorem hgts_append : ∀ a b : List Tm, hgts (a ++ b) = max (hgts a) (hgts b)
 | [], b => by rw [List.nil_append, hgts]; omega
 | t :: a, b => by rw [List.cons_append, hgts, hgts, hgts_append a b]; omega
theorem hgts_take_succ (l : List Tm) (i : Nat) (h : i < l.length) : hgts (l.take (i + 1)) = max (hgts (l.take i)) l[i].hgt := by
 rw [List.take_succ_eq_append_getElem h, hgts_append, hgts, hgts]; omega
def Sh (t : Tm) (d : Int) : Prop := t.allOk ∧ (t.hgt : Int) ≤ d
theorem Sh_iff {t : Tm} {d : Int} : Sh t d ↔ 1 ≤ d ∧ t.rootOk ∧ ∀ (i : Nat) (h : i < t.kids.length), Sh t.kids[i] (d - 1) := by
 unfold Sh
 rw [t.allOk_iff, t.hgt_eq, allsOk_iff]
 constructor
 ·rintro ⟨⟨h1, h2⟩, h3⟩
  refine ⟨by omega, h1, fun i h => ⟨h2 _ (List.getElem_mem h), ?_⟩⟩
  have := (hgts_le t.kids (hgts t.kids)).1 (Nat.le_refl _) _ (List.getElem_mem h)
  omega
 ·rintro ⟨h1, h2, h3⟩
  refine ⟨⟨h2, fun u hu => ?_⟩, ?_⟩
  ·obtain ⟨i, hi, rfl⟩ := List.getElem_of_mem hu
   exact (h3 i hi).1
  ·have : hgts t.kids ≤ (d - 1).toNat := (hgts_le _ _).2 fun u hu => by
    obtain ⟨i, hi, rfl⟩ := List.getElem_of_mem hu
    have := (h3 i hi).2
    omega
   omega
def Tm.Valid (t : Tm) : Prop := t.allOk ∧ t.hgt ≤ 30 ∧ t.size ≤ 400
end Go.Proofs.YtlbikgnanabjgaaGreat
