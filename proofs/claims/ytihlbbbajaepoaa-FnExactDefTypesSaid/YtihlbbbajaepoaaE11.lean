/-
  Bind.
-/
import Derived.Test.YtihlbbbajaepoaaE03
import Derived.RowKit
namespace Go.Proofs.Ytihlbbbajaepoaa
open Go.RowKit
def under (k : Int) (i : Nat) : Int := if i = 1 ∧ (k = 3 ∨ k = 4 ∨ k = 13) then 1 else 0
theorem under_01 (k : Int) (i : Nat) : 0 ≤ under k i ∧ under k i ≤ 1 := by unfold under; split <;> omega
section
variable {S : Type} (f : S → Tm → Int → Int → Option S)
mutual
def Tm.trav : Tm → Int → Int → S → Option S
 | .mk k n l, b, d, s => (f s (.mk k n l) b d).bind fun s' => travL k l 0 b d s'
def travL : Int → List Tm → Nat → Int → Int → S → Option S
 | _, [], _, _, _, s => some s
 | k, t :: l, i, b, d, s => (t.trav (b + under k i) (d + 1) s).bind fun s' => travL k l (i + 1) b d s'
end
theorem travL_drop {k : Int} {l : List Tm} {q : Nat} {b d : Int} {s : S} (h : q < l.length) :
  travL f k (l.drop q) q b d s = (l[q].trav f (b + under k q) (d + 1) s).bind fun s' => travL f k (l.drop (q + 1)) (q + 1) b d s' := by
 rw [List.drop_eq_getElem_cons h, travL]
theorem travL_end {k : Int} {l : List Tm} {q : Nat} {b d : Int} {s : S} (h : l.length ≤ q) : travL f k (l.drop q) q b d s = some s := by
 rw [List.drop_eq_nil_of_le h, travL]
end
def freeStep {S : Type} (g : S → Int → S) (s : S) (t : Tm) (b _ : Int) : Option S := some (if t.kind = 1 ∧ b ≤ t.num then g s (t.num - b) else s)
mutual
def Tm.times : Tm → Int → Int
 | .mk k n l, x => (if k = 1 ∧ n = x then 1 else 0) + timesL k l 0 x
def timesL : Int → List Tm → Nat → Int → Int
 | _, [], _, _ => 0
 | k, t :: l, i, x => t.times (x + under k i) + timesL k l (i + 1) x
end
mutual
def Tm.most : Tm → Int → Int
 | .mk k n l, b => max (if k = 1 ∧ b ≤ n then n - b + 1 else 0) (mostL k l 0 b)
def mostL : Int → List Tm → Nat → Int → Int
 | _, [], _, _ => 0
 | k, t :: l, i, b => max (t.most (b + under k i)) (mostL k l (i + 1) b)
end
theorem mostL_drop {k : Int} {l : List Tm} {q : Nat} {b : Int} (h : q < l.length) : mostL k (l.drop q) q b = max (l[q].most (b + under k q)) (mostL k (l.drop (q + 1)) (q + 1) b) := by
 rw [List.drop_eq_getElem_cons h, mostL]
theorem mostL_end {k : Int} {l : List Tm} {q : Nat} {b : Int} (h : l.length ≤ q) : mostL k (l.drop q) q b = 0 := by
 rw [List.drop_eq_nil_of_le h, mostL]
mutual
theorem Tm.most_bd : ∀ (t : Tm) (b : Int), t.allOk → 0 ≤ b → 0 ≤ t.most b ∧ t.most b ≤ 21
 | .mk k n l, b, h, hb => by
  rw [Tm.allOk] at h
  have h1 := mostL_bd l k 0 b h.2 hb
  have h2 := h.1.2.2
  rw [Tm.most]
  split
  ·rename_i e
   rw [e.1] at h2
   simp [mostN] at h2
   omega
  ·omega
theorem mostL_bd : ∀ (l : List Tm) (k : Int) (i : Nat) (b : Int), allsOk l → 0 ≤ b → 0 ≤ mostL k l i b ∧ mostL k l i b ≤ 21
 | [], k, i, b, _, _ => by rw [mostL]; omega
 | t :: l, k, i, b, h, hb => by
  rw [allsOk] at h
  have := under_01 k i
  have := Tm.most_bd t (b + under k i) h.1 (by omega)
  have := mostL_bd l k (i + 1) b h.2 hb
  rw [mostL]
  omega
end
theorem mostL_le {k : Int} {b : Int} : ∀ {l : List Tm} {i : Nat} {L : Int}, mostL k l i b ≤ L → ∀ (j : Nat) (h : j < l.length), l[j].most (b + under k (i + j)) ≤ L
 | [], i, L, _, j, h => by simp at h
 | t :: l, i, L, hL, j, h => by
  rw [mostL] at hL
  match j with
  | 0 => simpa using (show t.most (b + under k i) ≤ L by omega)
  | j + 1 =>
   have := mostL_le (l := l) (i := i + 1) (show mostL k l (i + 1) b ≤ L by omega) j (by simpa using h)
   rw [List.getElem_cons_succ, show i + (j + 1) = i + 1 + j by omega]
   exact this
def mostUse (s i : Int) : Int := max s (i + 1)
mutual
theorem Tm.trav_most : ∀ (t : Tm) (b d s : Int), 0 ≤ s → t.trav (freeStep mostUse) b d s = some (max s (t.most b))
 | .mk k n l, b, d, s, hs => by
  rw [Tm.trav, freeStep, Option.bind_some, Tm.most]
  show travL _ k l 0 b d (if k = 1 ∧ b ≤ n then mostUse s (n - b) else s) = _
  by_cases hk : k = 1 ∧ b ≤ n
  ·rw [if_pos hk, if_pos hk, mostUse, travL_most l k 0 b d _ (by omega)]
   congr 1
   omega
  ·rw [if_neg hk, if_neg hk, travL_most l k 0 b d _ hs]
   congr 1
   omega
theorem travL_most : ∀ (l : List Tm) (k : Int) (i : Nat) (b d s : Int), 0 ≤ s → travL (freeStep mostUse) k l i b d s = some (max s (mostL k l i b))
 | [], k, i, b, d, s, hs => by rw [travL, mostL]; congr 1; omega
 | t :: l, k, i, b, d, s, hs => by
  rw [travL, Tm.trav_most t _ _ s hs, Option.bind_some, travL_most l k (i + 1) b d _ (by omega), mostL]
  congr 1
  omega
end
noncomputable def maxFreeOf (t : Tm) : Int := @ite _ t.Valid (Classical.propDecidable _) (t.most 0) (-1)
theorem most_trav {t : Tm} (h : t.Valid) : t.trav (freeStep mostUse) 0 1 0 = some (maxFreeOf t) := by
 unfold maxFreeOf
 have hb := t.most_bd 0 h.1 (by omega)
 rw [if_pos h, Tm.trav_most t 0 1 0 (by omega)]
 congr 1
 omega
section
variable (ρ : Int → Int → Tm)
end
section
variable (ok : Int → Int → Prop)
end
end Go.Proofs.Ytihlbbbajaepoaa
