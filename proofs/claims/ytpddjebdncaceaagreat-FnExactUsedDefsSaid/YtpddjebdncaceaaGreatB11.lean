/-
  Bind.
-/
import Derived.Test.YtpddjebdncaceaaGreatB03
import Derived.RowKit
namespace Go.Proofs.YtpddjebdncaceaaGreat
open Go.RowKit
def under (k : Int) (i : Nat) : Int := if i = 1 ∧ (k = 3 ∨ k = 4 ∨ k = 13) then 1 else 0
theorem under_01 (k : Int) (i : Nat) : 0 ≤ under k i ∧ under k i ≤ 1 := by unfold under; split <;> omega
section
variable {S : Type} (f : S → Tm → Int → Int → Option S)
mutual
def Tm.trav : Tm → Int → Int → S → Option S
 | .mk k n l, b, d, s => (f s (.mk k n l) b d).bind fun s' => travL k l 0 b d s'
def travL : Int → List Tm → Nat → Int → Int → S → Option S
 | _, [], _, _, _, s => some s
 | k, t :: l, i, b, d, s => (t.trav (b + under k i) (d + 1) s).bind fun s' => travL k l (i + 1) b d s'
end
theorem travL_drop {k : Int} {l : List Tm} {q : Nat} {b d : Int} {s : S} (h : q < l.length) :
  travL f k (l.drop q) q b d s = (l[q].trav f (b + under k q) (d + 1) s).bind fun s' => travL f k (l.drop (q + 1)) (q + 1) b d s' := by
 rw [List.drop_eq_getElem_cons h, travL]
theorem travL_end {k : Int} {l : List Tm} {q : Nat} {b d : Int} {s : S} (h : l.length ≤ q) : travL f k (l.drop q) q b d s = some s := by
 rw [List.drop_eq_nil_of_le h, travL]
end
def freeStep {S : Type} (g : S → Int → S) (s : S) (t : Tm) (b _ : Int) : Option S := some (if t.kind = 1 ∧ b ≤ t.num then g s (t.num - b) else s)
mutual
def Tm.times : Tm → Int → Int
 | .mk k n l, x => (if k = 1 ∧ n = x then 1 else 0) + timesL k l 0 x
def timesL : Int → List Tm → Nat → Int → Int
 | _, [], _, _ => 0
 | k, t :: l, i, x => t.times (x + under k i) + timesL k l (i + 1) x
end
theorem timesL_drop {k : Int} {l : List Tm} {q : Nat} {x : Int} (h : q < l.length) : timesL k (l.drop q) q x = l[q].times (x + under k q) + timesL k (l.drop (q + 1)) (q + 1) x := by
 rw [List.drop_eq_getElem_cons h, timesL]
theorem timesL_end {k : Int} {l : List Tm} {q : Nat} {x : Int} (h : l.length ≤ q) : timesL k (l.drop q) q x = 0 := by
 rw [List.drop_eq_nil_of_le h, timesL]
mutual
theorem Tm.times_bd : ∀ (t : Tm) (x : Int), 0 ≤ t.times x ∧ t.times x ≤ t.size
 | .mk k n l, x => by
  have := timesL_bd l k 0 x
  rw [Tm.times, Tm.size]
  split <;> omega
theorem timesL_bd : ∀ (l : List Tm) (k : Int) (i : Nat) (x : Int), 0 ≤ timesL k l i x ∧ timesL k l i x ≤ sizes l
 | [], k, i, x => by rw [timesL, sizes]; simp
 | t :: l, k, i, x => by
  have := Tm.times_bd t (x + under k i)
  have := timesL_bd l k (i + 1) x
  rw [timesL, sizes]
  omega
end
mutual
theorem Tm.times_big : ∀ (t : Tm) (x : Int), t.allOk → 20 < x → t.times x = 0
 | .mk k n l, x, h, hx => by
  rw [Tm.allOk] at h
  have h1 := timesL_big l k 0 x h.2 hx
  have h2 := h.1.2.2
  rw [Tm.times, h1, if_neg]
  ·omega
  ·rintro ⟨rfl, rfl⟩
   simp [mostN] at h2
   omega
theorem timesL_big : ∀ (l : List Tm) (k : Int) (i : Nat) (x : Int), allsOk l → 20 < x → timesL k l i x = 0
 | [], k, i, x, _, _ => by rw [timesL]
 | t :: l, k, i, x, h, hx => by
  rw [allsOk] at h
  have := under_01 k i
  rw [timesL, Tm.times_big t _ h.1 (by omega), timesL_big l k _ x h.2 hx]
  omega
end
def inc1 (s : Int) : Int := wrap64 (s + 1)
theorem inc1_eq {s : Int} (h : -1000000 ≤ s) (h1 : s ≤ 1000000) : inc1 s = s + 1 := by
 unfold inc1 wrap64
 omega
def countUse (x : Int) (s i : Int) : Int := if i = x then inc1 s else s
mutual
theorem Tm.trav_times : ∀ (t : Tm) (x b d s : Int), 0 ≤ x → 0 ≤ b → 0 ≤ s → s + t.times (x + b) ≤ 1000 → t.trav (freeStep (countUse x)) b d s = some (s + t.times (x + b))
 | .mk k n l, x, b, d, s, hx, hb, hs, h => by
  have hl := timesL_bd l k 0 (x + b)
  rw [Tm.times] at h ⊢
  rw [Tm.trav, freeStep, Option.bind_some]
  by_cases hk : k = 1 ∧ n = x + b
  ·rw [if_pos hk] at h ⊢
   rw [if_pos ⟨hk.1, by show b ≤ n; omega⟩]
   show travL _ k l 0 b d (countUse x s (n - b)) = _
   rw [countUse, if_pos (by omega), inc1_eq (by omega) (by omega), travL_times l k 0 x b d (s + 1) hx hb (by omega) (by omega)]
   congr 1
   omega
  ·rw [if_neg hk] at h ⊢
   have e : (if (Tm.mk k n l).kind = 1 ∧ b ≤ (Tm.mk k n l).num then countUse x s ((Tm.mk k n l).num - b) else s) = s := by
    show (if k = 1 ∧ b ≤ n then countUse x s (n - b) else s) = s
    split
    ·rw [countUse, if_neg]
     intro e
     exact hk ⟨by omega, by omega⟩
    ·rfl
   rw [e, travL_times l k 0 x b d s hx hb hs (by omega)]
   congr 1
   omega
theorem travL_times : ∀ (l : List Tm) (k : Int) (i : Nat) (x b d s : Int), 0 ≤ x → 0 ≤ b → 0 ≤ s → s + timesL k l i (x + b) ≤ 1000 → travL (freeStep (countUse x)) k l i b d s = some (s + timesL k l i (x + b))
 | [], k, i, x, b, d, s, _, _, _, _ => by rw [travL, timesL]; congr 1; omega
 | t :: l, k, i, x, b, d, s, hx, hb, hs, h => by
  have hu := under_01 k i
  have h1 := Tm.times_bd t (x + b + under k i)
  have h2 := timesL_bd l k (i + 1) (x + b)
  rw [timesL] at h ⊢
  rw [travL, Tm.trav_times t x (b + under k i) (d + 1) s hx (by omega) hs (by rw [← Int.add_assoc]; omega), Option.bind_some, ← Int.add_assoc x b, travL_times l k (i + 1) x b d _ hx hb (by omega) (by omega)]
  congr 1
  omega
end
mutual
theorem Tm.trav_neg : ∀ (t : Tm) (x b d s : Int), x < 0 → t.trav (freeStep (countUse x)) b d s = some s
 | .mk k n l, x, b, d, s, hx => by
  rw [Tm.trav, freeStep, Option.bind_some]
  have e : (if (Tm.mk k n l).kind = 1 ∧ b ≤ (Tm.mk k n l).num then countUse x s ((Tm.mk k n l).num - b) else s) = s := by
   show (if k = 1 ∧ b ≤ n then countUse x s (n - b) else s) = s
   split
   ·rw [countUse, if_neg (by omega)]
   ·rfl
  rw [e]
  exact travL_neg l k 0 x b d s hx
theorem travL_neg : ∀ (l : List Tm) (k : Int) (i : Nat) (x b d s : Int), x < 0 → travL (freeStep (countUse x)) k l i b d s = some s
 | [], k, i, x, b, d, s, _ => by rw [travL]
 | t :: l, k, i, x, b, d, s, hx => by
  rw [travL, Tm.trav_neg t x _ _ s hx, Option.bind_some]
  exact travL_neg l k (i + 1) x b d s hx
end
noncomputable def countOf (t : Tm) (x : Int) : Int := @ite _ (t.Valid ∧ 0 ≤ x ∧ x ≤ 20) (Classical.propDecidable _) (t.times x) 0
theorem count_trav {t : Tm} (h : t.Valid) (x : Int) : t.trav (freeStep (countUse x)) 0 1 0 = some (countOf t x) := by
 unfold countOf
 have hb := t.times_bd x
 have hz := h.2.2
 by_cases hx : 0 ≤ x
 ·by_cases h2 : x ≤ 20
  ·rw [if_pos ⟨h, hx, h2⟩, Tm.trav_times t x 0 1 0 hx (by omega) (by omega) (by rw [Int.add_zero]; omega), Int.add_zero, Int.zero_add]
  ·rw [if_neg (fun e => h2 e.2.2), Tm.trav_times t x 0 1 0 hx (by omega) (by omega) (by rw [Int.add_zero]; omega), Int.add_zero, Int.zero_add, Tm.times_big t x h.1 (by omega)]
 ·rw [if_neg (fun e => hx e.2.1), Tm.trav_neg t x 0 1 0 (by omega)]
mutual
def Tm.most : Tm → Int → Int
 | .mk k n l, b => max (if k = 1 ∧ b ≤ n then n - b + 1 else 0) (mostL k l 0 b)
def mostL : Int → List Tm → Nat → Int → Int
 | _, [], _, _ => 0
 | k, t :: l, i, b => max (t.most (b + under k i)) (mostL k l (i + 1) b)
end
theorem mostL_drop {k : Int} {l : List Tm} {q : Nat} {b : Int} (h : q < l.length) : mostL k (l.drop q) q b = max (l[q].most (b + under k q)) (mostL k (l.drop (q + 1)) (q + 1) b) := by
 rw [List.drop_eq_getElem_cons h, mostL]
theorem mostL_end {k : Int} {l : List Tm} {q : Nat} {b : Int} (h : l.length ≤ q) : mostL k (l.drop q) q b = 0 := by
 rw [List.drop_eq_nil_of_le h, mostL]
mutual
theorem Tm.most_bd : ∀ (t : Tm) (b : Int), t.allOk → 0 ≤ b → 0 ≤ t.most b ∧ t.most b ≤ 21
 | .mk k n l, b, h, hb => by
  rw [Tm.allOk] at h
  have h1 := mostL_bd l k 0 b h.2 hb
  have h2 := h.1.2.2
  rw [Tm.most]
  split
  ·rename_i e
   rw [e.1] at h2
   simp [mostN] at h2
   omega
  ·omega
theorem mostL_bd : ∀ (l : List Tm) (k : Int) (i : Nat) (b : Int), allsOk l → 0 ≤ b → 0 ≤ mostL k l i b ∧ mostL k l i b ≤ 21
 | [], k, i, b, _, _ => by rw [mostL]; omega
 | t :: l, k, i, b, h, hb => by
  rw [allsOk] at h
  have := under_01 k i
  have := Tm.most_bd t (b + under k i) h.1 (by omega)
  have := mostL_bd l k (i + 1) b h.2 hb
  rw [mostL]
  omega
end
theorem mostL_le {k : Int} {b : Int} : ∀ {l : List Tm} {i : Nat} {L : Int}, mostL k l i b ≤ L → ∀ (j : Nat) (h : j < l.length), l[j].most (b + under k (i + j)) ≤ L
 | [], i, L, _, j, h => by simp at h
 | t :: l, i, L, hL, j, h => by
  rw [mostL] at hL
  match j with
  | 0 => simpa using (show t.most (b + under k i) ≤ L by omega)
  | j + 1 =>
   have := mostL_le (l := l) (i := i + 1) (show mostL k l (i + 1) b ≤ L by omega) j (by simpa using h)
   rw [List.getElem_cons_succ, show i + (j + 1) = i + 1 + j by omega]
   exact this
def mostUse (s i : Int) : Int := max s (i + 1)
mutual
theorem Tm.trav_most : ∀ (t : Tm) (b d s : Int), 0 ≤ s → t.trav (freeStep mostUse) b d s = some (max s (t.most b))
 | .mk k n l, b, d, s, hs => by
  rw [Tm.trav, freeStep, Option.bind_some, Tm.most]
  show travL _ k l 0 b d (if k = 1 ∧ b ≤ n then mostUse s (n - b) else s) = _
  by_cases hk : k = 1 ∧ b ≤ n
  ·rw [if_pos hk, if_pos hk, mostUse, travL_most l k 0 b d _ (by omega)]
   congr 1
   omega
  ·rw [if_neg hk, if_neg hk, travL_most l k 0 b d _ hs]
   congr 1
   omega
theorem travL_most : ∀ (l : List Tm) (k : Int) (i : Nat) (b d s : Int), 0 ≤ s → travL (freeStep mostUse) k l i b d s = some (max s (mostL k l i b))
 | [], k, i, b, d, s, hs => by rw [travL, mostL]; congr 1; omega
 | t :: l, k, i, b, d, s, hs => by
  rw [travL, Tm.trav_most t _ _ s hs, Option.bind_some, travL_most l k (i + 1) b d _ (by omega), mostL]
  congr 1
  omega
end
noncomputable def maxFreeOf (t : Tm) : Int := @ite _ t.Valid (Classical.propDecidable _) (t.most 0) (-1)
theorem most_trav {t : Tm} (h : t.Valid) : t.trav (freeStep mostUse) 0 1 0 = some (maxFreeOf t) := by
 unfold maxFreeOf
 have hb := t.most_bd 0 h.1 (by omega)
 rw [if_pos h, Tm.trav_most t 0 1 0 (by omega)]
 congr 1
 omega
section
variable (ρ : Int → Int → Tm)
end
section
variable (ok : Int → Int → Prop)
end
end Go.Proofs.YtpddjebdncaceaaGreat
