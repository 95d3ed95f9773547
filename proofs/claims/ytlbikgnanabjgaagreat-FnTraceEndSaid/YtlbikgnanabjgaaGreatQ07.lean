/-
  Bind.
-/
import Derived.Test.YtlbikgnanabjgaaGreatQ02
import Derived.RowKit
namespace Go.Proofs.YtlbikgnanabjgaaGreat
open Go.RowKit
def under (k : Int) (i : Nat) : Int := if i = 1 ∧ (k = 3 ∨ k = 4 ∨ k = 13) then 1 else 0
theorem under_01 (k : Int) (i : Nat) : 0 ≤ under k i ∧ under k i ≤ 1 := by unfold under; split <;> omega
section
variable {S : Type} (f : S → Tm → Int → Int → Option S)
mutual
def Tm.trav : Tm → Int → Int → S → Option S
 | .mk k n l, b, d, s => (f s (.mk k n l) b d).bind fun s' => travL k l 0 b d s'
def travL : Int → List Tm → Nat → Int → Int → S → Option S
 | _, [], _, _, _, s => some s
 | k, t :: l, i, b, d, s => (t.trav (b + under k i) (d + 1) s).bind fun s' => travL k l (i + 1) b d s'
end
theorem travL_drop {k : Int} {l : List Tm} {q : Nat} {b d : Int} {s : S} (h : q < l.length) :
  travL f k (l.drop q) q b d s = (l[q].trav f (b + under k q) (d + 1) s).bind fun s' => travL f k (l.drop (q + 1)) (q + 1) b d s' := by
 rw [List.drop_eq_getElem_cons h, travL]
theorem travL_end {k : Int} {l : List Tm} {q : Nat} {b d : Int} {s : S} (h : l.length ≤ q) : travL f k (l.drop q) q b d s = some s := by
 rw [List.drop_eq_nil_of_le h, travL]
end
mutual
def Tm.most : Tm → Int → Int
 | .mk k n l, b => max (if k = 1 ∧ b ≤ n then n - b + 1 else 0) (mostL k l 0 b)
def mostL : Int → List Tm → Nat → Int → Int
 | _, [], _, _ => 0
 | k, t :: l, i, b => max (t.most (b + under k i)) (mostL k l (i + 1) b)
end
theorem Tm.most_eq (t : Tm) (b : Int) : t.most b = max (if t.kind = 1 ∧ b ≤ t.num then t.num - b + 1 else 0) (mostL t.kind t.kids 0 b) := by cases t; rw [Tm.most]; rfl
mutual
theorem Tm.most_bd : ∀ (t : Tm) (b : Int), t.allOk → 0 ≤ b → 0 ≤ t.most b ∧ t.most b ≤ 21
 | .mk k n l, b, h, hb => by
  rw [Tm.allOk] at h
  have h1 := mostL_bd l k 0 b h.2 hb
  have h2 := h.1.2.2
  rw [Tm.most]
  split
  ·rename_i e
   rw [e.1] at h2
   simp [mostN] at h2
   omega
  ·omega
theorem mostL_bd : ∀ (l : List Tm) (k : Int) (i : Nat) (b : Int), allsOk l → 0 ≤ b → 0 ≤ mostL k l i b ∧ mostL k l i b ≤ 21
 | [], k, i, b, _, _ => by rw [mostL]; omega
 | t :: l, k, i, b, h, hb => by
  rw [allsOk] at h
  have := under_01 k i
  have := Tm.most_bd t (b + under k i) h.1 (by omega)
  have := mostL_bd l k (i + 1) b h.2 hb
  rw [mostL]
  omega
end
theorem mostL_le {k : Int} {b : Int} : ∀ {l : List Tm} {i : Nat} {L : Int}, mostL k l i b ≤ L → ∀ (j : Nat) (h : j < l.length), l[j].most (b + under k (i + j)) ≤ L
 | [], i, L, _, j, h => by simp at h
 | t :: l, i, L, hL, j, h => by
  rw [mostL] at hL
  match j with
  | 0 => simpa using (show t.most (b + under k i) ≤ L by omega)
  | j + 1 =>
   have := mostL_le (l := l) (i := i + 1) (show mostL k l (i + 1) b ≤ L by omega) j (by simpa using h)
   rw [List.getElem_cons_succ, show i + (j + 1) = i + 1 + j by omega]
   exact this
section
variable (ρ : Int → Int → Tm)
mutual
def Tm.repl : Tm → Int → Tm
 | .mk k n l, b => if k = 1 ∧ b ≤ n then ρ (n - b) b else .mk k n (replL k l 0 b)
def replL : Int → List Tm → Nat → Int → List Tm
 | _, [], _, _ => []
 | k, t :: l, i, b => t.repl (b + under k i) :: replL k l (i + 1) b
end
theorem replL_length : ∀ (k : Int) (l : List Tm) (i : Nat) (b : Int), (replL ρ k l i b).length = l.length
 | _, [], _, _ => by rw [replL]
 | k, t :: l, i, b => by rw [replL, List.length_cons, List.length_cons, replL_length]
end
section
variable (ok : Int → Int → Prop)
mutual
def Tm.okAll : Tm → Int → Prop
 | .mk k n l, b => if k = 1 ∧ b ≤ n then ok (n - b) b else okL k l 0 b
def okL : Int → List Tm → Nat → Int → Prop
 | _, [], _, _ => True
 | k, t :: l, i, b => t.okAll (b + under k i) ∧ okL k l (i + 1) b
end
end
mutual
def Tm.flat : Tm → List (Int × Int × Nat)
 | .mk k n l => (k, n, l.length) :: flatL l
def flatL : List Tm → List (Int × Int × Nat)
 | [] => []
 | t :: l => t.flat ++ flatL l
end
mutual
theorem Tm.flat_length : ∀ t : Tm, t.flat.length = t.size
 | .mk k n l => by rw [Tm.flat, Tm.size, List.length_cons, flatL_length l]; omega
theorem flatL_length : ∀ l : List Tm, (flatL l).length = sizes l
 | [] => by rw [flatL, sizes]; rfl
 | t :: l => by rw [flatL, sizes, List.length_append, Tm.flat_length t, flatL_length l]
end
abbrev Nodes := List (Int × Int × Nat)
noncomputable def emit (ok : Prop) (r : Tm) (d : Int) (s : Nodes) : Option Nodes :=
 @ite _ (ok ∧ s.length + r.size ≤ 400 ∧ d + (r.hgt : Int) ≤ 31) (Classical.propDecidable _) (some (s ++ r.flat)) none
noncomputable def emitL (ok : Prop) (rs : List Tm) (d : Int) (s : Nodes) : Option Nodes :=
 @ite _ (ok ∧ s.length + sizes rs ≤ 400 ∧ d + (hgts rs : Int) ≤ 30) (Classical.propDecidable _) (some (s ++ flatL rs)) none
def addNode (k n : Int) (m : Nat) (d : Int) (s : Nodes) : Option Nodes := if s.length = 400 ∨ 30 < d then none else some (s ++ [(k, n, m)])
theorem emit_leaf {ok : Prop} {k n : Int} {d : Int} {s : Nodes} (h : s.length ≤ 400) : emit ok (.mk k n []) d s = @ite _ ok (Classical.propDecidable _) (addNode k n 0 d s) none := by
 unfold emit addNode
 have hz : (Tm.mk k n []).size = 1 := by rw [Tm.size, sizes]
 have hh : (Tm.mk k n []).hgt = 1 := by rw [Tm.hgt, hgts]
 have hf : (Tm.mk k n []).flat = [(k, n, 0)] := by rw [Tm.flat, flatL]; rfl
 rw [hz, hh, hf]
 by_cases ho : ok
 ·rw [if_pos ho]
  by_cases hc : s.length = 400 ∨ 30 < d
  ·rw [if_pos hc, if_neg (by omega)]
  ·rw [if_neg hc, if_pos ⟨ho, by omega, by omega⟩]
 ·rw [if_neg ho, if_neg (fun e => ho e.1)]
noncomputable def copyStep (ok : Int → Int → Prop) (ρ : Int → Int → Tm) (s : Nodes) (t : Tm) (b d : Int) : Option Nodes :=
 if t.kind = 1 ∧ b ≤ t.num then emit (ok (t.num - b) b) (ρ (t.num - b) b) d s else addNode t.kind t.num t.kids.length d s
theorem flat_append_length (s : Nodes) (r : Tm) : (s ++ r.flat).length = s.length + r.size := by rw [List.length_append, r.flat_length]
mutual
theorem Tm.trav_copy (ok : Int → Int → Prop) (ρ : Int → Int → Tm) : ∀ (t : Tm) (b d : Int) (s : Nodes), t.allOk → s.length ≤ 400 → t.trav (copyStep ok ρ) b d s = emit (t.okAll ok b) (t.repl ρ b) d s
 | .mk k n l, b, d, s, h, hs => by
  rw [Tm.allOk] at h
  rw [Tm.trav, Tm.okAll, Tm.repl]
  by_cases hk : k = 1 ∧ b ≤ n
  ·have hl : l = [] := by
    have := h.1.1
    rw [hk.1] at this
    simp [arity] at this
    exact List.length_eq_zero_iff.1 (by omega)
   subst hl
   rw [if_pos hk, if_pos hk]
   have e : copyStep ok ρ s (.mk k n []) b d = emit (ok (n - b) b) (ρ (n - b) b) d s := by
    show (if k = 1 ∧ b ≤ n then emit (ok (n - b) b) (ρ (n - b) b) d s else addNode k n 0 d s) = _
    rw [if_pos hk]
   rw [e]
   cases emit (ok (n - b) b) (ρ (n - b) b) d s with
   | none => rfl
   | some s' => rw [Option.bind_some, travL]
  ·rw [if_neg hk, if_neg hk]
   have e : copyStep ok ρ s (.mk k n l) b d = addNode k n l.length d s := by
    show (if k = 1 ∧ b ≤ n then emit (ok (n - b) b) (ρ (n - b) b) d s else addNode k n l.length d s) = _
    rw [if_neg hk]
   have hz : (Tm.mk k n (replL ρ k l 0 b)).size = 1 + sizes (replL ρ k l 0 b) := by rw [Tm.size]
   have hh : (Tm.mk k n (replL ρ k l 0 b)).hgt = 1 + hgts (replL ρ k l 0 b) := by rw [Tm.hgt]
   have hf : (Tm.mk k n (replL ρ k l 0 b)).flat = (k, n, l.length) :: flatL (replL ρ k l 0 b) := by rw [Tm.flat, replL_length]
   rw [e]
   unfold addNode
   by_cases hc : s.length = 400 ∨ 30 < d
   ·rw [if_pos hc, Option.bind_none]
    unfold emit
    rw [if_neg]
    rw [hz, hh]
    omega
   ·rw [if_neg hc, Option.bind_some, travL_copy ok ρ l k 0 b d _ h.2 (by rw [List.length_append, List.length_singleton]; omega) (by omega)]
    unfold emit emitL
    rw [hz, hh, hf, List.length_append, List.length_singleton, List.append_assoc, List.singleton_append]
    by_cases h3 : okL ok k l 0 b ∧ s.length + 1 + sizes (replL ρ k l 0 b) ≤ 400 ∧ d + (hgts (replL ρ k l 0 b) : Int) ≤ 30
    ·rw [if_pos h3, if_pos ⟨h3.1, by omega, by omega⟩]
    ·rw [if_neg h3, if_neg (fun e => h3 ⟨e.1, by omega, by omega⟩)]
theorem travL_copy (ok : Int → Int → Prop) (ρ : Int → Int → Tm) : ∀ (l : List Tm) (k : Int) (i : Nat) (b d : Int) (s : Nodes), allsOk l → s.length ≤ 400 → d ≤ 30 → travL (copyStep ok ρ) k l i b d s = emitL (okL ok k l i b) (replL ρ k l i b) d s
 | [], k, i, b, d, s, _, hs, hd => by
  rw [travL, okL, replL]
  unfold emitL
  rw [if_pos ⟨trivial, by rw [sizes]; omega, by rw [hgts]; omega⟩, flatL, List.append_nil]
 | t :: l, k, i, b, d, s, h, hs, hd => by
  rw [allsOk] at h
  rw [travL, Tm.trav_copy ok ρ t _ _ s h.1 hs, okL, replL]
  have hz : sizes (t.repl ρ (b + under k i) :: replL ρ k l (i + 1) b) = (t.repl ρ (b + under k i)).size + sizes (replL ρ k l (i + 1) b) := by rw [sizes]
  have hh : hgts (t.repl ρ (b + under k i) :: replL ρ k l (i + 1) b) = max (t.repl ρ (b + under k i)).hgt (hgts (replL ρ k l (i + 1) b)) := by rw [hgts]
  have hf : flatL (t.repl ρ (b + under k i) :: replL ρ k l (i + 1) b) = (t.repl ρ (b + under k i)).flat ++ flatL (replL ρ k l (i + 1) b) := by rw [flatL]
  by_cases h1 : t.okAll ok (b + under k i) ∧ s.length + (t.repl ρ (b + under k i)).size ≤ 400 ∧ d + 1 + ((t.repl ρ (b + under k i)).hgt : Int) ≤ 31
  ·have e1 : emit (t.okAll ok (b + under k i)) (t.repl ρ (b + under k i)) (d + 1) s = some (s ++ (t.repl ρ (b + under k i)).flat) := by
    unfold emit; rw [if_pos h1]
   rw [e1, Option.bind_some, travL_copy ok ρ l k (i + 1) b d _ h.2 (by rw [flat_append_length]; omega) hd]
   unfold emitL
   rw [hz, hh, hf, flat_append_length, List.append_assoc]
   by_cases h2 : okL ok k l (i + 1) b ∧ s.length + (t.repl ρ (b + under k i)).size + sizes (replL ρ k l (i + 1) b) ≤ 400 ∧ d + (hgts (replL ρ k l (i + 1) b) : Int) ≤ 30
   ·rw [if_pos h2, if_pos ⟨⟨h1.1, h2.1⟩, by omega, by omega⟩]
   ·rw [if_neg h2, if_neg (fun e => h2 ⟨e.1.2, by omega, by omega⟩)]
  ·have e1 : emit (t.okAll ok (b + under k i)) (t.repl ρ (b + under k i)) (d + 1) s = none := by
    unfold emit; rw [if_neg h1]
   rw [e1, Option.bind_none]
   unfold emitL
   rw [hz, hh, if_neg (fun e => h1 ⟨e.1.1, by omega, by omega⟩)]
end
end Go.Proofs.YtlbikgnanabjgaaGreat
