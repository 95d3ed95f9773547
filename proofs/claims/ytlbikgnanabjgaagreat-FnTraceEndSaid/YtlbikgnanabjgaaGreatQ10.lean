/-
  Sub.
-/
import Derived.Test.YtlbikgnanabjgaaGreatQ07
namespace Go.Proofs.YtlbikgnanabjgaaGreat
open Go.RowKit
theorem var_kids {n : Int} {l : List Tm} (h : RootOk 1 n l.length) : l = [] := by
 have := h.1
 simp [arity] at this
 exact List.length_eq_zero_iff.1 (by omega)
theorem var_range {n : Int} {m : Nat} (h : RootOk 1 n m) : 0 ≤ n ∧ n ≤ 20 := by
 have := h.2
 simp [mostN] at this
 omega
theorem var_ok (n : Int) : (Tm.mk 1 n []).allOk ↔ 0 ≤ n ∧ n ≤ 20 := by
 rw [Tm.allOk, allsOk]
 unfold RootOk
 simp [arity, mostN]
mutual
def Tm.shift (e : Int) : Tm → Int → Tm
 | .mk k n l, c => .mk k (if k = 1 ∧ c ≤ n then n + e else n) (shiftL e k l 0 c)
def shiftL (e : Int) : Int → List Tm → Nat → Int → List Tm
 | _, [], _, _ => []
 | k, t :: l, i, c => t.shift e (c + under k i) :: shiftL e k l (i + 1) c
end
theorem shiftL_length (e : Int) : ∀ (k : Int) (l : List Tm) (i : Nat) (c : Int), (shiftL e k l i c).length = l.length
 | _, [], _, _ => by rw [shiftL]
 | k, t :: l, i, c => by rw [shiftL, List.length_cons, List.length_cons, shiftL_length]
mutual
def Tm.keeps (e : Int) : Tm → Int → Prop
 | .mk k n l, c => (k = 1 ∧ c ≤ n → c ≤ n + e) ∧ keepsL e k l 0 c
def keepsL (e : Int) : Int → List Tm → Nat → Int → Prop
 | _, [], _, _ => True
 | k, t :: l, i, c => t.keeps e (c + under k i) ∧ keepsL e k l (i + 1) c
end
mutual
theorem Tm.keeps_pos {e : Int} (he : 0 ≤ e) : ∀ (t : Tm) (c : Int), t.keeps e c
 | .mk k n l, c => by rw [Tm.keeps]; exact ⟨fun h => by omega, keepsL_pos he l k 0 c⟩
theorem keepsL_pos {e : Int} (he : 0 ≤ e) : ∀ (l : List Tm) (k : Int) (i : Nat) (c : Int), keepsL e k l i c
 | [], k, i, c => by rw [keepsL]; trivial
 | t :: l, k, i, c => by rw [keepsL]; exact ⟨Tm.keeps_pos he t _, keepsL_pos he l k _ c⟩
end
def varT (n : Int) : Tm := .mk 1 n []
def shiftTo (e c i b : Int) : Tm := varT (if i < c then i + b else i + e + b)
def shiftMay (e c i b : Int) : Prop := if i < c then 0 ≤ i + b ∧ i + b ≤ 20 else c ≤ i + e ∧ 0 ≤ i + e + b ∧ i + e + b ≤ 20
mutual
theorem Tm.repl_shift {e c : Int} (hc : 0 ≤ c) : ∀ (t : Tm) (b : Int), t.allOk → t.repl (shiftTo e c) b = t.shift e (c + b)
 | .mk k n l, b, h => by
  rw [Tm.allOk] at h
  rw [Tm.repl, Tm.shift]
  by_cases hk : k = 1 ∧ b ≤ n
  ·rw [if_pos hk]
   obtain ⟨rfl, hb⟩ := hk
   rw [var_kids h.1, shiftL]
   unfold shiftTo varT
   congr 1
   by_cases h1 : n - b < c
   ·rw [if_pos h1, if_neg (by omega)]; omega
   ·rw [if_neg h1, if_pos ⟨rfl, by omega⟩]; omega
  ·rw [if_neg hk, if_neg (fun h => hk ⟨h.1, by omega⟩), replL_shift hc l k 0 b h.2]
theorem replL_shift {e c : Int} (hc : 0 ≤ c) : ∀ (l : List Tm) (k : Int) (i : Nat) (b : Int), allsOk l → replL (shiftTo e c) k l i b = shiftL e k l i (c + b)
 | [], k, i, b, _ => by rw [replL, shiftL]
 | t :: l, k, i, b, h => by
  rw [allsOk] at h
  rw [replL, shiftL, Tm.repl_shift hc t _ h.1, replL_shift hc l k _ b h.2, Int.add_assoc]
end
mutual
theorem Tm.may_shift {e c : Int} (hc : 0 ≤ c) : ∀ (t : Tm) (b : Int), t.allOk → 0 ≤ b → (t.okAll (shiftMay e c) b ↔ (t.shift e (c + b)).allOk ∧ t.keeps e (c + b))
 | .mk k n l, b, h, hb => by
  rw [Tm.allOk] at h
  rw [Tm.okAll, Tm.shift, Tm.keeps]
  by_cases hk : k = 1 ∧ b ≤ n
  ·rw [if_pos hk]
   obtain ⟨rfl, hbn⟩ := hk
   rw [var_kids h.1, shiftL, keepsL]
   have hr := var_range h.1
   unfold shiftMay
   by_cases h1 : n - b < c
   ·rw [if_pos h1, if_neg (by omega), var_ok]
    constructor
    ·rintro ⟨a1, a2⟩
     exact ⟨⟨by omega, by omega⟩, fun h => by omega, trivial⟩
    ·rintro ⟨⟨a1, a2⟩, _⟩
     omega
   ·rw [if_neg h1, if_pos ⟨rfl, by omega⟩, var_ok]
    constructor
    ·rintro ⟨a1, a2, a3⟩
     exact ⟨⟨by omega, by omega⟩, fun h => by omega, trivial⟩
    ·rintro ⟨⟨a1, a2⟩, a3, _⟩
     have := a3 ⟨rfl, by omega⟩
     omega
  ·rw [if_neg hk, if_neg (fun h => hk ⟨h.1, by omega⟩), mayL_shift hc l k 0 b h.2 hb, Tm.allOk, shiftL_length]
   constructor
   ·rintro ⟨h1, h2⟩
    exact ⟨⟨h.1, h1⟩, fun h => absurd ⟨h.1, by omega⟩ hk, h2⟩
   ·rintro ⟨⟨_, h1⟩, _, h2⟩
    exact ⟨h1, h2⟩
theorem mayL_shift {e c : Int} (hc : 0 ≤ c) : ∀ (l : List Tm) (k : Int) (i : Nat) (b : Int), allsOk l → 0 ≤ b → (okL (shiftMay e c) k l i b ↔ allsOk (shiftL e k l i (c + b)) ∧ keepsL e k l i (c + b))
 | [], k, i, b, _, _ => by rw [okL, shiftL, keepsL, allsOk]; simp
 | t :: l, k, i, b, h, hb => by
  rw [allsOk] at h
  have hu := under_01 k i
  rw [okL, shiftL, keepsL, allsOk, Tm.may_shift hc t _ h.1 (by omega), mayL_shift hc l k _ b h.2 hb, Int.add_assoc]
  constructor
  ·rintro ⟨⟨h1, h2⟩, h3, h4⟩; exact ⟨⟨h1, h3⟩, h2, h4⟩
  ·rintro ⟨⟨h1, h3⟩, h2, h4⟩; exact ⟨⟨h1, h2⟩, h3, h4⟩
end
def insTo (B i b : Int) : Tm := varT (i + B + b)
def insMay (B i b : Int) : Prop := 0 ≤ i + B + b ∧ i + B + b ≤ 20
theorem insTo_eq (B i b : Int) (hi : 0 ≤ i) : insTo B i b = shiftTo B 0 i b := by
 unfold insTo shiftTo
 rw [if_neg (by omega)]
theorem insMay_iff (B i b : Int) (hi : 0 ≤ i) (hB : 0 ≤ B) : insMay B i b ↔ shiftMay B 0 i b := by
 unfold insMay shiftMay
 rw [if_neg (by omega)]
 omega
mutual
theorem Tm.repl_congr {ρ σ : Int → Int → Tm} (h : ∀ i b, 0 ≤ i → ρ i b = σ i b) : ∀ (t : Tm) (b : Int), t.repl ρ b = t.repl σ b
 | .mk k n l, b => by
  rw [Tm.repl, Tm.repl, replL_congr h l k 0 b]
  split
  ·exact h _ _ (by omega)
  ·rfl
theorem replL_congr {ρ σ : Int → Int → Tm} (h : ∀ i b, 0 ≤ i → ρ i b = σ i b) : ∀ (l : List Tm) (k : Int) (i : Nat) (b : Int), replL ρ k l i b = replL σ k l i b
 | [], k, i, b => by rw [replL, replL]
 | t :: l, k, i, b => by rw [replL, replL, Tm.repl_congr h t _, replL_congr h l k _ b]
end
mutual
theorem Tm.okAll_congr {p q : Int → Int → Prop} (h : ∀ i b, 0 ≤ i → (p i b ↔ q i b)) : ∀ (t : Tm) (b : Int), t.okAll p b ↔ t.okAll q b
 | .mk k n l, b => by
  rw [Tm.okAll, Tm.okAll, okL_congr h l k 0 b]
  split
  ·exact h _ _ (by omega)
  ·exact Iff.rfl
theorem okL_congr {p q : Int → Int → Prop} (h : ∀ i b, 0 ≤ i → (p i b ↔ q i b)) : ∀ (l : List Tm) (k : Int) (i : Nat) (b : Int), okL p k l i b ↔ okL q k l i b
 | [], k, i, b => by rw [okL, okL]
 | t :: l, k, i, b => by rw [okL, okL, Tm.okAll_congr h t _, okL_congr h l k _ b]
end
theorem Tm.repl_ins {t : Tm} (h : t.allOk) (B : Int) : t.repl (insTo B) 0 = t.shift B 0 := by
 rw [Tm.repl_congr (fun i b hi => insTo_eq B i b hi), Tm.repl_shift (Int.le_refl 0) t 0 h]
 rfl
theorem Tm.may_ins {t : Tm} (h : t.allOk) {B : Int} (hB : 0 ≤ B) : t.okAll (insMay B) 0 ↔ (t.shift B 0).allOk := by
 rw [Tm.okAll_congr (fun i b hi => insMay_iff B i b hi hB), Tm.may_shift (Int.le_refl 0) t 0 h (Int.le_refl 0)]
 exact ⟨fun h => h.1, fun h => ⟨h, Tm.keeps_pos hB _ _⟩⟩
mutual
def Tm.subst : Tm → Tm → Int → Int → Tm
 | .mk k n l, u, x, d => if k = 1 ∧ n = x then u.shift d 0 else .mk k (if k = 1 ∧ x < n then n - 1 else n) (substL u k l 0 x d)
def substL : Tm → Int → List Tm → Nat → Int → Int → List Tm
 | _, _, [], _, _, _ => []
 | u, k, t :: l, i, x, d => t.subst u (x + under k i) (d + under k i) :: substL u k l (i + 1) x d
end
theorem substL_length (u : Tm) : ∀ (k : Int) (l : List Tm) (i : Nat) (x d : Int), (substL u k l i x d).length = l.length
 | _, [], _, _, _ => by rw [substL]
 | k, t :: l, i, x, d => by rw [substL, List.length_cons, List.length_cons, substL_length]
def subTo (u : Tm) (x i b : Int) : Tm := if i < x then varT (i + b) else if x < i then varT (i - 1 + b) else u.repl (insTo b) 0
def subMay (u : Tm) (x i b : Int) : Prop := if i < x then 0 ≤ i + b ∧ i + b ≤ 20 else if x < i then 0 ≤ i - 1 + b ∧ i - 1 + b ≤ 20 else u.okAll (insMay b) 0
mutual
theorem Tm.repl_subst {u : Tm} (hu : u.allOk) {x : Int} (hx : 0 ≤ x) : ∀ (t : Tm) (b : Int), t.allOk → t.repl (subTo u x) b = t.subst u (x + b) b
 | .mk k n l, b, h => by
  rw [Tm.allOk] at h
  rw [Tm.repl, Tm.subst]
  by_cases hk : k = 1 ∧ b ≤ n
  ·rw [if_pos hk]
   obtain ⟨rfl, hb⟩ := hk
   rw [var_kids h.1, substL]
   unfold subTo varT
   by_cases h1 : n - b < x
   ·rw [if_pos h1, if_neg (by omega), if_neg (by omega)]
    congr 1
    omega
   ·rw [if_neg h1]
    by_cases h2 : x < n - b
    ·rw [if_pos h2, if_neg (by omega), if_pos ⟨rfl, by omega⟩]
     congr 1
     omega
    ·rw [if_neg h2, if_pos ⟨rfl, by omega⟩, Tm.repl_ins hu]
  ·rw [if_neg hk, if_neg (fun h => hk ⟨h.1, by omega⟩), if_neg (fun h => hk ⟨h.1, by omega⟩), replL_subst hu hx l k 0 b h.2]
theorem replL_subst {u : Tm} (hu : u.allOk) {x : Int} (hx : 0 ≤ x) : ∀ (l : List Tm) (k : Int) (i : Nat) (b : Int), allsOk l → replL (subTo u x) k l i b = substL u k l i (x + b) b
 | [], k, i, b, _ => by rw [replL, substL]
 | t :: l, k, i, b, h => by
  rw [allsOk] at h
  rw [replL, substL, Tm.repl_subst hu hx t _ h.1, replL_subst hu hx l k _ b h.2, Int.add_assoc]
end
mutual
theorem Tm.may_subst {u : Tm} (hu : u.allOk) {x : Int} (hx : 0 ≤ x) : ∀ (t : Tm) (b : Int), t.allOk → 0 ≤ b → (t.okAll (subMay u x) b ↔ (t.subst u (x + b) b).allOk)
 | .mk k n l, b, h, hb => by
  rw [Tm.allOk] at h
  rw [Tm.okAll, Tm.subst]
  by_cases hk : k = 1 ∧ b ≤ n
  ·rw [if_pos hk]
   obtain ⟨rfl, hbn⟩ := hk
   rw [var_kids h.1, substL]
   have hr := var_range h.1
   unfold subMay
   by_cases h1 : n - b < x
   ·rw [if_pos h1, if_neg (by omega), if_neg (by omega), var_ok]
    omega
   ·rw [if_neg h1]
    by_cases h2 : x < n - b
    ·rw [if_pos h2, if_neg (by omega), if_pos ⟨rfl, by omega⟩, var_ok]
     omega
    ·rw [if_neg h2, if_pos ⟨rfl, by omega⟩, Tm.may_ins hu hb]
  ·rw [if_neg hk, if_neg (fun h => hk ⟨h.1, by omega⟩), if_neg (fun h => hk ⟨h.1, by omega⟩), mayL_subst hu hx l k 0 b h.2 hb, Tm.allOk, substL_length]
   exact ⟨fun h1 => ⟨h.1, h1⟩, fun h1 => h1.2⟩
theorem mayL_subst {u : Tm} (hu : u.allOk) {x : Int} (hx : 0 ≤ x) : ∀ (l : List Tm) (k : Int) (i : Nat) (b : Int), allsOk l → 0 ≤ b → (okL (subMay u x) k l i b ↔ allsOk (substL u k l i (x + b) b))
 | [], k, i, b, _, _ => by rw [okL, substL, allsOk]
 | t :: l, k, i, b, h, hb => by
  rw [allsOk] at h
  have hu' := under_01 k i
  rw [okL, substL, allsOk, Tm.may_subst hu hx t _ h.1 (by omega), mayL_subst hu hx l k _ b h.2 hb, Int.add_assoc]
end
def SubstOk (t : Tm) (x : Int) (u : Tm) : Prop := t.Valid ∧ u.Valid ∧ 0 ≤ x ∧ x ≤ 20 ∧ (t.subst u x 0).Valid
def zeroT : Tm := .mk 0 0 []
noncomputable def orZero (p : Prop) (t : Tm) : Tm := @ite _ p (Classical.propDecidable p) t zeroT
theorem emit_subst {t u : Tm} {x : Int} (h : t.Valid) (hu : u.Valid) (h3 : 0 ≤ x) (h4 : x ≤ 20) :
  t.trav (copyStep (subMay u x) (subTo u x)) 0 1 [] = @ite _ (SubstOk t x u) (Classical.propDecidable _) (some (t.subst u x 0).flat) none := by
 rw [Tm.trav_copy _ _ t 0 1 [] h.1 (by simp), Tm.repl_subst hu.1 h3 t 0 h.1, Int.add_zero]
 have hm := Tm.may_subst hu.1 h3 t 0 h.1 (Int.le_refl 0)
 rw [Int.add_zero] at hm
 unfold emit
 by_cases ho : SubstOk t x u
 ·rw [if_pos ho, if_pos ⟨hm.2 ho.2.2.2.2.1, by have := ho.2.2.2.2.2.2; simpa using this, by have := ho.2.2.2.2.2.1; omega⟩, List.nil_append]
 ·rw [if_neg ho, if_neg]
  rintro ⟨a, b, d⟩
  exact ho ⟨h, hu, h3, h4, hm.1 a, by omega, by simpa using b⟩
end Go.Proofs.YtlbikgnanabjgaaGreat
