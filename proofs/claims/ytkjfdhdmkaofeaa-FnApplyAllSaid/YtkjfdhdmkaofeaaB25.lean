/-
  Tele.
-/
import Derived.Test.YtkjfdhdmkaofeaaB22
namespace Go.Proofs.Ytkjfdhdmkaofeaa
def node2 (k : Int) (a b : Tm) : Tm := .mk k 0 [a, b]
def apps (k : Int) (l : List Tm) (f : Tm) : Tm := l.foldl (node2 k) f
theorem apps_cons (k : Int) (a : Tm) (l : List Tm) (f : Tm) : apps k (a :: l) f = apps k l (node2 k f a) := rfl
theorem apps_snoc (k : Int) (l : List Tm) (a f : Tm) : apps k (l ++ [a]) f = node2 k (apps k l f) a := by simp [apps]
theorem apps_take {k : Int} {l : List Tm} {f : Tm} {i : Nat} (h : i < l.length) : apps k (l.take (i + 1)) f = node2 k (apps k (l.take i) f) l[i] := by
 rw [List.take_succ_eq_append_getElem h, apps_snoc]
theorem node2_sub {k : Int} {a b : Tm} (h : (node2 k a b).Valid) : a.Valid ∧ b.Valid :=
 ⟨h.get (i := 0) (by simp [node2, Tm.kids]), h.get (i := 1) (by simp [node2, Tm.kids])⟩
theorem apps_sub {k : Int} : ∀ {l : List Tm} {f : Tm}, (apps k l f).Valid → f.Valid ∧ ∀ a ∈ l, a.Valid
 | [], f, h => ⟨h, fun a ha => by cases ha⟩
 | a :: l, f, h => by
  have h2 := apps_sub (l := l) h
  have h1 := node2_sub h2.1
  refine ⟨h1.1, fun b hb => ?_⟩
  rcases List.mem_cons.1 hb with rfl | hb
  ·exact h1.2
  ·exact h2.2 b hb
def Fits (l : List Tm) : Prop := (∀ a ∈ l, a.Valid) ∧ l.length ≤ 8
def AppsOk (k : Int) (l : List Tm) (f : Tm) : Prop := l.length ≤ 8 ∧ (apps k l f).Valid
theorem AppsOk.iff {k : Int} {l : List Tm} {f : Tm} : AppsOk k l f ↔ (Fits l ∧ f.Valid) ∧ (apps k l f).Valid :=
 ⟨fun h => ⟨⟨⟨(apps_sub h.2).2, h.1⟩, (apps_sub h.2).1⟩, h.2⟩, fun h => ⟨h.1.1.2, h.2⟩⟩
def down (o : Nat) : Nat → Tm → Tm
 | 0, t => t
 | j + 1, t => down o j (kidT t o)
theorem down_succ (o : Nat) : ∀ (j : Nat) (t : Tm), down o (j + 1) t = kidT (down o j t) o
 | 0, t => rfl
 | j + 1, t => by
  rw [down, down_succ o j]
  rfl
def sides (o p : Nat) : Nat → Tm → List Tm
 | 0, _ => []
 | j + 1, t => kidT t p :: sides o p j (kidT t o)
theorem sides_length (o p : Nat) : ∀ (j : Nat) (t : Tm), (sides o p j t).length = j
 | 0, _ => rfl
 | j + 1, t => by rw [sides, List.length_cons, sides_length o p j]
theorem sides_succ (o p : Nat) : ∀ (j : Nat) (t : Tm), sides o p (j + 1) t = sides o p j t ++ [kidT (down o j t) p]
 | 0, t => rfl
 | j + 1, t => by
  rw [sides, sides_succ o p j]
  rfl
def runs (k : Int) (o : Nat) : Nat → Tm → Nat
 | 0, _ => 0
 | n + 1, t => if t.kind = k then runs k o n (kidT t o) + 1 else 0
theorem runs_of (k : Int) (o : Nat) : ∀ (n j : Nat) (t : Tm), j ≤ n → (∀ i, i < j → (down o i t).kind = k) → (j = n ∨ (down o j t).kind ≠ k) → runs k o n t = j
 | 0, j, t, hj, _, _ => by rw [runs]; omega
 | n + 1, 0, t, _, _, h => by
  rcases h with h | h
  ·cases h
  ·rw [runs, if_neg (show ¬ t.kind = k from h)]
 | n + 1, j + 1, t, hj, ha, h => by
  rw [runs, if_pos (show t.kind = k from ha 0 (by omega)), runs_of k o n j (kidT t o) (by omega) (fun i hi => ha (i + 1) (by omega)) (by
   rcases h with h | h
   ·exact Or.inl (by omega)
   ·exact Or.inr h)]
theorem runs_kind (k : Int) (o : Nat) : ∀ (n : Nat) (t : Tm) (i : Nat), i < runs k o n t → (down o i t).kind = k
 | 0, t, i, h => by rw [runs] at h; omega
 | n + 1, t, i, h => by
  rw [runs] at h
  by_cases hk : t.kind = k
  ·rw [if_pos hk] at h
   cases i with
   | zero => exact hk
   | succ i => exact runs_kind k o n (kidT t o) i (by omega)
  ·rw [if_neg hk] at h; omega
theorem runs_end (k : Int) (o : Nat) : ∀ (n : Nat) (t : Tm), runs k o n t = n ∨ (down o (runs k o n t) t).kind ≠ k
 | 0, t => Or.inl rfl
 | n + 1, t => by
  rw [runs]
  by_cases hk : t.kind = k
  ·rw [if_pos hk]
   rcases runs_end k o n (kidT t o) with h | h
   ·exact Or.inl (by omega)
   ·exact Or.inr h
  ·rw [if_neg hk]; exact Or.inr hk
theorem kid2_len {k : Int} {t : Tm} (hv : t.Valid) (h : t.kind = k) (hk : arity k = 2) : t.kids.length = 2 := by
 have h1 := hv.root.1
 rw [h, hk] at h1
 omega
theorem down_valid {k : Int} {o : Nat} (hk : arity k = 2) (ho : o < 2) : ∀ (j : Nat) (t : Tm), t.Valid → (∀ i, i < j → (down o i t).kind = k) → (down o j t).Valid ∧ (down o j t).hgt + j ≤ t.hgt
 | 0, t, hv, _ => ⟨hv, Nat.le_refl _⟩
 | j + 1, t, hv, ha => by
  have h2 := kid2_len hv (ha 0 (by omega)) hk
  have h3 := down_valid hk ho j (kidT t o) (hv.kidT (by omega)) (fun i hi => ha (i + 1) (by omega))
  refine ⟨h3.1, ?_⟩
  have h4 := h3.2
  rw [kidT_eq (by omega)] at h4
  have h5 := mem_hgts (l := t.kids) (show o < t.kids.length by omega)
  have h6 := t.hgt_eq
  rw [down, kidT_eq (by omega)]
  omega
theorem sides_valid {k : Int} {o p : Nat} (hk : arity k = 2) (ho : o < 2) (hp : p < 2) : ∀ (j : Nat) (t : Tm), t.Valid → (∀ i, i < j → (down o i t).kind = k) → ∀ x ∈ sides o p j t, x.Valid
 | 0, t, hv, _, x, hx => by cases hx
 | j + 1, t, hv, ha, x, hx => by
  have h2 := kid2_len hv (ha 0 (by omega)) hk
  rw [sides] at hx
  rcases List.mem_cons.1 hx with rfl | hx
  ·exact hv.kidT (by omega)
  ·exact sides_valid hk ho hp j (kidT t o) (hv.kidT (by omega)) (fun i hi => ha (i + 1) (by omega)) x hx
theorem hgt_pos (t : Tm) : 1 ≤ t.hgt := by rw [t.hgt_eq]; omega
theorem runs_lt {k : Int} {o : Nat} (hk : arity k = 2) (ho : o < 2) (n : Nat) (t : Tm) (hv : t.Valid) : runs k o n t ≤ 29 := by
 have h1 := (down_valid hk ho (runs k o n t) t hv (fun i hi => runs_kind k o n t i hi)).2
 have h2 := hgt_pos (down o (runs k o n t) t)
 have h3 := hv.2.1
 omega
end Go.Proofs.Ytkjfdhdmkaofeaa
