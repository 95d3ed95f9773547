/-
  Plc.
-/
import Derived.Test.YtleijaegpfjnpaaGreatC30
namespace Go.Proofs.YtleijaegpfjnpaaGreat
def way (t : Tm) (N : Int → Int) : Nat → Option (List (Tm × Nat) × Tm)
 | 0 => some ([], t)
 | i + 1 => (way t N i).bind fun x => if 0 ≤ N i ∧ N i < (x.2.kids.length : Int) then some (x.1 ++ [(x.2, (N i).toNat)], kidT x.2 (N i).toNat) else none
def wayP (t : Tm) (N : Int → Int) (i : Nat) : List (Tm × Nat) := ((way t N i).getD ([], zeroT)).1
def wayT (t : Tm) (N : Int → Int) (i : Nat) : Tm := ((way t N i).getD ([], zeroT)).2
def IsPlace (t : Tm) (N : Int → Int) (len : Nat) : Prop := t.Valid ∧ (way t N len).isSome = true
theorem way_yes {t : Tm} {N : Int → Int} {i : Nat} {p : List (Tm × Nat)} {x : Tm} (h : way t N i = some (p, x)) (hi : 0 ≤ N i ∧ N i < (x.kids.length : Int)) : way t N (i + 1) = some (p ++ [(x, (N i).toNat)], kidT x (N i).toNat) := by
 rw [way, h]
 simp only [Option.bind_some]
 rw [if_pos hi]
theorem way_no {t : Tm} {N : Int → Int} {i : Nat} {p : List (Tm × Nat)} {x : Tm} (h : way t N i = some (p, x)) (hi : ¬ (0 ≤ N i ∧ N i < (x.kids.length : Int))) : way t N (i + 1) = none := by
 rw [way, h]
 simp only [Option.bind_some]
 rw [if_neg hi]
theorem way_stays {t : Tm} {N : Int → Int} {i : Nat} (h : way t N i = none) : ∀ k, way t N (i + k) = none
 | 0 => h
 | k + 1 => by
  rw [← Nat.add_assoc, way, way_stays h k]
  rfl
theorem no_place {t : Tm} {N : Int → Int} {i len : Nat} {p : List (Tm × Nat)} {x : Tm} (h : way t N i = some (p, x)) (hi : ¬ (0 ≤ N i ∧ N i < (x.kids.length : Int))) (hl : i < len) : ¬ IsPlace t N len := by
 rintro ⟨-, h2⟩
 have := way_stays (way_no h hi) (len - (i + 1))
 rw [show i + 1 + (len - (i + 1)) = len by omega] at this
 rw [this] at h2
 cases h2
theorem is_place {t : Tm} {N : Int → Int} {len : Nat} {p : List (Tm × Nat)} {x : Tm} (hv : t.Valid) (h : way t N len = some (p, x)) : IsPlace t N len ∧ wayP t N len = p ∧ wayT t N len = x := by
 refine ⟨⟨hv, by rw [h]; rfl⟩, ?_, ?_⟩
 ·rw [wayP, h]; rfl
 ·rw [wayT, h]; rfl
theorem IsPlace.way {t : Tm} {N : Int → Int} {len : Nat} (h : IsPlace t N len) : way t N len = some (wayP t N len, wayT t N len) := by
 obtain ⟨-, h⟩ := h
 unfold wayP wayT
 cases hw : Go.Proofs.YtleijaegpfjnpaaGreat.way t N len with
 | none => rw [hw] at h; cases h
 | some y => rfl
def Chain (t : Tm) : List (Tm × Nat) → Tm → Prop
 | [], x => t = x
 | (a, i) :: p, x => a = t ∧ i < t.kids.length ∧ Chain (kidT t i) p x
theorem Chain.snoc : ∀ {p : List (Tm × Nat)} {t x : Tm} {i : Nat}, Chain t p x → i < x.kids.length → Chain t (p ++ [(x, i)]) (kidT x i)
 | [], _, _, _, h, hi => by
  rw [Chain] at h
  subst h
  exact ⟨rfl, hi, rfl⟩
 | (a, j) :: p, t, x, i, h, hi => ⟨h.1, h.2.1, Chain.snoc (p := p) h.2.2 hi⟩
theorem around_snoc : ∀ (p : List (Tm × Nat)) (x z : Tm) (i : Nat), around (p ++ [(x, i)]) z = around p (.mk x.kind x.num (x.kids.set i z))
 | [], x, z, i => rfl
 | (a, j) :: p, x, z, i => by
  rw [List.cons_append, around, around, around_snoc p x z i]
theorem set_kidT {l : List Tm} {i : Nat} (hi : i < l.length) : l.set i (l.getD i zeroT) = l := by
 apply List.ext_getElem
 ·simp
 ·intro j h1 h2
  by_cases e : i = j
  ·subst e
   simp [List.getD_eq_getElem?_getD, List.getElem?_eq_getElem hi]
  ·simp [List.getElem_set_ne e]
theorem inPath_snoc : ∀ {p : List (Tm × Nat)} {x : Tm} {i : Nat}, InPath p → i < x.kids.length → InPath (p ++ [(x, i)])
 | [], _, _, _, hi => ⟨hi, trivial⟩
 | _ :: p, _, _, h, hi => ⟨h.1, inPath_snoc (p := p) h.2 hi⟩
structure Known (t : Tm) (N : Int → Int) (i : Nat) (p : List (Tm × Nat)) (x : Tm) : Prop where
 len : p.length = i
 valid : x.Valid
 room : hgts x.kids + p.length ≤ hgts t.kids
 inn : InPath p
 nodes : ∀ y ∈ p, y.1.Valid
 back : around p x = t
 chain : Chain t p x
 ix : ∀ j (h : j < p.length), ((p[j].2 : Nat) : Int) = N (j : Int)
theorem way_ok {t : Tm} {N : Int → Int} (hv : t.Valid) : ∀ (i : Nat) (p : List (Tm × Nat)) (x : Tm), way t N i = some (p, x) → Known t N i p x
 | 0, p, x, h => by
  rw [way] at h
  obtain ⟨rfl, rfl⟩ : [] = p ∧ t = x := by simpa using h
  exact ⟨rfl, hv, Nat.le_refl _, trivial, fun y hy => (by cases hy), rfl, rfl, fun j h => (by simp at h)⟩
 | i + 1, p, x, h => by
  rw [way] at h
  cases hw : way t N i with
  | none => rw [hw] at h; cases h
  | some y =>
   obtain ⟨q, z⟩ := y
   rw [hw] at h
   simp only [Option.bind_some] at h
   by_cases hi : 0 ≤ N i ∧ N i < (z.kids.length : Int)
   ·rw [if_pos hi] at h
    obtain ⟨rfl, rfl⟩ : q ++ [(z, (N i).toNat)] = p ∧ kidT z (N i).toNat = x := by simpa using h
    have ih := way_ok hv i q z hw
    have hj : (N i).toNat < z.kids.length := by omega
    refine ⟨by simp [ih.len], ih.valid.kidT hj, ?_, inPath_snoc ih.inn hj, ?_, ?_, ih.chain.snoc hj, ?_⟩
    ·have h1 := mem_hgts hj
     rw [kidT_eq hj]
     have h2 := (z.kids[(N i).toNat]).hgt_eq
     have h3 := ih.room
     rw [List.length_append, List.length_singleton]
     omega
    ·intro y hy
     rcases List.mem_append.1 hy with hy | hy
     ·exact ih.nodes y hy
     ·rw [List.mem_singleton.1 hy]; exact ih.valid
    ·rw [around_snoc]
     unfold kidT
     rw [set_kidT hj, Tm.eta]
     exact ih.back
    ·intro j hjl
     rw [List.length_append, List.length_singleton] at hjl
     rcases Nat.lt_or_ge j q.length with hlt | hge
     ·rw [List.getElem_append_left hlt]; exact ih.ix j hlt
     ·have e : j = q.length := by omega
      subst e
      rw [List.getElem_append_right (Nat.le_refl _)]
      simp only [Nat.sub_self, List.getElem_cons_zero]
      rw [ih.len]
      omega
   ·rw [if_neg hi] at h; cases h
theorem IsPlace.ok {t : Tm} {N : Int → Int} {len : Nat} (h : IsPlace t N len) : Known t N len (wayP t N len) (wayT t N len) := way_ok h.1 _ _ _ h.way
theorem Known.short {t : Tm} {N : Int → Int} {i : Nat} {p : List (Tm × Nat)} {x : Tm} (h : Known t N i p x) (hv : t.Valid) : i ≤ 29 ∧ p.length ≤ 29 := by
 have h1 := h.room
 have h2 := h.len
 have h3 := t.hgt_eq
 have h4 := hv.2.1
 omega
theorem Tm.Valid.kids4 {t : Tm} (h : t.Valid) : t.kids.length ≤ 4 := by
 have h1 := h.root.1
 have : arity t.kind ≤ 4 := by unfold arity; (repeat' split) <;> omega
 omega
end Go.Proofs.YtleijaegpfjnpaaGreat
