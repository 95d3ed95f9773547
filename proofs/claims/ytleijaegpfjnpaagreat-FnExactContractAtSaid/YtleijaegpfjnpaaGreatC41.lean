/-
  Pure, SpecK.
-/
import Derived.Test.YtleijaegpfjnpaaGreatC04
import Derived.Test.YtleijaegpfjnpaaGreatC14
import Derived.Test.YtleijaegpfjnpaaGreatC22
namespace Go.Proofs.YtleijaegpfjnpaaGreat
open Go.RowKit
theorem SlIn.set3 {w : World} {B g i j k : Nat} {l : List Tm} {v x y z : Value} (h : SlIn w B l v) (hg : g < B) : SlIn (((w.setCell ⟨g, i, none⟩ x).setCell ⟨g, j, none⟩ y).setCell ⟨g, k, none⟩ z) B l v :=
 ((h.setCell (p := ⟨g, i, none⟩) hg _).setCell (p := ⟨g, j, none⟩) hg _).setCell (p := ⟨g, k, none⟩) hg _
end Go.Proofs.YtleijaegpfjnpaaGreat
namespace Go.Proofs.YtleijaegpfjnpaaGreat
-- limits and occurrences
-- shifts
mutual
theorem Tm.shift_size (e : Int) : ∀ (t : Tm) (c : Int), (t.shift e c).size = t.size
 | .mk k n l, c => by rw [Tm.shift, Tm.size, Tm.size, shiftL_sizes e l k 0 c]
theorem shiftL_sizes (e : Int) : ∀ (l : List Tm) (k : Int) (i : Nat) (c : Int), sizes (shiftL e k l i c) = sizes l
 | [], _, _, _ => by rw [shiftL]
 | t :: l, k, i, c => by rw [shiftL, sizes, sizes, Tm.shift_size e t, shiftL_sizes e l]
end
-- substitutions
mutual
theorem Tm.subst_size (u : Tm) : ∀ (t : Tm) (x d : Int), t.allOk → ((t.subst u x d).size : Int) = t.size + t.times x * (u.size - 1)
 | .mk k n l, x, d, h => by
  rw [Tm.allOk] at h
  rw [Tm.subst, Tm.times, Tm.size]
  by_cases e : k = 1 ∧ n = x
  ·obtain ⟨rfl, rfl⟩ := e
   obtain rfl := var_kids h.1
   rw [if_pos ⟨rfl, rfl⟩, if_pos ⟨rfl, rfl⟩, timesL, sizes, Tm.shift_size]
   simp only [Int.add_zero, Int.one_mul]
   omega
  ·rw [if_neg e, if_neg e, Tm.size, Int.zero_add]
   have := substL_size u l k 0 x d h.2
   omega
theorem substL_size (u : Tm) : ∀ (l : List Tm) (k : Int) (i : Nat) (x d : Int), allsOk l → (sizes (substL u k l i x d) : Int) = sizes l + timesL k l i x * (u.size - 1)
 | [], _, _, _, _, _ => by rw [substL, sizes, timesL]; omega
 | t :: l, k, i, x, d, h => by
  rw [allsOk] at h
  have h1 := Tm.subst_size u t (x + under k i) (d + under k i) h.1
  have h2 := substL_size u l k (i + 1) x d h.2
  rw [substL, sizes, sizes, timesL, Int.add_mul]
  omega
end
-- renamings
end Go.Proofs.YtleijaegpfjnpaaGreat
