/-
  FindP, Find, NumT, StepP.
-/
import Derived.Test.YtihlbbbajaepoaaGreatR02
import Derived.Test.YtihlbbbajaepoaaGreatR06
import Derived.Test.YtihlbbbajaepoaaGreatR12
import Derived.Test.YtihlbbbajaepoaaGreatR14
import Derived.Test.YtihlbbbajaepoaaGreatR15
namespace Go.Proofs.YtihlbbbajaepoaaGreat
def kidT (t : Tm) (i : Nat) : Tm := t.kids.getD i zeroT
section
variable (rl mo : Bool)
end
def around : List (Tm × Nat) → Tm → Tm
 | [], x => x
 | (t, i) :: p, x => .mk t.kind t.num (t.kids.set i (around p x))
section
variable {rl mo : Bool}
end
end Go.Proofs.YtihlbbbajaepoaaGreat
namespace Go.Proofs.YtihlbbbajaepoaaGreat
theorem Tm.Valid.get {t : Tm} (h : t.Valid) {i : Nat} (hi : i < t.kids.length) : t.kids[i].Valid := by
 obtain ⟨h1, h2, h3⟩ := h
 refine ⟨(allsOk_iff _).1 (t.allOk_iff.1 h1).2 _ (List.getElem_mem hi), ?_, ?_⟩
 ·have := mem_hgts hi
  have := t.hgt_eq
  omega
 ·have := size_get_le t.kids i hi
  have := t.size_eq
  omega
theorem kidT_eq {t : Tm} {i : Nat} (hi : i < t.kids.length) : kidT t i = t.kids[i] := by
 unfold kidT
 rw [List.getD_eq_getElem?_getD, List.getElem?_eq_getElem hi]
 rfl
theorem Tm.Valid.kidT {t : Tm} (h : t.Valid) {i : Nat} (hi : i < t.kids.length) : (kidT t i).Valid := by
 rw [kidT_eq hi]; exact h.get hi
def InPath : List (Tm × Nat) → Prop
 | [] => True
 | (t, i) :: p => i < t.kids.length ∧ InPath p
theorem around_valid : ∀ (p : List (Tm × Nat)) (x : Tm), InPath p → (around p x).Valid → x.Valid
 | [], _, _, h => h
 | (t, i) :: p, x, hp, h => by
  rw [around] at h
  have := h.get (i := i) (by simpa [Tm.kids] using hp.1)
  simp only [Tm.kids, List.getElem_set_self] at this
  exact around_valid p x hp.2 this
theorem Tm.Valid.root {t : Tm} (h : t.Valid) : t.rootOk := (t.allOk_iff.1 h.1).1
end Go.Proofs.YtihlbbbajaepoaaGreat
namespace Go.Proofs.YtihlbbbajaepoaaGreat
open Go.RowKit
def Passed (u : World) : List (Tm × Nat) → List (Tm × Value × Nat) → Prop
 | [], [] => True
 | (t, i) :: p, (t', s, i') :: q => t' = t ∧ i' = i ∧ SlIn u 0 t.kids s ∧ Passed u p q
 | _, _ => False
end Go.Proofs.YtihlbbbajaepoaaGreat
namespace Go.Proofs.YtihlbbbajaepoaaGreat
open Go.RowKit
theorem numT_rootOk (m : Nat) : (numT m).rootOk := by
 cases m with
 | zero => exact ⟨rfl, by decide, by decide⟩
 | succ m => exact ⟨rfl, show (0 : Int) ≤ 0 by decide, show (0 : Int) ≤ mostN 8 by decide⟩
theorem hgt_numT (m : Nat) : (numT m).hgt = m + 1 := by
 induction m with
 | zero => rw [numT, Tm.hgt, hgts]
 | succ m ih => rw [numT, Tm.hgt, hgts, hgts, ih]; omega
theorem allOk_numT (m : Nat) : (numT m).allOk := by
 induction m with
 | zero => exact ⟨numT_rootOk 0, trivial⟩
 | succ m ih => exact ⟨numT_rootOk (m + 1), ih, trivial⟩
theorem valid_numT {m : Nat} (h : m ≤ 20) : (numT m).Valid := ⟨allOk_numT m, by rw [hgt_numT]; omega, by rw [numT_size]; omega⟩
end Go.Proofs.YtihlbbbajaepoaaGreat
