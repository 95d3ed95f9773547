/-
  FindP, StepP.
-/
import Derived.Test.YtihlbbbajaepoaaP10
import Derived.Test.YtihlbbbajaepoaaP15
namespace Go.Proofs.Ytihlbbbajaepoaa
def kidT (t : Tm) (i : Nat) : Tm := t.kids.getD i zeroT
section
variable (rl mo : Bool)
end
def around : List (Tm × Nat) → Tm → Tm
 | [], x => x
 | (t, i) :: p, x => .mk t.kind t.num (t.kids.set i (around p x))
section
variable {rl mo : Bool}
end
end Go.Proofs.Ytihlbbbajaepoaa
namespace Go.Proofs.Ytihlbbbajaepoaa
theorem Tm.Valid.get {t : Tm} (h : t.Valid) {i : Nat} (hi : i < t.kids.length) : t.kids[i].Valid := by
 obtain ⟨h1, h2, h3⟩ := h
 refine ⟨(allsOk_iff _).1 (t.allOk_iff.1 h1).2 _ (List.getElem_mem hi), ?_, ?_⟩
 ·have := mem_hgts hi
  have := t.hgt_eq
  omega
 ·have := size_get_le t.kids i hi
  have := t.size_eq
  omega
theorem kidT_eq {t : Tm} {i : Nat} (hi : i < t.kids.length) : kidT t i = t.kids[i] := by
 unfold kidT
 rw [List.getD_eq_getElem?_getD, List.getElem?_eq_getElem hi]
 rfl
theorem Tm.Valid.kidT {t : Tm} (h : t.Valid) {i : Nat} (hi : i < t.kids.length) : (kidT t i).Valid := by
 rw [kidT_eq hi]; exact h.get hi
def InPath : List (Tm × Nat) → Prop
 | [] => True
 | (t, i) :: p => i < t.kids.length ∧ InPath p
theorem Tm.Valid.root {t : Tm} (h : t.Valid) : t.rootOk := (t.allOk_iff.1 h.1).1
end Go.Proofs.Ytihlbbbajaepoaa
