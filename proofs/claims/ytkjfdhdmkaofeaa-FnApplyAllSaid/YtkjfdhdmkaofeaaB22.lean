/-
  FindP, NumT, StepP.
-/
import Derived.Test.YtkjfdhdmkaofeaaB02
import Derived.Test.YtkjfdhdmkaofeaaB05
import Derived.Test.YtkjfdhdmkaofeaaB07
import Derived.Test.YtkjfdhdmkaofeaaB08
import Derived.Test.YtkjfdhdmkaofeaaB15
namespace Go.Proofs.Ytkjfdhdmkaofeaa
def kidT (t : Tm) (i : Nat) : Tm := t.kids.getD i zeroT
section
variable (rl mo : Bool)
end
section
variable {rl mo : Bool}
end
end Go.Proofs.Ytkjfdhdmkaofeaa
namespace Go.Proofs.Ytkjfdhdmkaofeaa
theorem Tm.Valid.get {t : Tm} (h : t.Valid) {i : Nat} (hi : i < t.kids.length) : t.kids[i].Valid := by
 obtain ⟨h1, h2, h3⟩ := h
 refine ⟨(allsOk_iff _).1 (t.allOk_iff.1 h1).2 _ (List.getElem_mem hi), ?_, ?_⟩
 ·have := mem_hgts hi
  have := t.hgt_eq
  omega
 ·have := size_get_le t.kids i hi
  have := t.size_eq
  omega
theorem kidT_eq {t : Tm} {i : Nat} (hi : i < t.kids.length) : kidT t i = t.kids[i] := by
 unfold kidT
 rw [List.getD_eq_getElem?_getD, List.getElem?_eq_getElem hi]
 rfl
theorem Tm.Valid.kidT {t : Tm} (h : t.Valid) {i : Nat} (hi : i < t.kids.length) : (kidT t i).Valid := by
 rw [kidT_eq hi]; exact h.get hi
theorem Tm.Valid.root {t : Tm} (h : t.Valid) : t.rootOk := (t.allOk_iff.1 h.1).1
end Go.Proofs.Ytkjfdhdmkaofeaa
namespace Go.Proofs.Ytkjfdhdmkaofeaa
open Go.RowKit
theorem numT_rootOk (m : Nat) : (numT m).rootOk := by
 cases m with
 | zero => exact ⟨rfl, by decide, by decide⟩
 | succ m => exact ⟨rfl, show (0 : Int) ≤ 0 by decide, show (0 : Int) ≤ mostN 8 by decide⟩
theorem hgt_numT (m : Nat) : (numT m).hgt = m + 1 := by
 induction m with
 | zero => rw [numT, Tm.hgt, hgts]
 | succ m ih => rw [numT, Tm.hgt, hgts, hgts, ih]; omega
theorem allOk_numT (m : Nat) : (numT m).allOk := by
 induction m with
 | zero => exact ⟨numT_rootOk 0, trivial⟩
 | succ m ih => exact ⟨numT_rootOk (m + 1), ih, trivial⟩
theorem valid_numT {m : Nat} (h : m ≤ 20) : (numT m).Valid := ⟨allOk_numT m, by rw [hgt_numT]; omega, by rw [numT_size]; omega⟩
end Go.Proofs.Ytkjfdhdmkaofeaa
