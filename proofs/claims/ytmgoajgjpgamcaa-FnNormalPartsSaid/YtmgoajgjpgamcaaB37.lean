/-
  StepP.
-/
import Derived.Test.YtmgoajgjpgamcaaB14
import Derived.Test.YtmgoajgjpgamcaaB36
namespace Go.Proofs.Ytmgoajgjpgamcaa
theorem Tm.Valid.get {t : Tm} (h : t.Valid) {i : Nat} (hi : i < t.kids.length) : t.kids[i].Valid := by
 obtain ⟨h1, h2, h3⟩ := h
 refine ⟨(allsOk_iff _).1 (t.allOk_iff.1 h1).2 _ (List.getElem_mem hi), ?_, ?_⟩
 ·have := mem_hgts hi
  have := t.hgt_eq
  omega
 ·have := size_get_le t.kids i hi
  have := t.size_eq
  omega
end Go.Proofs.Ytmgoajgjpgamcaa
