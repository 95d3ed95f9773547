/-
  StepP.
-/
import Derived.Test.YtcnpenmhngplfaaB02
import Derived.Test.YtcnpenmhngplfaaB04
import Derived.Test.YtcnpenmhngplfaaB12
import Derived.Test.YtcnpenmhngplfaaB13
import Derived.RowKit
namespace Go.Proofs.Ytcnpenmhngplfaa
theorem Tm.Valid.get {t : Tm} (h : t.Valid) {i : Nat} (hi : i < t.kids.length) : t.kids[i].Valid := by
 obtain ⟨h1, h2, h3⟩ := h
 refine ⟨(allsOk_iff _).1 (t.allOk_iff.1 h1).2 _ (List.getElem_mem hi), ?_, ?_⟩
 ·have := mem_hgts hi
  have := t.hgt_eq
  omega
 ·have := size_get_le t.kids i hi
  have := t.size_eq
  omega
theorem Tm.Valid.root {t : Tm} (h : t.Valid) : t.rootOk := (t.allOk_iff.1 h.1).1
end Go.Proofs.Ytcnpenmhngplfaa
