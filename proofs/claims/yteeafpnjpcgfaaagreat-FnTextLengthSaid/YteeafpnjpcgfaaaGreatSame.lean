/-
  impl.sameRoot, sameTree, TermSame: two terms are held against each other; TermSame where the first one is valid or has no operands.
-/
import Derived.Test.YteeafpnjpcgfaaaGreatImplB
import Derived.Carry
namespace Go.Proofs.YteeafpnjpcgfaaaGreat
open Go.RowKit

/-- The roots are alike. -/
noncomputable def rootSame (t u : Tm) : Bool := tr (t.kind = u.kind ∧ t.num = u.num ∧ t.kids.length = u.kids.length)

theorem same_root {t u : Tm} : same t u = (rootSame t u && same t.kids u.kids) := by
  rw [same_mk, Bool.eq_iff_iff]
  simp only [Bool.and_eq_true, same_iff, rootSame, tr_iff]
  constructor
  · rintro ⟨⟨h1, h2⟩, h3⟩; exact ⟨⟨h1, h2, by rw [h3]⟩, h3⟩
  · rintro ⟨⟨h1, h2, _⟩, h3⟩; exact ⟨⟨h1, h2⟩, h3⟩

def sliceLen : Value → Nat | .slice _ n _ => n | _ => 0

end Go.Proofs.YteeafpnjpcgfaaaGreat
