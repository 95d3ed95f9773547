/-
  laws.toTerm makes a copy in memory of its own.
-/
import Derived.Test.YtjhjnkeildeedaaTo
import Derived.Test.YtjhjnkeildeedaaNext
namespace Go.Proofs.Ytjhjnkeildeedaa
open Go.RowKit

/-- What toTermS leaves: a copy, each row of it a block of its own. -/
def ToOwn (w : World) (l : List Tm) (e : Ending) (w' : World) : Prop := ∃ v F, e = .returned v ∧ SlOwn w' l v F ∧ F.Nodup ∧ (∀ g ∈ F, w.heap.size ≤ g ∧ g < w'.heap.size) ∧ Below w.heap.size w w'
def ToOwnT (w : World) (t : Tm) (e : Ending) (w' : World) : Prop := Below w.heap.size w w' ∧ ∃ v, e = .returned v ∧ Made w.heap.size t v w'

end Go.Proofs.Ytjhjnkeildeedaa
