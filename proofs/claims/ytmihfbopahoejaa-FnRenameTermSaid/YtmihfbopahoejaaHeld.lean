/-
  laws.heldTermS, heldTerm read back what markTermS wrote.
-/
import Derived.Test.YtmihfbopahoejaaMark
namespace Go.Proofs.Ytmihfbopahoejaa
open Go.RowKit

def IntPost' (w : World) (n : Int) (e : Ending) (w' : World) : Prop := e = .returned (.int .i64 n) ∧ Below w.heap.size w w'

end Go.Proofs.Ytmihfbopahoejaa
