/-
  The draws of chapter 1 and 2 that give one term.
-/
import Derived.Test.YtjhjnkeildeedaaMut
import Derived.Test.YtjhjnkeildeedaaNumS
namespace Go.Proofs.Ytjhjnkeildeedaa
open Go.RowKit

/-- Some term in memory of its own. -/
def TmPost (w : World) (e : Ending) (w' : World) : Prop := ∃ (T : Tm) (v : Value), e = .returned v ∧ TmIn w' w.heap.size T v ∧ T.size ≤ 1000 ∧ Below w.heap.size w w'

theorem Only.belowR {B g : Nat} {w a b : World} (h : Below B w a) (k : Only g a b) (hg : B ≤ g) (hB : B ≤ a.heap.size) : Below B w b := Only.below h k hg hB

end Go.Proofs.Ytjhjnkeildeedaa
