/-
  laws.szTermS, laws.szTerm count the nodes of an argument; laws.toTermS, laws.toTerm copy it.
-/
import Derived.Test.YtjhjnkeildeedaaBase
import Derived.Test.YtjhjnkeildeedaaProg
import Derived.StillTailTactics
import Derived.WalkSpells
import Derived.ProofKit
import Derived.Laws.MakeOwn
namespace Go.Proofs.Ytjhjnkeildeedaa
open Go.RowKit

/-- What szTermS answers: what is left, or -1. -/
def szV (l : List Tm) (left : Int) : Int := if (sizes l : Int) ≤ left then left - sizes l else -1

def SzPost (w : World) (n : Int) (e : Ending) (w' : World) : Prop := e = .returned (.int .i64 n) ∧ Below w.heap.size w w'

theorem szV_neg {l : List Tm} {left : Int} : szV l left < 0 ↔ left < sizes l := by unfold szV; split <;> omega
theorem szV_of {l : List Tm} {left : Int} (h : (sizes l : Int) ≤ left) : szV l left = left - sizes l := by unfold szV; rw [if_pos h]
theorem szV_not {l : List Tm} {left : Int} (h : left < sizes l) : szV l left = -1 := by unfold szV; rw [if_neg (by omega)]

theorem info_term : (Try.prog.info? 32).map (fun i => (i.zero, i.size, i.bytes)) = some (some (.agg #[.int .i64 0, .int .i64 0, .slice none 0 0]), 3, 40) := by kernel_rfl

/-- What toTermS leaves: a copy in new blocks. -/
def ToPost (w : World) (l : List Tm) (e : Ending) (w' : World) : Prop := ∃ v, e = .returned v ∧ SlIn w' w.heap.size l v ∧ Below w.heap.size w w'
def ToPostT (w : World) (t : Tm) (e : Ending) (w' : World) : Prop := ∃ v, e = .returned v ∧ TmIn w' w.heap.size t v ∧ Below w.heap.size w w'

theorem madeCells_get {z : Array Value} {n i : Nat} (h : i < n) : (madeCells z n)[i]? = some z[i % z.size]! := by
  simp [madeCells, h]

end Go.Proofs.Ytjhjnkeildeedaa
