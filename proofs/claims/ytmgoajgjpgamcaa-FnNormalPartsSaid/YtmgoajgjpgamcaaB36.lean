/-
  FindP.
-/
import Derived.Test.YtmgoajgjpgamcaaB35
namespace Go.Proofs.Ytmgoajgjpgamcaa
section
variable (rl mo : Bool)
mutual
def Tm.find : Tm → Option (List (Tm × Nat) × Tm)
 | .mk k n l =>
  if (Tm.mk k n l).redex ≠ 0 ∧ rl = false then some ([], .mk k n l) else
  match findL (.mk k n l) l 0 with
  | some x => some x
  | none => if (Tm.mk k n l).redex ≠ 0 then some ([], .mk k n l) else none
def findL (t0 : Tm) : List Tm → Nat → Option (List (Tm × Nat) × Tm)
 | [], _ => none
 | t :: l, i =>
  match (if mo = true ∧ mainIx t0.kind ≠ (i : Int) then none else t.find) with
  | some (p, r) => some ((t0, i) :: p, r)
  | none => findL t0 l (i + 1)
end
end
section
variable {rl mo : Bool}
end
end Go.Proofs.Ytmgoajgjpgamcaa
