/-
  PlU.
-/
import Derived.Test.YtpddjebdncaceaaGreatR12
import Derived.Test.YtpddjebdncaceaaGreatR14
import Derived.Test.YtpddjebdncaceaaGreatR29
import Derived.Test.YtpddjebdncaceaaGreatR30
import Derived.Deep.DeepCutAuto
import Derived.Lib.AppendZeros
namespace Go.Proofs.YtpddjebdncaceaaGreat
open Go.RowKit
def plcOf (rd : Bool) (L : List (List (Tm × Nat) × Tm)) : List ((Int → Int) × Nat) := (L.filter fun y => !rd || decide (y.2.redex ≠ 0)).map fun y => (ixAt y.1, y.1.length)
theorem plcOf_app (rd : Bool) (A B : List (List (Tm × Nat) × Tm)) : plcOf rd (A ++ B) = plcOf rd A ++ plcOf rd B := by simp [plcOf]
theorem ixAt_snoc (p : List (Tm × Nat)) (t : Tm) (q : Nat) (j : Nat) (h : j < p.length + 1) : ixAt (p ++ [(t, q)]) (j : Int) = if j < p.length then ixAt p (j : Int) else (q : Int) := by
 rw [ixAt_eq _ _ (by simp; omega)]
 by_cases hj : j < p.length
 ·rw [if_pos hj, ixAt_eq _ _ hj, List.getElem_append_left hj]
 ·have e : j = p.length := by omega
  subst e
  rw [if_neg hj, List.getElem_append_right (Nat.le_refl _)]
  simp
theorem grown_two {A B C : World} {r r' : Option Nat} (h : A.grownBy B r) (k : B.grownBy C r') (hr : r' = r ∨ ∃ g, r' = some g ∧ A.heap.size ≤ g) : A.grownBy C r :=
 ⟨k.os.trans h.os, k.tape.trans h.tape, k.output.trans h.output, Nat.le_trans h.size k.size, fun i hi hn => (k.block i (Nat.lt_of_lt_of_le hi h.size) (fun e => by
  rcases hr with hr | ⟨g, hr, hg⟩
  ·exact hn (hr ▸ e)
  ·rw [hr] at e
   injection e with e
   omega)).trans (h.block i hi hn)⟩
theorem grown_below {A B C : World} {r : Option Nat} (h : Below A.heap.size A B) (k : B.grownBy C r) : A.grownBy C r :=
 ⟨k.os.trans h.os, k.tape.trans h.tape, k.output.trans h.output, Nat.le_trans h.size k.size, fun i hi hn => (k.block i (Nat.lt_of_lt_of_le hi h.size) hn).trans (h.block i hi)⟩
def PlPost (base : Nat) (R : List ((Int → Int) × Nat)) (r : Option Nat) (w : World) (e : Ending) (w' : World) : Prop :=
 w.grownBy w' r ∧ ∃ v, e = .returned v ∧ RowP base R v w' ∧ (v.ownBlock = r ∨ ∃ g, v.ownBlock = some g ∧ w.heap.size ≤ g)
end Go.Proofs.YtpddjebdncaceaaGreat
