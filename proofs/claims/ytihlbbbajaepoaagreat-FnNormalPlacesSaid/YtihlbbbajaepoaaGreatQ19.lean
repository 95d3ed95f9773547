/-
  Arnd, TeleP.
-/
import Derived.Test.YtihlbbbajaepoaaGreatQ06
import Derived.Test.YtihlbbbajaepoaaGreatQ08
import Derived.Test.YtihlbbbajaepoaaGreatQ10
import Derived.Test.YtihlbbbajaepoaaGreatQ13
import Derived.Test.YtihlbbbajaepoaaGreatQ14
import Derived.Test.YtihlbbbajaepoaaGreatQ15
import Derived.Test.YtihlbbbajaepoaaGreatQ16
import Derived.Test.YtihlbbbajaepoaaGreatQ18
import Derived.Deep.DeepCutAuto
import Derived.LoopIn
import Derived.LoopNIn
import Derived.OwnWalkIn
import Derived.RangeFuncBound
import Derived.RangeFuncCalls
import Derived.RangeFuncLeaves
import Derived.RangeFuncNested
import Derived.Shelf.Abstract
import Derived.Shelf.RegionOpen
import Derived.TacticsInMore
import Derived.WalkKit
namespace Go.Proofs.YtihlbbbajaepoaaGreat
open Go.RowKit
def TlRes (w : World) (P : Prop) (T : Tm) (e : Ending) (w' : World) : Prop := Below w.heap.size w w' ∧ ∃ (a : Option Addr) (c : Nat), e = .returned (.tuple #[.agg #[.int .i64 (orZero P T).kind, .int .i64 (orZero P T).num, .slice a (orZero P T).kids.length c], .bool (tr P)]) ∧ SlIn w' w.heap.size (orZero P T).kids (.slice a (orZero P T).kids.length c)
theorem TlRes.no {w w' : World} {P : Prop} {T : Tm} (hP : ¬ P) (hb : Below w.heap.size w w') : TlRes w P T (.returned (.tuple #[.agg #[.int .i64 0, .int .i64 0, .slice none 0 0], .bool false])) w' := by
 have h : orZero P T = zeroT := by unfold orZero; rw [if_neg hP]
 refine ⟨hb, none, 0, ?_, ?_⟩
 ·rw [h, tr_not hP]; rfl
 ·rw [h]; exact SlIn.nil _ _ _ _
theorem TlRes.yes {w w' : World} {P : Prop} {T : Tm} {a : Option Addr} {c : Nat} (hP : P) (hb : Below w.heap.size w w') (hs : SlIn w' w.heap.size T.kids (.slice a T.kids.length c)) : TlRes w P T (.returned (.tuple #[.agg #[.int .i64 T.kind, .int .i64 T.num, .slice a T.kids.length c], .bool true])) w' := by
 have h : orZero P T = T := by unfold orZero; rw [if_pos hP]
 refine ⟨hb, a, c, ?_, ?_⟩
 ·rw [h, tr_of hP]
 ·rw [h]; exact hs
end Go.Proofs.YtihlbbbajaepoaaGreat
namespace Go.Proofs.YtihlbbbajaepoaaGreat
open Go.RowKit Go.Shelf
attribute [local go_sem] Oper.semAt_some
def entry (qs : List (Tm × Value × Nat)) (j : Nat) : Tm × Value × Nat := qs[j]?.getD (zeroT, .slice none 0 0, 0)
theorem stkCells_get : ∀ (qs : List (Tm × Value × Nat)) (j : Nat), j < qs.length → (stkCells qs)[j * 4]? = some (.int .i64 (entry qs j).1.kind) ∧ (stkCells qs)[j * 4 + 1]? = some (.int .i64 (entry qs j).1.num) ∧ (stkCells qs)[j * 4 + 2]? = some (entry qs j).2.1 ∧ (stkCells qs)[j * 4 + 3]? = some (.int .i64 ((entry qs j).2.2 : Int))
 | [], j, h => by simp at h
 | (t, s, i) :: r, 0, _ => ⟨rfl, rfl, rfl, rfl⟩
 | (t, s, i) :: r, j + 1, h => by
  have ih := stkCells_get r j (by simpa using h)
  have e : entry ((t, s, i) :: r) (j + 1) = entry r j := rfl
  rw [e]
  have h4 : (j + 1) * 4 = j * 4 + 1 + 1 + 1 + 1 := by omega
  simp only [stkCells, h4, List.getElem?_cons_succ, show j * 4 + 1 + 1 + 1 + 1 + 1 = j * 4 + 1 + 1 + 1 + 1 + 1 from rfl]
  exact ih
end Go.Proofs.YtihlbbbajaepoaaGreat
namespace Go.Proofs.YtihlbbbajaepoaaGreat
open Go.RowKit
end Go.Proofs.YtihlbbbajaepoaaGreat
namespace Go.Proofs.YtihlbbbajaepoaaGreat
open Go.RowKit Go.Shelf
attribute [local go_sem] Oper.semAt_some
theorem keepsFrom_of_below {W W2 : World} (h : Below W.heap.size W W2) (B : Nat) : KeepsFrom B W W2 := ⟨h.size, fun k _ _ hk _ => (h.block k (Array.getElem?_eq_some_iff.1 hk).1).trans hk⟩
end Go.Proofs.YtihlbbbajaepoaaGreat
