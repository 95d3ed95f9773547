/-
  spec.l2Keeps, l2Index, ShiftTerm.
-/
import Derived.Test.YteeafpnjpcgfaaaGreatSpecT
import Derived.Test.YteeafpnjpcgfaaaGreatSpecV
namespace Go.Proofs.YteeafpnjpcgfaaaGreat
open Go.RowKit

theorem keepsL_drop {e k : Int} {l : List Tm} {q : Nat} {c : Int} (h : q < l.length) : keepsL e k (l.drop q) q c ↔ l[q].keeps e (c + under k q) ∧ keepsL e k (l.drop (q + 1)) (q + 1) c := by
  rw [List.drop_eq_getElem_cons h, keepsL]
theorem keepsL_end {e k : Int} {l : List Tm} {q : Nat} {c : Int} (h : l.length ≤ q) : keepsL e k (l.drop q) q c := by
  rw [List.drop_eq_nil_of_le h, keepsL]; trivial

/-- What a function of the model leaves: a term that may be read, and whether there is one. -/
def SReplPost (w : World) (P : Prop) (T : Tm) (e : Ending) (w' : World) : Prop := Below w.heap.size w w' ∧ ∃ v, e = .returned (.tuple #[v, .bool (tr P)]) ∧ TmIn w' 0 (orZero P T) v
theorem SReplPost.no {w w' : World} {P : Prop} {T : Tm} (hP : ¬ P) (hb : Below w.heap.size w w') : SReplPost w P T (.returned (.tuple #[.agg #[.int .i64 0, .int .i64 0, .slice none 0 0], .bool false])) w' :=
  ⟨hb, _, by rw [tr_not hP], by unfold orZero; rw [if_neg hP]; exact ⟨_, rfl, SlIn.nil _ _ _ _⟩⟩
theorem SReplPost.yes {w w' : World} {P : Prop} {T : Tm} {s : Value} (hP : P) (hb : Below w.heap.size w w') (hs : SlIn w' 0 T.kids s) : SReplPost w P T (.returned (.tuple #[.agg #[.int .i64 T.kind, .int .i64 T.num, s], .bool true])) w' :=
  ⟨hb, _, by rw [tr_of hP], by unfold orZero; rw [if_pos hP]; exact ⟨_, rfl, hs⟩⟩

theorem SlIn.set3 {w : World} {B g i j k : Nat} {l : List Tm} {v x y z : Value} (h : SlIn w B l v) (hg : g < B) : SlIn (((w.setCell ⟨g, i, none⟩ x).setCell ⟨g, j, none⟩ y).setCell ⟨g, k, none⟩ z) B l v :=
  ((h.setCell (p := ⟨g, i, none⟩) hg _).setCell (p := ⟨g, j, none⟩) hg _).setCell (p := ⟨g, k, none⟩) hg _

end Go.Proofs.YteeafpnjpcgfaaaGreat
