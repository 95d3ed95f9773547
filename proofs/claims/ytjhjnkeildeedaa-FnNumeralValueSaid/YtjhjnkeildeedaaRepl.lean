/-
  impl.replaceFree; the callbacks of SubstTerm and RenameTerm.
-/
import Derived.Test.YtjhjnkeildeedaaNext
namespace Go.Proofs.Ytjhjnkeildeedaa
open Go.RowKit

/-- What a function of binding leaves: a term of its own, and whether there is one. -/
def ReplPost (w : World) (P : Prop) (T : Tm) (e : Ending) (w' : World) : Prop := Below w.heap.size w w' ∧ ∃ v, e = .returned (.tuple #[v, .bool (tr P)]) ∧ Made w.heap.size (orZero P T) v w'
theorem ReplPost.no {w w' : World} {P : Prop} {T : Tm} (hP : ¬ P) (hb : Below w.heap.size w w') : ReplPost w P T (.returned (.tuple #[.agg #[.int .i64 0, .int .i64 0, .slice none 0 0], .bool false])) w' :=
  ⟨hb, _, by rw [tr_not hP], by unfold orZero; rw [if_neg hP]; exact ⟨_, [], rfl, SlOwn.nil _ _ _, List.nodup_nil, fun g h => by cases h⟩⟩
theorem ReplPost.yes {w w' : World} {P : Prop} {T : Tm} {s : Value} {F : List Nat} (hP : P) (hb : Below w.heap.size w w') (hs : SlOwn w' T.kids s F) (hn : F.Nodup) (hF : ∀ g ∈ F, w.heap.size ≤ g ∧ g < w'.heap.size) :
    ReplPost w P T (.returned (.tuple #[.agg #[.int .i64 T.kind, .int .i64 T.num, s], .bool true])) w' :=
  ⟨hb, _, by rw [tr_of hP], by unfold orZero; rw [if_pos hP]; exact ⟨s, F, rfl, hs, hn, hF⟩⟩

theorem flat_pos (t : Tm) : 1 ≤ t.flat.length := by rw [t.flat_length]; exact t.size_pos

end Go.Proofs.Ytjhjnkeildeedaa
