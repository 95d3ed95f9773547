/-
  impl.ShiftTerm, SubstTerm, Instantiate: they answer as 'ShiftOk', 'SubstOk' say, in memory of their own.
-/
import Derived.Test.YtjhjnkeildeedaaRepl
namespace Go.Proofs.Ytjhjnkeildeedaa
open Go.RowKit

theorem ReplPost.open {W w2 : World} {P : Prop} {T : Tm} {e : Ending} (h : ReplPost W P T e w2) : ∃ (U : Tm) (sa : Option Addr) (sc : Nat) (F : List Nat), U = orZero P T ∧ e = .returned (.tuple #[.agg #[.int .i64 U.kind, .int .i64 U.num, .slice sa U.kids.length sc], .bool (tr P)]) ∧ Below W.heap.size W w2 ∧
    SlOwn w2 U.kids (.slice sa U.kids.length sc) F ∧ F.Nodup ∧ (∀ g ∈ F, W.heap.size ≤ g ∧ g < w2.heap.size) := by
  obtain ⟨hb, v, rfl, s, F, rfl, hs, hn, hF⟩ := h
  obtain ⟨sa, sc, rfl⟩ := hs.form
  exact ⟨_, sa, sc, F, rfl, rfl, hb, hs, hn, hF⟩
theorem ReplPost.close {w w' : World} {P : Prop} {T U : Tm} {s : Value} {F : List Nat} (hU : U = orZero P T) (hb : Below w.heap.size w w') (hs : SlOwn w' U.kids s F) (hn : F.Nodup) (hF : ∀ g ∈ F, w.heap.size ≤ g ∧ g < w'.heap.size) :
    ReplPost w P T (.returned (.tuple #[.agg #[.int .i64 U.kind, .int .i64 U.num, s], .bool (tr P)])) w' := by
  subst hU
  exact ⟨hb, _, rfl, s, F, rfl, hs, hn, hF⟩

theorem most_valid {t : Tm} (h : t.Valid) : t.most 0 ≤ 21 := (t.most_bd 0 h.1 (Int.le_refl 0)).2

end Go.Proofs.Ytjhjnkeildeedaa
