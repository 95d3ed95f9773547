/-
  A variable of a term's type that reads as a term; what the functions of chapter 2 and TermSame answer about such.
-/
import Derived.Test.YteeafpnjpcgfaaaGreatOpen
import Derived.Test.YteeafpnjpcgfaaaGreatLawT
import Derived.Test.YteeafpnjpcgfaaaGreatOpenB
import Derived.Test.YteeafpnjpcgfaaaGreatSame
import Derived.Test.YteeafpnjpcgfaaaGreatPure
import Derived.Test.YteeafpnjpcgfaaaGreatImplS
import Derived.Test.YteeafpnjpcgfaaaGreatSpecK
namespace Go.Proofs.YteeafpnjpcgfaaaGreat
open Go.RowKit

/-- The variable in block g reads as T. -/
structure TV (g : Nat) (T : Tm) (a : Option Addr) (c : Nat) (w : World) : Prop where
  var : VarAt g T.kind T.num (.slice a T.kids.length c) w
  sl : SlIn w 0 T.kids (.slice a T.kids.length c)
theorem TV.below {g : Nat} {T : Tm} {a : Option Addr} {c : Nat} {w w' : World} (h : TV g T a c w) (hb : Below w.heap.size w w') : TV g T a c w' := ⟨h.var.below hb, h.sl.below hb⟩
theorem TV.new {T : Tm} {a : Option Addr} {c : Nat} {w : World} (h : SlIn w 0 T.kids (.slice a T.kids.length c)) : TV w.heap.size T a c (w.alloc (.cells #[.int .i64 T.kind, .int .i64 T.num, .slice a T.kids.length c] 29)) := ⟨VarAt.new _ _ _ _, h.below (below1 _ _)⟩
theorem TV.tm {g : Nat} {T : Tm} {a : Option Addr} {c : Nat} {w : World} (h : TV g T a c w) : TmIn w 0 T (.agg #[.int .i64 T.kind, .int .i64 T.num, .slice a T.kids.length c]) := ⟨_, rfl, h.sl⟩
theorem TV.facts {g : Nat} {T : Tm} {a : Option Addr} {c : Nat} {w : World} (h : TV g T a c w) : g < w.heap.size ∧ w.cell? ⟨g, 0, none⟩ = some (.int .i64 T.kind) ∧ w.cell? ⟨g, 1, none⟩ = some (.int .i64 T.num) ∧ w.cell? ⟨g, 2, none⟩ = some (.slice a T.kids.length c) ∧ ∀ i, w.frozen? ⟨g, i, none⟩ = false := h.var.facts

/-- A result of two parts: a term and whether there is one. -/
def PairPost (w : World) (T : Tm) (b : Bool) (e : Ending) (w' : World) : Prop := Below w.heap.size w w' ∧ ∃ v, e = .returned (.tuple #[v, .bool b]) ∧ TmIn w' 0 T v
theorem ReplPost.pair {w w' : World} {P : Prop} {T : Tm} {e : Ending} (h : ReplPost w P T e w') : PairPost w (orZero P T) (tr P) e w' := by
  obtain ⟨hb, v, he, s, F, hv, hs, -, -⟩ := h
  exact ⟨hb, v, he, s, hv, hs.sl fun _ _ => Nat.zero_le _⟩
theorem SReplPost.pair {w w' : World} {P : Prop} {T : Tm} {e : Ending} (h : SReplPost w P T e w') : PairPost w (orZero P T) (tr P) e w' := h
theorem orZero_yes {P : Prop} {T : Tm} (h : P) : orZero P T = T := by unfold orZero; rw [if_pos h]
theorem orZero_no {P : Prop} {T : Tm} (h : ¬ P) : orZero P T = zeroT := by unfold orZero; rw [if_neg h]

end Go.Proofs.YteeafpnjpcgfaaaGreat
