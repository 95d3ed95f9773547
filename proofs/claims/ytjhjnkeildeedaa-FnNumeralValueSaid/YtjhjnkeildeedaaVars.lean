/-
  A variable of a term's type that reads as a term; what the functions of chapter 2 and TermSame answer about such.
-/
import Derived.Test.YtjhjnkeildeedaaOpen
import Derived.Test.YtjhjnkeildeedaaLawT
import Derived.Test.YtjhjnkeildeedaaOpenB
import Derived.Test.YtjhjnkeildeedaaSame
import Derived.Test.YtjhjnkeildeedaaPure
import Derived.Test.YtjhjnkeildeedaaImplS
import Derived.Test.YtjhjnkeildeedaaSpecK
namespace Go.Proofs.Ytjhjnkeildeedaa
open Go.RowKit

/-- The variable in block g reads as T. -/
structure TV (g : Nat) (T : Tm) (a : Option Addr) (c : Nat) (w : World) : Prop where
  var : VarAt g T.kind T.num (.slice a T.kids.length c) w
  sl : SlIn w 0 T.kids (.slice a T.kids.length c)
theorem TV.below {g : Nat} {T : Tm} {a : Option Addr} {c : Nat} {w w' : World} (h : TV g T a c w) (hb : Below w.heap.size w w') : TV g T a c w' := ⟨h.var.below hb, h.sl.below hb⟩
theorem TV.new {T : Tm} {a : Option Addr} {c : Nat} {w : World} (h : SlIn w 0 T.kids (.slice a T.kids.length c)) : TV w.heap.size T a c (w.alloc (.cells #[.int .i64 T.kind, .int .i64 T.num, .slice a T.kids.length c] 32)) := ⟨VarAt.new _ _ _ _, h.below (below1 _ _)⟩
theorem TV.tm {g : Nat} {T : Tm} {a : Option Addr} {c : Nat} {w : World} (h : TV g T a c w) : TmIn w 0 T (.agg #[.int .i64 T.kind, .int .i64 T.num, .slice a T.kids.length c]) := ⟨_, rfl, h.sl⟩
theorem TV.facts {g : Nat} {T : Tm} {a : Option Addr} {c : Nat} {w : World} (h : TV g T a c w) : g < w.heap.size ∧ w.cell? ⟨g, 0, none⟩ = some (.int .i64 T.kind) ∧ w.cell? ⟨g, 1, none⟩ = some (.int .i64 T.num) ∧ w.cell? ⟨g, 2, none⟩ = some (.slice a T.kids.length c) ∧ ∀ i, w.frozen? ⟨g, i, none⟩ = false := h.var.facts

/-- A result of two parts: a term and whether there is one. -/
def PairPost (w : World) (T : Tm) (b : Bool) (e : Ending) (w' : World) : Prop := Below w.heap.size w w' ∧ ∃ v, e = .returned (.tuple #[v, .bool b]) ∧ TmIn w' 0 T v
theorem ReplPost.pair {w w' : World} {P : Prop} {T : Tm} {e : Ending} (h : ReplPost w P T e w') : PairPost w (orZero P T) (tr P) e w' := by
  obtain ⟨hb, v, he, s, F, hv, hs, -, -⟩ := h
  exact ⟨hb, v, he, s, hv, hs.sl fun _ _ => Nat.zero_le _⟩
theorem SReplPost.pair {w w' : World} {P : Prop} {T : Tm} {e : Ending} (h : SReplPost w P T e w') : PairPost w (orZero P T) (tr P) e w' := h
theorem orZero_yes {P : Prop} {T : Tm} (h : P) : orZero P T = T := by unfold orZero; rw [if_pos h]
theorem orZero_no {P : Prop} {T : Tm} (h : ¬ P) : orZero P T = zeroT := by unfold orZero; rw [if_neg h]

/-- TermSame of two valid terms or of the zero value. -/
theorem same_z (w : World) (v1 v2 : Value) (h1 : TmIn w 0 zeroT v1) (h2 : TmIn w 0 zeroT v2) : Calls Try.prog 27 #[v1, v2] w (BoolPost w true) := by
  have := termSame_any zeroT zeroT w v1 v2 (Or.inr rfl) h1 h2
  rwa [same_self] at this
theorem same_v {T : Tm} (hT : T.Valid) (w : World) (v1 v2 : Value) (h1 : TmIn w 0 T v1) (h2 : TmIn w 0 T v2) : Calls Try.prog 27 #[v1, v2] w (BoolPost w true) := by
  have := termSame_any T T w v1 v2 (Or.inl hT) h1 h2
  rwa [same_self] at this

end Go.Proofs.Ytjhjnkeildeedaa
