/-
  TeleP.
-/
import Derived.Test.YtleijaegpfjnpaaGreatC14
import Derived.Test.YtleijaegpfjnpaaGreatC37
namespace Go.Proofs.YtleijaegpfjnpaaGreat
open Go.RowKit
def TlRes (w : World) (P : Prop) (T : Tm) (e : Ending) (w' : World) : Prop := Below w.heap.size w w' ∧ ∃ (a : Option Addr) (c : Nat), e = .returned (.tuple #[.agg #[.int .i64 (orZero P T).kind, .int .i64 (orZero P T).num, .slice a (orZero P T).kids.length c], .bool (tr P)]) ∧ SlIn w' w.heap.size (orZero P T).kids (.slice a (orZero P T).kids.length c)
theorem TlRes.no {w w' : World} {P : Prop} {T : Tm} (hP : ¬ P) (hb : Below w.heap.size w w') : TlRes w P T (.returned (.tuple #[.agg #[.int .i64 0, .int .i64 0, .slice none 0 0], .bool false])) w' := by
 have h : orZero P T = zeroT := by unfold orZero; rw [if_neg hP]
 refine ⟨hb, none, 0, ?_, ?_⟩
 ·rw [h, tr_not hP]; rfl
 ·rw [h]; exact SlIn.nil _ _ _ _
theorem TlRes.yes {w w' : World} {P : Prop} {T : Tm} {a : Option Addr} {c : Nat} (hP : P) (hb : Below w.heap.size w w') (hs : SlIn w' w.heap.size T.kids (.slice a T.kids.length c)) : TlRes w P T (.returned (.tuple #[.agg #[.int .i64 T.kind, .int .i64 T.num, .slice a T.kids.length c], .bool true])) w' := by
 have h : orZero P T = T := by unfold orZero; rw [if_pos hP]
 refine ⟨hb, a, c, ?_, ?_⟩
 ·rw [h, tr_of hP]
 ·rw [h]; exact hs
end Go.Proofs.YtleijaegpfjnpaaGreat
