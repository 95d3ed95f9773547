/-
  ContrS.
-/
import Derived.Test.YtihlbbbajaepoaaGreatR10
import Derived.Test.YtihlbbbajaepoaaGreatR12
import Derived.Test.YtihlbbbajaepoaaGreatR13
import Derived.Test.YtihlbbbajaepoaaGreatR16
import Derived.Test.YtihlbbbajaepoaaGreatR24
import Derived.Deep.DeepCutAuto
namespace Go.Proofs.YtihlbbbajaepoaaGreat
open Go.RowKit
theorem SlX.from {w : World} {B : Nat} : ∀ {l : List Tm} {v : Value}, SlX w (fun i => i < B) l v → SlIn w B l v := by
 intro l
 induction l using Tm.ind with
 | h l ih =>
  intro v h
  obtain ⟨a, cap, b, o, rfl, h1, h2, h3⟩ := h.open
  refine ⟨a, cap, b, o, rfl, h1, fun hn => ⟨(h2 hn).1, Nat.not_lt.1 (h2 hn).2.1⟩, RowAt.of_get fun i hi => ?_⟩
  obtain ⟨s, c0, c1, c2, hs⟩ := h3 i hi
  exact TmAt_iff.2 ⟨s, c0, c1, c2, ih i hi hs⟩
def BPost (B : Nat) (w : World) (T : Tm) (e : Ending) (w' : World) : Prop := Below w.heap.size w w' ∧ ∃ (a : Option Addr) (c : Nat), e = .returned (.agg #[.int .i64 T.kind, .int .i64 T.num, .slice a T.kids.length c]) ∧ SlIn w' B T.kids (.slice a T.kids.length c)
end Go.Proofs.YtihlbbbajaepoaaGreat
