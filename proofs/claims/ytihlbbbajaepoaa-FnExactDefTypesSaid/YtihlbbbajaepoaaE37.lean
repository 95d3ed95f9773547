/-
  TeleV.
-/
import Derived.Test.YtihlbbbajaepoaaE30
import Derived.Test.YtihlbbbajaepoaaE36
namespace Go.Proofs.Ytihlbbbajaepoaa
open Go.RowKit
def CvPost (w : World) (l : List Tm) (b : Bool) (e : Ending) (w' : World) : Prop := Below w.heap.size w w' ∧ ∃ (a : Option Addr) (c : Nat) (F : List Nat), e = .returned (.tuple #[.slice a l.length c, .bool b]) ∧ SlOwn w' l (.slice a l.length c) F ∧ F.Nodup ∧ ∀ g ∈ F, w.heap.size ≤ g ∧ g < w'.heap.size
def CvPostS (w : World) (l : List Tm) (b : Bool) (e : Ending) (w' : World) : Prop := Below w.heap.size w w' ∧ ∃ (a : Option Addr) (c : Nat), e = .returned (.tuple #[.slice a l.length c, .bool b]) ∧ SlIn w' w.heap.size l (.slice a l.length c)
end Go.Proofs.Ytihlbbbajaepoaa
