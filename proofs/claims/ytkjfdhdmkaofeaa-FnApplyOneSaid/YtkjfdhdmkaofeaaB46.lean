/-
  LawL.
-/
import Derived.Test.YtkjfdhdmkaofeaaB14
import Derived.Test.YtkjfdhdmkaofeaaB20
import Derived.Test.YtkjfdhdmkaofeaaB27
namespace Go.Proofs.Ytkjfdhdmkaofeaa
open Go.RowKit
theorem hold1T {w w1 w' : World} {g : Nat} {k n : Int} {s : Value} (h : Below w.heap.size w w1 ∧ (g < w1.heap.size ∧ w1.cell? ⟨g, 0, none⟩ = some (.int .i64 k) ∧ w1.cell? ⟨g, 1, none⟩ = some (.int .i64 n) ∧ w1.cell? ⟨g, 2, none⟩ = some s)) (hb : Below w1.heap.size w1 w') :
  Below w.heap.size w w' ∧ (g < w'.heap.size ∧ w'.cell? ⟨g, 0, none⟩ = some (.int .i64 k) ∧ w'.cell? ⟨g, 1, none⟩ = some (.int .i64 n) ∧ w'.cell? ⟨g, 2, none⟩ = some s) :=
 ⟨bAfter h.1 hb, BoxAt.below h.2 hb⟩
theorem hold1T_set3 {w w1 : World} {g gz : Nat} {k n : Int} {s x y z : Value} (h : Below w.heap.size w w1 ∧ (g < w1.heap.size ∧ w1.cell? ⟨g, 0, none⟩ = some (.int .i64 k) ∧ w1.cell? ⟨g, 1, none⟩ = some (.int .i64 n) ∧ w1.cell? ⟨g, 2, none⟩ = some s)) (h1 : w.heap.size ≤ gz) (h2 : g < w.heap.size) :
  Below w.heap.size w (((w1.setCell ⟨gz, 0, none⟩ x).setCell ⟨gz, 1, none⟩ y).setCell ⟨gz, 2, none⟩ z) ∧ BoxAt g k n s (((w1.setCell ⟨gz, 0, none⟩ x).setCell ⟨gz, 1, none⟩ y).setCell ⟨gz, 2, none⟩ z) := by
 have a : BoxAt g k n s w1 := h.2
 have e : gz ≠ g := by omega
 exact ⟨bSet3 h.1 h1 _ _ _ _ _ _, ((a.set1 e).set1 e).set1 e⟩
theorem tl_sl3 {w : World} {B gz : Nat} {l : List Tm} {v x y z : Value} (h : SlIn w B l v) (hg : gz < B) : SlIn (((w.setCell ⟨gz, 0, none⟩ x).setCell ⟨gz, 1, none⟩ y).setCell ⟨gz, 2, none⟩ z) B l v :=
 ((h.setCell (p := ⟨gz, 0, none⟩) hg _).setCell (p := ⟨gz, 1, none⟩) hg _).setCell (p := ⟨gz, 2, none⟩) hg _
end Go.Proofs.Ytkjfdhdmkaofeaa
