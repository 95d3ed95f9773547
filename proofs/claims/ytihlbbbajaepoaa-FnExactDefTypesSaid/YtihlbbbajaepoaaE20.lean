/-
  SpecT.
-/
import Derived.Test.YtihlbbbajaepoaaE10
import Derived.Test.YtihlbbbajaepoaaE11
import Derived.Test.YtihlbbbajaepoaaE17
import Derived.Test.YtihlbbbajaepoaaE18
import Derived.Test.YtihlbbbajaepoaaE19
namespace Go.Proofs.Ytihlbbbajaepoaa
open Go.RowKit
def MadePost (w : World) (T : Tm) (e : Ending) (w' : World) : Prop := Below w.heap.size w w' ∧ ∃ v, e = .returned v ∧ Made w.heap.size T v w'
theorem hold2_below {w w' : World} {g bb o : Nat} {k : Int} {v v2 : Value} {k1 n1 : Int}
  (h : (g < w.heap.size ∧ bb < w.heap.size) ∧ w.cell? ⟨g, 0, none⟩ = some (.int .i64 k) ∧ w.cell? ⟨g, 2, none⟩ = some v ∧ w.cell? ⟨bb, o, none⟩ = some (.int .i64 k1) ∧ w.cell? ⟨bb, o + 1, none⟩ = some (.int .i64 n1) ∧ w.cell? ⟨bb, o + 2, none⟩ = some v2)
  (hb : Below w.heap.size w w') :
  (g < w'.heap.size ∧ bb < w'.heap.size) ∧ w'.cell? ⟨g, 0, none⟩ = some (.int .i64 k) ∧ w'.cell? ⟨g, 2, none⟩ = some v ∧ w'.cell? ⟨bb, o, none⟩ = some (.int .i64 k1) ∧ w'.cell? ⟨bb, o + 1, none⟩ = some (.int .i64 n1) ∧ w'.cell? ⟨bb, o + 2, none⟩ = some v2 := by
 obtain ⟨⟨z0, z1⟩, h1, h2, h3, h4, h5⟩ := h
 have := hb.size
 exact ⟨⟨by omega, by omega⟩, (hb.cell (p := ⟨g, 0, none⟩) z0).trans h1, (hb.cell (p := ⟨g, 2, none⟩) z0).trans h2, (hb.cell (p := ⟨bb, o, none⟩) z1).trans h3, (hb.cell (p := ⟨bb, o + 1, none⟩) z1).trans h4, (hb.cell (p := ⟨bb, o + 2, none⟩) z1).trans h5⟩
theorem hold2_grown {w w' : World} {row : Option Nat} {g bb o : Nat} {k : Int} {v v2 : Value} {k1 n1 : Int}
  (h : (g < w.heap.size ∧ bb < w.heap.size) ∧ w.cell? ⟨g, 0, none⟩ = some (.int .i64 k) ∧ w.cell? ⟨g, 2, none⟩ = some v ∧ w.cell? ⟨bb, o, none⟩ = some (.int .i64 k1) ∧ w.cell? ⟨bb, o + 1, none⟩ = some (.int .i64 n1) ∧ w.cell? ⟨bb, o + 2, none⟩ = some v2)
  (hb : w.grownBy w' row) (hn : some g ≠ row ∧ some bb ≠ row) :
  (g < w'.heap.size ∧ bb < w'.heap.size) ∧ w'.cell? ⟨g, 0, none⟩ = some (.int .i64 k) ∧ w'.cell? ⟨g, 2, none⟩ = some v ∧ w'.cell? ⟨bb, o, none⟩ = some (.int .i64 k1) ∧ w'.cell? ⟨bb, o + 1, none⟩ = some (.int .i64 n1) ∧ w'.cell? ⟨bb, o + 2, none⟩ = some v2 := by
 obtain ⟨⟨z0, z1⟩, h1, h2, h3, h4, h5⟩ := h
 have := hb.size
 exact ⟨⟨by omega, by omega⟩, (hb.cell_far ⟨g, 0, none⟩ z0 hn.1).trans h1, (hb.cell_far ⟨g, 2, none⟩ z0 hn.1).trans h2, (hb.cell_far ⟨bb, o, none⟩ z1 hn.2).trans h3, (hb.cell_far ⟨bb, o + 1, none⟩ z1 hn.2).trans h4, (hb.cell_far ⟨bb, o + 2, none⟩ z1 hn.2).trans h5⟩
theorem hold2_set {w : World} {p : Addr} {u : Value} {g bb o : Nat} {k : Int} {v v2 : Value} {k1 n1 : Int}
  (h : (g < w.heap.size ∧ bb < w.heap.size) ∧ w.cell? ⟨g, 0, none⟩ = some (.int .i64 k) ∧ w.cell? ⟨g, 2, none⟩ = some v ∧ w.cell? ⟨bb, o, none⟩ = some (.int .i64 k1) ∧ w.cell? ⟨bb, o + 1, none⟩ = some (.int .i64 n1) ∧ w.cell? ⟨bb, o + 2, none⟩ = some v2)
  (hg : p.block ≠ g) (hb : p.block ≠ bb) :
  (g < (w.setCell p u).heap.size ∧ bb < (w.setCell p u).heap.size) ∧ (w.setCell p u).cell? ⟨g, 0, none⟩ = some (.int .i64 k) ∧ (w.setCell p u).cell? ⟨g, 2, none⟩ = some v ∧ (w.setCell p u).cell? ⟨bb, o, none⟩ = some (.int .i64 k1) ∧ (w.setCell p u).cell? ⟨bb, o + 1, none⟩ = some (.int .i64 n1) ∧ (w.setCell p u).cell? ⟨bb, o + 2, none⟩ = some v2 := by
 obtain ⟨⟨z0, z1⟩, h1, h2, h3, h4, h5⟩ := h
 have hz : (w.setCell p u).heap.size = w.heap.size := by simp [World.setCell]
 exact ⟨⟨by rw [hz]; exact z0, by rw [hz]; exact z1⟩, (World.cell?_setCell_far w p _ u hg).trans h1, (World.cell?_setCell_far w p _ u hg).trans h2, (World.cell?_setCell_far w p _ u hb).trans h3, (World.cell?_setCell_far w p _ u hb).trans h4, (World.cell?_setCell_far w p _ u hb).trans h5⟩
theorem VarAt.grown {g : Nat} {k n : Int} {s : Value} {w w' : World} {row : Option Nat} (h : VarAt g k n s w) (hb : w.grownBy w' row) (hn : some g ≠ row) : VarAt g k n s w' := (hb.block g h.facts.1 hn).trans h
theorem VarAt.set2 {g : Nat} {k n : Int} {s s' : Value} {w : World} (h : VarAt g k n s w) : VarAt g k n s' (w.setCell ⟨g, 2, none⟩ s') := by
 have := block_set h 2 s'
 simpa [VarAt] using this
theorem var_new1 (w : World) (o : Obj) (k n : Int) (s : Value) : VarAt (w.heap.size + 1) k n s ((w.alloc o).alloc (.cells #[.int .i64 k, .int .i64 n, s] 30)) := by
 have := VarAt.new (w.alloc o) k n s
 rwa [show (w.alloc o).heap.size = w.heap.size + 1 by simp] at this
theorem var_new2 (w : World) (o o' : Obj) (k n : Int) (s : Value) : VarAt (w.heap.size + 1 + 1) k n s (((w.alloc o).alloc o').alloc (.cells #[.int .i64 k, .int .i64 n, s] 30)) := by
 have := VarAt.new ((w.alloc o).alloc o') k n s
 rwa [show ((w.alloc o).alloc o').heap.size = w.heap.size + 1 + 1 by simp] at this
def g3x (w : World) (g bb o : Nat) (k : Int) (v v2 : Value) (k1 n1 : Int) : Prop := (g < w.heap.size ∧ bb < w.heap.size) ∧ w.cell? ⟨g, 0, none⟩ = some (.int .i64 k) ∧ w.cell? ⟨g, 2, none⟩ = some v ∧ w.cell? ⟨bb, o, none⟩ = some (.int .i64 k1) ∧ w.cell? ⟨bb, o + 1, none⟩ = some (.int .i64 n1) ∧ w.cell? ⟨bb, o + 2, none⟩ = some v2
end Go.Proofs.Ytihlbbbajaepoaa
