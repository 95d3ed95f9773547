/-
  Next, SpecT.
-/
import Derived.Test.YtihlbbbajaepoaaGreatQ06
import Derived.Test.YtihlbbbajaepoaaGreatQ08
import Derived.Test.YtihlbbbajaepoaaGreatQ09
namespace Go.Proofs.YtihlbbbajaepoaaGreat
open Go.RowKit
theorem row_put {w3 : World} {R q : Nat} {l : List Tm} {x : Tm} {s : Value} {F F2 : List Nat} {cs : Array Value} {T : TypeId} (hb : w3.heap[R]? = some (.cells cs T (0, 0))) (hq : q < l.length) (hsz : cs.size = l.length * 3)
  (hrow : RowOwn w3 (l.take q) R 0 F) (hs : SlOwn w3 x.kids s F2) (hR : R ∉ F) (hR2 : R ∉ F2) :
  (∃ cs' : Array Value, (((w3.setCell ⟨R, q * 3, none⟩ (.int .i64 x.kind)).setCell ⟨R, q * 3 + 1, none⟩ (.int .i64 x.num)).setCell ⟨R, q * 3 + 2, none⟩ s).heap[R]? = some (.cells cs' T (0, 0)) ∧ cs'.size = l.length * 3) ∧
   RowOwn (((w3.setCell ⟨R, q * 3, none⟩ (.int .i64 x.kind)).setCell ⟨R, q * 3 + 1, none⟩ (.int .i64 x.num)).setCell ⟨R, q * 3 + 2, none⟩ s) (l.take q ++ [x]) R 0 (F ++ F2) := by
 have h4 := block_set (block_set (block_set hb (q * 3) (.int .i64 x.kind)) (q * 3 + 1) (.int .i64 x.num)) (q * 3 + 2) s
 obtain ⟨_, c3, _⟩ := block_of_cells hb
 obtain ⟨_, c4, _⟩ := block_of_cells h4
 have hsame : ∀ g, g ≠ R → SameAt w3 (((w3.setCell ⟨R, q * 3, none⟩ (.int .i64 x.kind)).setCell ⟨R, q * 3 + 1, none⟩ (.int .i64 x.num)).setCell ⟨R, q * 3 + 2, none⟩ s) g := fun g hg =>
  SameAt.of_block ((Below.heap_setCell _ _ _ _ hg).trans ((Below.heap_setCell _ _ _ _ hg).trans (Below.heap_setCell _ _ _ _ hg)))
 refine ⟨⟨_, h4, by simp [hsz]⟩, RowOwn_append.2 ⟨F, F2, rfl, hrow.keep (fun i hi => ?_) (fun g hg => hsame g (fun e => hR (e ▸ hg))), ?_⟩⟩
 ·rw [List.length_take] at hi
  rw [c4, c3, Nat.zero_add, Array.getElem?_setIfInBounds_ne (by omega), Array.getElem?_setIfInBounds_ne (by omega), Array.getElem?_setIfInBounds_ne (by omega)]
 ·have hl : 0 + (l.take q).length * 3 = q * 3 := by rw [List.length_take]; omega
  rw [hl, RowOwn]
  refine ⟨F2, [], by simp, TmOwn_iff.2 ⟨s, ?_, ?_, ?_, hs.keep fun g hg => hsame g (fun e => hR2 (e ▸ hg))⟩, by rw [RowOwn]⟩
  ·rw [c4, Array.getElem?_setIfInBounds_ne (by omega), Array.getElem?_setIfInBounds_ne (by omega), Array.getElem?_setIfInBounds_self_of_lt (by omega)]
  ·rw [c4, Array.getElem?_setIfInBounds_ne (by omega), Array.getElem?_setIfInBounds_self_of_lt (by simp; omega)]
  ·rw [c4, Array.getElem?_setIfInBounds_self_of_lt (by simp; omega)]
end Go.Proofs.YtihlbbbajaepoaaGreat
namespace Go.Proofs.YtihlbbbajaepoaaGreat
open Go.RowKit
theorem info_term' : (Tryz.prog.info? 34).map (fun i => (i.zero, i.size, i.bytes)) = some (some (.agg #[.int .i64 0, .int .i64 0, .slice none 0 0]), 3, 40) := by kernel_rfl
theorem VarAt.only {g g' : Nat} {k n : Int} {s : Value} {w w' : World} (h : VarAt g' k n s w) (ho : Only g w w') (hn : g' ≠ g) : VarAt g' k n s w' :=
 (ho.block g' h.facts.1 (fun e => hn (by injection e))).trans h
theorem SlOwn.only {g : Nat} {l : List Tm} {v : Value} {F : List Nat} {w w' : World} (h : SlOwn w l v F) (ho : Only g w w') (hF : ∀ x ∈ F, x < w.heap.size ∧ x ≠ g) : SlOwn w' l v F :=
 h.keep fun x hx => SameAt.of_block (ho.block x (hF x hx).1 (fun e => (hF x hx).2 (by injection e)))
end Go.Proofs.YtihlbbbajaepoaaGreat
namespace Go.Proofs.YtihlbbbajaepoaaGreat
open Go.RowKit
def MadePost (w : World) (T : Tm) (e : Ending) (w' : World) : Prop := Below w.heap.size w w' ∧ ∃ v, e = .returned v ∧ Made w.heap.size T v w'
theorem hold2_below {w w' : World} {g bb o : Nat} {k : Int} {v v2 : Value} {k1 n1 : Int}
  (h : (g < w.heap.size ∧ bb < w.heap.size) ∧ w.cell? ⟨g, 0, none⟩ = some (.int .i64 k) ∧ w.cell? ⟨g, 2, none⟩ = some v ∧ w.cell? ⟨bb, o, none⟩ = some (.int .i64 k1) ∧ w.cell? ⟨bb, o + 1, none⟩ = some (.int .i64 n1) ∧ w.cell? ⟨bb, o + 2, none⟩ = some v2)
  (hb : Below w.heap.size w w') :
  (g < w'.heap.size ∧ bb < w'.heap.size) ∧ w'.cell? ⟨g, 0, none⟩ = some (.int .i64 k) ∧ w'.cell? ⟨g, 2, none⟩ = some v ∧ w'.cell? ⟨bb, o, none⟩ = some (.int .i64 k1) ∧ w'.cell? ⟨bb, o + 1, none⟩ = some (.int .i64 n1) ∧ w'.cell? ⟨bb, o + 2, none⟩ = some v2 := by
 obtain ⟨⟨z0, z1⟩, h1, h2, h3, h4, h5⟩ := h
 have := hb.size
 exact ⟨⟨by omega, by omega⟩, (hb.cell (p := ⟨g, 0, none⟩) z0).trans h1, (hb.cell (p := ⟨g, 2, none⟩) z0).trans h2, (hb.cell (p := ⟨bb, o, none⟩) z1).trans h3, (hb.cell (p := ⟨bb, o + 1, none⟩) z1).trans h4, (hb.cell (p := ⟨bb, o + 2, none⟩) z1).trans h5⟩
theorem hold2_grown {w w' : World} {row : Option Nat} {g bb o : Nat} {k : Int} {v v2 : Value} {k1 n1 : Int}
  (h : (g < w.heap.size ∧ bb < w.heap.size) ∧ w.cell? ⟨g, 0, none⟩ = some (.int .i64 k) ∧ w.cell? ⟨g, 2, none⟩ = some v ∧ w.cell? ⟨bb, o, none⟩ = some (.int .i64 k1) ∧ w.cell? ⟨bb, o + 1, none⟩ = some (.int .i64 n1) ∧ w.cell? ⟨bb, o + 2, none⟩ = some v2)
  (hb : w.grownBy w' row) (hn : some g ≠ row ∧ some bb ≠ row) :
  (g < w'.heap.size ∧ bb < w'.heap.size) ∧ w'.cell? ⟨g, 0, none⟩ = some (.int .i64 k) ∧ w'.cell? ⟨g, 2, none⟩ = some v ∧ w'.cell? ⟨bb, o, none⟩ = some (.int .i64 k1) ∧ w'.cell? ⟨bb, o + 1, none⟩ = some (.int .i64 n1) ∧ w'.cell? ⟨bb, o + 2, none⟩ = some v2 := by
 obtain ⟨⟨z0, z1⟩, h1, h2, h3, h4, h5⟩ := h
 have := hb.size
 exact ⟨⟨by omega, by omega⟩, (hb.cell_far ⟨g, 0, none⟩ z0 hn.1).trans h1, (hb.cell_far ⟨g, 2, none⟩ z0 hn.1).trans h2, (hb.cell_far ⟨bb, o, none⟩ z1 hn.2).trans h3, (hb.cell_far ⟨bb, o + 1, none⟩ z1 hn.2).trans h4, (hb.cell_far ⟨bb, o + 2, none⟩ z1 hn.2).trans h5⟩
theorem hold2_set {w : World} {p : Addr} {u : Value} {g bb o : Nat} {k : Int} {v v2 : Value} {k1 n1 : Int}
  (h : (g < w.heap.size ∧ bb < w.heap.size) ∧ w.cell? ⟨g, 0, none⟩ = some (.int .i64 k) ∧ w.cell? ⟨g, 2, none⟩ = some v ∧ w.cell? ⟨bb, o, none⟩ = some (.int .i64 k1) ∧ w.cell? ⟨bb, o + 1, none⟩ = some (.int .i64 n1) ∧ w.cell? ⟨bb, o + 2, none⟩ = some v2)
  (hg : p.block ≠ g) (hb : p.block ≠ bb) :
  (g < (w.setCell p u).heap.size ∧ bb < (w.setCell p u).heap.size) ∧ (w.setCell p u).cell? ⟨g, 0, none⟩ = some (.int .i64 k) ∧ (w.setCell p u).cell? ⟨g, 2, none⟩ = some v ∧ (w.setCell p u).cell? ⟨bb, o, none⟩ = some (.int .i64 k1) ∧ (w.setCell p u).cell? ⟨bb, o + 1, none⟩ = some (.int .i64 n1) ∧ (w.setCell p u).cell? ⟨bb, o + 2, none⟩ = some v2 := by
 obtain ⟨⟨z0, z1⟩, h1, h2, h3, h4, h5⟩ := h
 have hz : (w.setCell p u).heap.size = w.heap.size := by simp [World.setCell]
 exact ⟨⟨by rw [hz]; exact z0, by rw [hz]; exact z1⟩, (World.cell?_setCell_far w p _ u hg).trans h1, (World.cell?_setCell_far w p _ u hg).trans h2, (World.cell?_setCell_far w p _ u hb).trans h3, (World.cell?_setCell_far w p _ u hb).trans h4, (World.cell?_setCell_far w p _ u hb).trans h5⟩
theorem VarAt.grown {g : Nat} {k n : Int} {s : Value} {w w' : World} {row : Option Nat} (h : VarAt g k n s w) (hb : w.grownBy w' row) (hn : some g ≠ row) : VarAt g k n s w' := (hb.block g h.facts.1 hn).trans h
theorem VarAt.set2 {g : Nat} {k n : Int} {s s' : Value} {w : World} (h : VarAt g k n s w) : VarAt g k n s' (w.setCell ⟨g, 2, none⟩ s') := by
 have := block_set h 2 s'
 simpa [VarAt] using this
theorem var_new1 (w : World) (o : Obj) (k n : Int) (s : Value) : VarAt (w.heap.size + 1) k n s ((w.alloc o).alloc (.cells #[.int .i64 k, .int .i64 n, s] 34)) := by
 have := VarAt.new (w.alloc o) k n s
 rwa [show (w.alloc o).heap.size = w.heap.size + 1 by simp] at this
theorem var_new2 (w : World) (o o' : Obj) (k n : Int) (s : Value) : VarAt (w.heap.size + 1 + 1) k n s (((w.alloc o).alloc o').alloc (.cells #[.int .i64 k, .int .i64 n, s] 34)) := by
 have := VarAt.new ((w.alloc o).alloc o') k n s
 rwa [show ((w.alloc o).alloc o').heap.size = w.heap.size + 1 + 1 by simp] at this
def g3x (w : World) (g bb o : Nat) (k : Int) (v v2 : Value) (k1 n1 : Int) : Prop := (g < w.heap.size ∧ bb < w.heap.size) ∧ w.cell? ⟨g, 0, none⟩ = some (.int .i64 k) ∧ w.cell? ⟨g, 2, none⟩ = some v ∧ w.cell? ⟨bb, o, none⟩ = some (.int .i64 k1) ∧ w.cell? ⟨bb, o + 1, none⟩ = some (.int .i64 n1) ∧ w.cell? ⟨bb, o + 2, none⟩ = some v2
end Go.Proofs.YtihlbbbajaepoaaGreat
