/-
  spec.l2Shift: the shifted term, in memory of its own.
-/
import Derived.Test.YtjhjnkeildeedaaSFree
import Derived.Test.YtjhjnkeildeedaaSub
import Derived.Test.YtjhjnkeildeedaaGrow
import Derived.Test.YtjhjnkeildeedaaNum
import Derived.Test.YtjhjnkeildeedaaTwo
namespace Go.Proofs.Ytjhjnkeildeedaa
open Go.RowKit

def MadePost (w : World) (T : Tm) (e : Ending) (w' : World) : Prop := Below w.heap.size w w' ∧ ∃ v, e = .returned v ∧ Made w.heap.size T v w'

theorem shiftL_append (e : Int) (k : Int) : ∀ (a b : List Tm) (i : Nat) (c : Int), shiftL e k (a ++ b) i c = shiftL e k a i c ++ shiftL e k b (i + a.length) c
  | [], b, i, c => by rw [List.nil_append, shiftL, List.nil_append]; rfl
  | t :: a, b, i, c => by
    rw [List.cons_append, shiftL, shiftL, shiftL_append e k a b, List.cons_append, List.length_cons, show i + 1 + a.length = i + (a.length + 1) by omega]
theorem shiftL_take (e k c : Int) {l : List Tm} {q : Nat} (h : q < l.length) : shiftL e k (l.take (q + 1)) 0 c = shiftL e k (l.take q) 0 c ++ [l[q].shift e (c + under k q)] := by
  rw [List.take_succ_eq_append_getElem h, shiftL_append, List.length_take, shiftL, shiftL, show 0 + min q l.length = q by omega]

/-- What is held through the region of a round: the term's box, and a row's three cells. -/
theorem hold2_below {w w' : World} {g bb o : Nat} {k : Int} {v v2 : Value} {k1 n1 : Int}
    (h : (g < w.heap.size ∧ bb < w.heap.size) ∧ w.cell? ⟨g, 0, none⟩ = some (.int .i64 k) ∧ w.cell? ⟨g, 2, none⟩ = some v ∧ w.cell? ⟨bb, o, none⟩ = some (.int .i64 k1) ∧ w.cell? ⟨bb, o + 1, none⟩ = some (.int .i64 n1) ∧ w.cell? ⟨bb, o + 2, none⟩ = some v2)
    (hb : Below w.heap.size w w') :
    (g < w'.heap.size ∧ bb < w'.heap.size) ∧ w'.cell? ⟨g, 0, none⟩ = some (.int .i64 k) ∧ w'.cell? ⟨g, 2, none⟩ = some v ∧ w'.cell? ⟨bb, o, none⟩ = some (.int .i64 k1) ∧ w'.cell? ⟨bb, o + 1, none⟩ = some (.int .i64 n1) ∧ w'.cell? ⟨bb, o + 2, none⟩ = some v2 := by
  obtain ⟨⟨z0, z1⟩, h1, h2, h3, h4, h5⟩ := h
  have := hb.size
  exact ⟨⟨by omega, by omega⟩, (hb.cell (p := ⟨g, 0, none⟩) z0).trans h1, (hb.cell (p := ⟨g, 2, none⟩) z0).trans h2, (hb.cell (p := ⟨bb, o, none⟩) z1).trans h3, (hb.cell (p := ⟨bb, o + 1, none⟩) z1).trans h4, (hb.cell (p := ⟨bb, o + 2, none⟩) z1).trans h5⟩
theorem hold2_grown {w w' : World} {row : Option Nat} {g bb o : Nat} {k : Int} {v v2 : Value} {k1 n1 : Int}
    (h : (g < w.heap.size ∧ bb < w.heap.size) ∧ w.cell? ⟨g, 0, none⟩ = some (.int .i64 k) ∧ w.cell? ⟨g, 2, none⟩ = some v ∧ w.cell? ⟨bb, o, none⟩ = some (.int .i64 k1) ∧ w.cell? ⟨bb, o + 1, none⟩ = some (.int .i64 n1) ∧ w.cell? ⟨bb, o + 2, none⟩ = some v2)
    (hb : w.grownBy w' row) (hn : some g ≠ row ∧ some bb ≠ row) :
    (g < w'.heap.size ∧ bb < w'.heap.size) ∧ w'.cell? ⟨g, 0, none⟩ = some (.int .i64 k) ∧ w'.cell? ⟨g, 2, none⟩ = some v ∧ w'.cell? ⟨bb, o, none⟩ = some (.int .i64 k1) ∧ w'.cell? ⟨bb, o + 1, none⟩ = some (.int .i64 n1) ∧ w'.cell? ⟨bb, o + 2, none⟩ = some v2 := by
  obtain ⟨⟨z0, z1⟩, h1, h2, h3, h4, h5⟩ := h
  have := hb.size
  exact ⟨⟨by omega, by omega⟩, (hb.cell_far ⟨g, 0, none⟩ z0 hn.1).trans h1, (hb.cell_far ⟨g, 2, none⟩ z0 hn.1).trans h2, (hb.cell_far ⟨bb, o, none⟩ z1 hn.2).trans h3, (hb.cell_far ⟨bb, o + 1, none⟩ z1 hn.2).trans h4, (hb.cell_far ⟨bb, o + 2, none⟩ z1 hn.2).trans h5⟩
theorem hold2_set {w : World} {p : Addr} {u : Value} {g bb o : Nat} {k : Int} {v v2 : Value} {k1 n1 : Int}
    (h : (g < w.heap.size ∧ bb < w.heap.size) ∧ w.cell? ⟨g, 0, none⟩ = some (.int .i64 k) ∧ w.cell? ⟨g, 2, none⟩ = some v ∧ w.cell? ⟨bb, o, none⟩ = some (.int .i64 k1) ∧ w.cell? ⟨bb, o + 1, none⟩ = some (.int .i64 n1) ∧ w.cell? ⟨bb, o + 2, none⟩ = some v2)
    (hg : p.block ≠ g) (hb : p.block ≠ bb) :
    (g < (w.setCell p u).heap.size ∧ bb < (w.setCell p u).heap.size) ∧ (w.setCell p u).cell? ⟨g, 0, none⟩ = some (.int .i64 k) ∧ (w.setCell p u).cell? ⟨g, 2, none⟩ = some v ∧ (w.setCell p u).cell? ⟨bb, o, none⟩ = some (.int .i64 k1) ∧ (w.setCell p u).cell? ⟨bb, o + 1, none⟩ = some (.int .i64 n1) ∧ (w.setCell p u).cell? ⟨bb, o + 2, none⟩ = some v2 := by
  obtain ⟨⟨z0, z1⟩, h1, h2, h3, h4, h5⟩ := h
  have hz : (w.setCell p u).heap.size = w.heap.size := by simp [World.setCell]
  exact ⟨⟨by rw [hz]; exact z0, by rw [hz]; exact z1⟩, (World.cell?_setCell_far w p _ u hg).trans h1, (World.cell?_setCell_far w p _ u hg).trans h2, (World.cell?_setCell_far w p _ u hb).trans h3, (World.cell?_setCell_far w p _ u hb).trans h4, (World.cell?_setCell_far w p _ u hb).trans h5⟩

theorem VarAt.grown {g : Nat} {k n : Int} {s : Value} {w w' : World} {row : Option Nat} (h : VarAt g k n s w) (hb : w.grownBy w' row) (hn : some g ≠ row) : VarAt g k n s w' := (hb.block g h.facts.1 hn).trans h
theorem VarAt.set2 {g : Nat} {k n : Int} {s s' : Value} {w : World} (h : VarAt g k n s w) : VarAt g k n s' (w.setCell ⟨g, 2, none⟩ s') := by
  have := block_set h 2 s'
  simpa [VarAt] using this

theorem var_new1 (w : World) (o : Obj) (k n : Int) (s : Value) : VarAt (w.heap.size + 1) k n s ((w.alloc o).alloc (.cells #[.int .i64 k, .int .i64 n, s] 32)) := by
  have := VarAt.new (w.alloc o) k n s
  rwa [show (w.alloc o).heap.size = w.heap.size + 1 by simp] at this
theorem var_new2 (w : World) (o o' : Obj) (k n : Int) (s : Value) : VarAt (w.heap.size + 1 + 1) k n s (((w.alloc o).alloc o').alloc (.cells #[.int .i64 k, .int .i64 n, s] 32)) := by
  have := VarAt.new ((w.alloc o).alloc o') k n s
  rwa [show ((w.alloc o).alloc o').heap.size = w.heap.size + 1 + 1 by simp] at this
/-- The shape in which a region's cells are named. -/
def g3x (w : World) (g bb o : Nat) (k : Int) (v v2 : Value) (k1 n1 : Int) : Prop := (g < w.heap.size ∧ bb < w.heap.size) ∧ w.cell? ⟨g, 0, none⟩ = some (.int .i64 k) ∧ w.cell? ⟨g, 2, none⟩ = some v ∧ w.cell? ⟨bb, o, none⟩ = some (.int .i64 k1) ∧ w.cell? ⟨bb, o + 1, none⟩ = some (.int .i64 n1) ∧ w.cell? ⟨bb, o + 2, none⟩ = some v2
theorem root_num2 {t : Tm} (h : t.rootOk) : 0 ≤ t.num ∧ t.num ≤ 20 := ⟨h.2.1, root_num' h⟩
theorem root_len {t : Tm} (h : t.rootOk) : t.kids.length ≤ 4 := by
  have h1 := h.1
  unfold arity at h1
  split at h1
  · omega
  · split at h1
    · omega
    · split at h1
      · omega
      · split at h1
        · omega
        · split at h1 <;> omega

end Go.Proofs.Ytjhjnkeildeedaa
