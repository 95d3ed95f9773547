/-
  What the walks of the exact laws with a term as result share: facts that stay behind a call, and behind a marking.
-/
import Derived.Test.YthmcgpppacodeaaLaws
import Derived.Test.YthmcgpppacodeaaHeld
import Derived.Test.YthmcgpppacodeaaMark
import Derived.Test.YthmcgpppacodeaaToOwn
namespace Go.Proofs.Ythmcgpppacodeaa
open Go.RowKit

/-- Below, as a fact that moves on. -/
structure Bel (w a : World) : Prop where
  be : Below w.heap.size w a
theorem Bel.below {w a b : World} (h : Bel w a) (hb : Below a.heap.size a b) : Bel w b := ⟨bAfter h.be hb⟩
theorem Bel.but {F : List Nat} {w a b : World} (h : Bel w a) (hb : But F a b) (hF : ∀ g ∈ F, w.heap.size ≤ g) : Bel w b := ⟨hb.below h.be h.be.size hF⟩
theorem VarAt.but {F : List Nat} {g : Nat} {k n : Int} {s : Value} {a b : World} (h : VarAt g k n s a) (hb : But F a b) (hF : g ∉ F) : VarAt g k n s b := (hb.block g h.facts.1 hF).trans h
theorem BoxAt.but {F : List Nat} {g : Nat} {k n : Int} {s : Value} {a b : World} (h : BoxAt g k n s a) (hb : But F a b) (hF : g ∉ F) : BoxAt g k n s b := by
  have e := hb.block g h.1 hF
  refine ⟨?_, (World.cell?_of_block e).trans h.2.1, (World.cell?_of_block e).trans h.2.2.1, (World.cell?_of_block e).trans h.2.2.2⟩
  exact Nat.lt_of_lt_of_le h.1 hb.size

/-- A term of its own, in blocks from lo on and below hi. -/
structure OwnB (lo hi : Nat) (l : List Tm) (v : Value) (F : List Nat) (w : World) : Prop where
  own : SlOwn w l v F
  nd : F.Nodup
  ge : ∀ g ∈ F, lo ≤ g
  lt : ∀ g ∈ F, g < hi
  hi : hi ≤ w.heap.size
theorem OwnB.below {lo hi : Nat} {l : List Tm} {v : Value} {F : List Nat} {a b : World} (h : OwnB lo hi l v F a) (hb : Below a.heap.size a b) : OwnB lo hi l v F b :=
  ⟨h.own.below (fun g hg => Nat.lt_of_lt_of_le (h.lt g hg) h.hi) hb, h.nd, h.ge, h.lt, Nat.le_trans h.hi hb.size⟩
theorem OwnB.but {lo hi : Nat} {l : List Tm} {v : Value} {F G : List Nat} {a b : World} (h : OwnB lo hi l v F a) (hb : But G a b) (hF : ∀ g ∈ F, g ∉ G) : OwnB lo hi l v F b :=
  ⟨h.own.keep fun g hg => SameAt.of_block (hb.block g (Nat.lt_of_lt_of_le (h.lt g hg) h.hi) (hF g hg)), h.nd, h.ge, h.lt, Nat.le_trans h.hi hb.size⟩
theorem OwnB.sl {lo hi : Nat} {l : List Tm} {v : Value} {F : List Nat} {w : World} (h : OwnB lo hi l v F w) : SlIn w 0 l v := h.own.sl fun _ _ => Nat.zero_le _
theorem OwnB.lts {lo hi : Nat} {l : List Tm} {v : Value} {F : List Nat} {w : World} (h : OwnB lo hi l v F w) : ∀ g ∈ F, g < w.heap.size := fun g hg => Nat.lt_of_lt_of_le (h.lt g hg) h.hi
theorem OwnB.of {w0 w : World} {l : List Tm} {v : Value} {F : List Nat} (hs : SlOwn w l v F) (hn : F.Nodup) (hF : ∀ g ∈ F, w0.heap.size ≤ g ∧ g < w.heap.size) : OwnB w0.heap.size w.heap.size l v F w :=
  ⟨hs, hn, fun g hg => (hF g hg).1, fun g hg => (hF g hg).2, Nat.le_refl _⟩
theorem OwnB.marked {lo hi : Nat} {l m : List Tm} {v : Value} {F : List Nat} {a b : World} (h : OwnB lo hi l v F a) (hs : SlOwn b m v F) (hz : a.heap.size ≤ b.heap.size) : OwnB lo hi m v F b := ⟨hs, h.nd, h.ge, h.lt, Nat.le_trans h.hi hz⟩

theorem holdT {w w1 w' : World} {g g5 : Nat} {k n k5 n5 : Int} {s s5 : Value} (h : Below w.heap.size w w1 ∧ (g < w1.heap.size ∧ w1.cell? ⟨g, 0, none⟩ = some (.int .i64 k) ∧ w1.cell? ⟨g, 1, none⟩ = some (.int .i64 n) ∧ w1.cell? ⟨g, 2, none⟩ = some s) ∧
      (g5 < w1.heap.size ∧ w1.cell? ⟨g5, 0, none⟩ = some (.int .i64 k5) ∧ w1.cell? ⟨g5, 1, none⟩ = some (.int .i64 n5) ∧ w1.cell? ⟨g5, 2, none⟩ = some s5)) (hb : Below w1.heap.size w1 w') :
    Below w.heap.size w w' ∧ (g < w'.heap.size ∧ w'.cell? ⟨g, 0, none⟩ = some (.int .i64 k) ∧ w'.cell? ⟨g, 1, none⟩ = some (.int .i64 n) ∧ w'.cell? ⟨g, 2, none⟩ = some s) ∧
      (g5 < w'.heap.size ∧ w'.cell? ⟨g5, 0, none⟩ = some (.int .i64 k5) ∧ w'.cell? ⟨g5, 1, none⟩ = some (.int .i64 n5) ∧ w'.cell? ⟨g5, 2, none⟩ = some s5) :=
  ⟨bAfter h.1 hb, BoxAt.below h.2.1 hb, BoxAt.below h.2.2 hb⟩
theorem hold_be {w w1 : World} {q : Prop} (h : Below w.heap.size w w1 ∧ q) : Below w.heap.size w w1 := h.1
theorem box_new1 (w : World) (o : Obj) (k n : Int) (s : Value) (T : TypeId) : BoxAt (w.heap.size + 1) k n s ((w.alloc o).alloc (.cells #[.int .i64 k, .int .i64 n, s] T)) := by
  have := BoxAt.new (w.alloc o) k n s T
  rwa [show (w.alloc o).heap.size = w.heap.size + 1 by simp] at this
theorem BoxAt.set1 {g : Nat} {k n : Int} {s : Value} {w : World} {p : Addr} {u : Value} (h : BoxAt g k n s w) (hp : p.block ≠ g) : BoxAt g k n s (w.setCell p u) := by
  have hz : (w.setCell p u).heap.size = w.heap.size := by simp [World.setCell]
  exact ⟨by rw [hz]; exact h.1, (World.cell?_setCell_far w p _ u hp).trans h.2.1, (World.cell?_setCell_far w p _ u hp).trans h.2.2.1, (World.cell?_setCell_far w p _ u hp).trans h.2.2.2⟩
theorem holdT_set3 {w w1 : World} {g g5 gz : Nat} {k n k5 n5 : Int} {s s5 x y z : Value} (h : Below w.heap.size w w1 ∧ (g < w1.heap.size ∧ w1.cell? ⟨g, 0, none⟩ = some (.int .i64 k) ∧ w1.cell? ⟨g, 1, none⟩ = some (.int .i64 n) ∧ w1.cell? ⟨g, 2, none⟩ = some s) ∧
      (g5 < w1.heap.size ∧ w1.cell? ⟨g5, 0, none⟩ = some (.int .i64 k5) ∧ w1.cell? ⟨g5, 1, none⟩ = some (.int .i64 n5) ∧ w1.cell? ⟨g5, 2, none⟩ = some s5)) (h1 : w.heap.size ≤ gz) (h2 : g < w.heap.size) (h3 : g5 < w.heap.size) :
    Below w.heap.size w (((w1.setCell ⟨gz, 0, none⟩ x).setCell ⟨gz, 1, none⟩ y).setCell ⟨gz, 2, none⟩ z) ∧ BoxAt g k n s (((w1.setCell ⟨gz, 0, none⟩ x).setCell ⟨gz, 1, none⟩ y).setCell ⟨gz, 2, none⟩ z) ∧ BoxAt g5 k5 n5 s5 (((w1.setCell ⟨gz, 0, none⟩ x).setCell ⟨gz, 1, none⟩ y).setCell ⟨gz, 2, none⟩ z) := by
  have a : BoxAt g k n s w1 := h.2.1
  have b : BoxAt g5 k5 n5 s5 w1 := h.2.2
  have e : gz ≠ g := by omega
  have e5 : gz ≠ g5 := by omega
  exact ⟨bSet3 h.1 h1 _ _ _ _ _ _, ((a.set1 e).set1 e).set1 e, ((b.set1 e5).set1 e5).set1 e5⟩
theorem VarAt.set3 {g : Nat} {k n k' n' : Int} {s s' : Value} {w : World} (h : VarAt g k n s w) : VarAt g k' n' s' (((w.setCell ⟨g, 0, none⟩ (.int .i64 k')).setCell ⟨g, 1, none⟩ (.int .i64 n')).setCell ⟨g, 2, none⟩ s') := by
  have h0 : VarAt g k' n s (w.setCell ⟨g, 0, none⟩ (.int .i64 k')) := by
    have := block_set h 0 (.int .i64 k')
    simpa [VarAt] using this
  have h1 : VarAt g k' n' s ((w.setCell ⟨g, 0, none⟩ (.int .i64 k')).setCell ⟨g, 1, none⟩ (.int .i64 n')) := by
    have := block_set h0 1 (.int .i64 n')
    simpa [VarAt] using this
  have := block_set h1 2 s'
  simpa [VarAt] using this
theorem VarAt.four {g : Nat} {k n : Int} {s : Value} {w : World} (h : VarAt g k n s w) : g < w.heap.size ∧ w.cell? ⟨g, 0, none⟩ = some (.int .i64 k) ∧ w.cell? ⟨g, 1, none⟩ = some (.int .i64 n) ∧ w.cell? ⟨g, 2, none⟩ = some s := ⟨h.facts.1, h.facts.2.1, h.facts.2.2.1, h.facts.2.2.2.1⟩

end Go.Proofs.Ythmcgpppacodeaa
