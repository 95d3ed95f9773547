/-
  What the walks of the exact laws with a term as result share: facts that stay behind a call, and behind a marking.
-/
import Derived.Test.YtidmcenblmlhdaaLaws
import Derived.Test.YtidmcenblmlhdaaHeld
import Derived.Test.YtidmcenblmlhdaaMark
import Derived.Test.YtidmcenblmlhdaaToOwn
namespace Go.Proofs.Ytidmcenblmlhdaa
open Go.RowKit

/-- Below, as a fact that moves on. -/
structure Bel (w a : World) : Prop where
  be : Below w.heap.size w a
theorem Bel.below {w a b : World} (h : Bel w a) (hb : Below a.heap.size a b) : Bel w b := ⟨bAfter h.be hb⟩
theorem Bel.but {F : List Nat} {w a b : World} (h : Bel w a) (hb : But F a b) (hF : ∀ g ∈ F, w.heap.size ≤ g) : Bel w b := ⟨hb.below h.be h.be.size hF⟩
theorem VarAt.but {F : List Nat} {g : Nat} {k n : Int} {s : Value} {a b : World} (h : VarAt g k n s a) (hb : But F a b) (hF : g ∉ F) : VarAt g k n s b := (hb.block g h.facts.1 hF).trans h
theorem BoxAt.but {F : List Nat} {g : Nat} {k n : Int} {s : Value} {a b : World} (h : BoxAt g k n s a) (hb : But F a b) (hF : g ∉ F) : BoxAt g k n s b := by
  have e := hb.block g h.1 hF
  refine ⟨?_, (World.cell?_of_block e).trans h.2.1, (World.cell?_of_block e).trans h.2.2.1, (World.cell?_of_block e).trans h.2.2.2⟩
  exact Nat.lt_of_lt_of_le h.1 hb.size

/-- A term of its own, in blocks from lo on and below hi. -/
structure OwnB (lo hi : Nat) (l : List Tm) (v : Value) (F : List Nat) (w : World) : Prop where
  own : SlOwn w l v F
  nd : F.Nodup
  ge : ∀ g ∈ F, lo ≤ g
  lt : ∀ g ∈ F, g < hi
  hi : hi ≤ w.heap.size
theorem OwnB.below {lo hi : Nat} {l : List Tm} {v : Value} {F : List Nat} {a b : World} (h : OwnB lo hi l v F a) (hb : Below a.heap.size a b) : OwnB lo hi l v F b :=
  ⟨h.own.below (fun g hg => Nat.lt_of_lt_of_le (h.lt g hg) h.hi) hb, h.nd, h.ge, h.lt, Nat.le_trans h.hi hb.size⟩
theorem OwnB.but {lo hi : Nat} {l : List Tm} {v : Value} {F G : List Nat} {a b : World} (h : OwnB lo hi l v F a) (hb : But G a b) (hF : ∀ g ∈ F, g ∉ G) : OwnB lo hi l v F b :=
  ⟨h.own.keep fun g hg => SameAt.of_block (hb.block g (Nat.lt_of_lt_of_le (h.lt g hg) h.hi) (hF g hg)), h.nd, h.ge, h.lt, Nat.le_trans h.hi hb.size⟩
theorem OwnB.sl {lo hi : Nat} {l : List Tm} {v : Value} {F : List Nat} {w : World} (h : OwnB lo hi l v F w) : SlIn w 0 l v := h.own.sl fun _ _ => Nat.zero_le _
theorem OwnB.lts {lo hi : Nat} {l : List Tm} {v : Value} {F : List Nat} {w : World} (h : OwnB lo hi l v F w) : ∀ g ∈ F, g < w.heap.size := fun g hg => Nat.lt_of_lt_of_le (h.lt g hg) h.hi
theorem OwnB.of {w0 w : World} {l : List Tm} {v : Value} {F : List Nat} (hs : SlOwn w l v F) (hn : F.Nodup) (hF : ∀ g ∈ F, w0.heap.size ≤ g ∧ g < w.heap.size) : OwnB w0.heap.size w.heap.size l v F w :=
  ⟨hs, hn, fun g hg => (hF g hg).1, fun g hg => (hF g hg).2, Nat.le_refl _⟩
theorem OwnB.marked {lo hi : Nat} {l m : List Tm} {v : Value} {F : List Nat} {a b : World} (h : OwnB lo hi l v F a) (hs : SlOwn b m v F) (hz : a.heap.size ≤ b.heap.size) : OwnB lo hi m v F b := ⟨hs, h.nd, h.ge, h.lt, Nat.le_trans h.hi hz⟩

theorem holdT {w w1 w' : World} {g g5 : Nat} {k n k5 n5 : Int} {s s5 : Value} (h : Below w.heap.size w w1 ∧ (g < w1.heap.size ∧ w1.cell? ⟨g, 0, none⟩ = some (.int .i64 k) ∧ w1.cell? ⟨g, 1, none⟩ = some (.int .i64 n) ∧ w1.cell? ⟨g, 2, none⟩ = some s) ∧
      (g5 < w1.heap.size ∧ w1.cell? ⟨g5, 0, none⟩ = some (.int .i64 k5) ∧ w1.cell? ⟨g5, 1, none⟩ = some (.int .i64 n5) ∧ w1.cell? ⟨g5, 2, none⟩ = some s5)) (hb : Below w1.heap.size w1 w') :
    Below w.heap.size w w' ∧ (g < w'.heap.size ∧ w'.cell? ⟨g, 0, none⟩ = some (.int .i64 k) ∧ w'.cell? ⟨g, 1, none⟩ = some (.int .i64 n) ∧ w'.cell? ⟨g, 2, none⟩ = some s) ∧
      (g5 < w'.heap.size ∧ w'.cell? ⟨g5, 0, none⟩ = some (.int .i64 k5) ∧ w'.cell? ⟨g5, 1, none⟩ = some (.int .i64 n5) ∧ w'.cell? ⟨g5, 2, none⟩ = some s5) :=
  ⟨bAfter h.1 hb, BoxAt.below h.2.1 hb, BoxAt.below h.2.2 hb⟩
theorem hold_be {w w1 : World} {q : Prop} (h : Below w.heap.size w w1 ∧ q) : Below w.heap.size w w1 := h.1
theorem VarAt.four {g : Nat} {k n : Int} {s : Value} {w : World} (h : VarAt g k n s w) : g < w.heap.size ∧ w.cell? ⟨g, 0, none⟩ = some (.int .i64 k) ∧ w.cell? ⟨g, 1, none⟩ = some (.int .i64 n) ∧ w.cell? ⟨g, 2, none⟩ = some s := ⟨h.facts.1, h.facts.2.1, h.facts.2.2.1, h.facts.2.2.2.1⟩

end Go.Proofs.Ytidmcenblmlhdaa
