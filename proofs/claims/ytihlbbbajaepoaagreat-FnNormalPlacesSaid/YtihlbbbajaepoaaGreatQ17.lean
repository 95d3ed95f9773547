/-
  Ints, LawL.
-/
import Derived.Test.YtihlbbbajaepoaaGreatQ01
import Derived.Test.YtihlbbbajaepoaaGreatQ15
import Derived.Test.YtihlbbbajaepoaaGreatQ16
import Derived.Laws.MakeOwn
import Derived.ProofKit
import Derived.StillTailTactics
import Derived.Test.YtihlbbbajaepoaaGreatProg
import Derived.WalkSpells
namespace Go.Proofs.YtihlbbbajaepoaaGreat
open Go.RowKit
def Ints (w : World) (B : Nat) (N : Int → Int) (len : Nat) (v : Value) : Prop :=
 ∃ a cap b o, v = .slice a len cap ∧ (0 < len → a = some ⟨b, o, none⟩ ∧ B ≤ b ∧ b < w.heap.size) ∧ ∀ i : Nat, i < len → w.cell? ⟨b, o + i, none⟩ = some (.int .i64 (N i))
theorem Ints.below {w w' : World} {B : Nat} {N : Int → Int} {len : Nat} {v : Value} (h : Ints w B N len v) (hb : Below w.heap.size w w') : Ints w' B N len v := by
 obtain ⟨a, cap, b, o, rfl, h1, h2⟩ := h
 exact ⟨a, cap, b, o, rfl, fun h => ⟨(h1 h).1, (h1 h).2.1, Nat.lt_of_lt_of_le (h1 h).2.2 hb.size⟩, fun i hi => (hb.cell (p := ⟨b, o + i, none⟩) (h1 (by omega)).2.2).trans (h2 i hi)⟩
theorem Ints.mono {w : World} {B B' : Nat} {N : Int → Int} {len : Nat} {v : Value} (h : Ints w B N len v) (hB : B' ≤ B) : Ints w B' N len v := by
 obtain ⟨a, cap, b, o, rfl, h1, h2⟩ := h
 exact ⟨a, cap, b, o, rfl, fun h => ⟨(h1 h).1, Nat.le_trans hB (h1 h).2.1, (h1 h).2.2⟩, h2⟩
theorem Ints.form {w : World} {B : Nat} {N : Int → Int} {len : Nat} {v : Value} (h : Ints w B N len v) : ∃ a cap, v = .slice a len cap := by
 obtain ⟨a, cap, _, _, h1, _⟩ := h
 exact ⟨a, cap, h1⟩
structure IntsOwn (w : World) (g : Nat) (N : Int → Int) (len : Nat) (v : Value) : Prop where
 form : v = .slice (some ⟨g, 0, none⟩) len len
 block : ∃ cs : Array Value, w.heap[g]? = some (.cells cs 3 (0, 0)) ∧ cs.size = len ∧ ∀ i : Nat, i < len → cs[i]? = some (.int .i64 (N i))
theorem IntsOwn.lt {w : World} {g : Nat} {N : Int → Int} {len : Nat} {v : Value} (h : IntsOwn w g N len v) : g < w.heap.size := by
 obtain ⟨cs, h1, _⟩ := h.block
 exact (block_of_cells h1).1
theorem IntsOwn.of_block {w w' : World} {g : Nat} {N : Int → Int} {len : Nat} {v : Value} (h : IntsOwn w g N len v) (hb : w'.heap[g]? = w.heap[g]?) : IntsOwn w' g N len v := by
 obtain ⟨cs, h1, h2⟩ := h.block
 exact ⟨h.form, cs, hb.trans h1, h2⟩
theorem IntsOwn.below {w w' : World} {g : Nat} {N : Int → Int} {len : Nat} {v : Value} (h : IntsOwn w g N len v) (hb : Below w.heap.size w w') : IntsOwn w' g N len v := h.of_block (hb.block g h.lt)
def ToInts (w : World) (N : Int → Int) (len : Nat) (e : Ending) (w' : World) : Prop := Below w.heap.size w w' ∧ ∃ v, e = .returned v ∧ IntsOwn w' w.heap.size N len v
theorem info_int : (Tryz.prog.info? 3).map (fun i => (i.zero, i.size, i.bytes)) = some (some (.int .i64 0), 1, 8) := by kernel_rfl
end Go.Proofs.YtihlbbbajaepoaaGreat
namespace Go.Proofs.YtihlbbbajaepoaaGreat
open Go.RowKit
theorem hold1T {w w1 w' : World} {g : Nat} {k n : Int} {s : Value} (h : Below w.heap.size w w1 ∧ (g < w1.heap.size ∧ w1.cell? ⟨g, 0, none⟩ = some (.int .i64 k) ∧ w1.cell? ⟨g, 1, none⟩ = some (.int .i64 n) ∧ w1.cell? ⟨g, 2, none⟩ = some s)) (hb : Below w1.heap.size w1 w') :
  Below w.heap.size w w' ∧ (g < w'.heap.size ∧ w'.cell? ⟨g, 0, none⟩ = some (.int .i64 k) ∧ w'.cell? ⟨g, 1, none⟩ = some (.int .i64 n) ∧ w'.cell? ⟨g, 2, none⟩ = some s) :=
 ⟨bAfter h.1 hb, BoxAt.below h.2 hb⟩
theorem hold1T_set3 {w w1 : World} {g gz : Nat} {k n : Int} {s x y z : Value} (h : Below w.heap.size w w1 ∧ (g < w1.heap.size ∧ w1.cell? ⟨g, 0, none⟩ = some (.int .i64 k) ∧ w1.cell? ⟨g, 1, none⟩ = some (.int .i64 n) ∧ w1.cell? ⟨g, 2, none⟩ = some s)) (h1 : w.heap.size ≤ gz) (h2 : g < w.heap.size) :
  Below w.heap.size w (((w1.setCell ⟨gz, 0, none⟩ x).setCell ⟨gz, 1, none⟩ y).setCell ⟨gz, 2, none⟩ z) ∧ BoxAt g k n s (((w1.setCell ⟨gz, 0, none⟩ x).setCell ⟨gz, 1, none⟩ y).setCell ⟨gz, 2, none⟩ z) := by
 have a : BoxAt g k n s w1 := h.2
 have e : gz ≠ g := by omega
 exact ⟨bSet3 h.1 h1 _ _ _ _ _ _, ((a.set1 e).set1 e).set1 e⟩
theorem tl_sl3 {w : World} {B gz : Nat} {l : List Tm} {v x y z : Value} (h : SlIn w B l v) (hg : gz < B) : SlIn (((w.setCell ⟨gz, 0, none⟩ x).setCell ⟨gz, 1, none⟩ y).setCell ⟨gz, 2, none⟩ z) B l v :=
 ((h.setCell (p := ⟨gz, 0, none⟩) hg _).setCell (p := ⟨gz, 1, none⟩) hg _).setCell (p := ⟨gz, 2, none⟩) hg _
end Go.Proofs.YtihlbbbajaepoaaGreat
