/-
  Num, Trav.
-/
import Derived.Test.YtihlbbbajaepoaaGreatR02
import Derived.Test.YtihlbbbajaepoaaGreatR05
import Derived.Deep.RegionHeld3
import Derived.ProofKit
import Derived.RowKit
import Derived.Test.YtihlbbbajaepoaaGreatProg
import Derived.WalkSpells
namespace Go.Proofs.YtihlbbbajaepoaaGreat
open Go.RowKit
def Made (B : Nat) (t : Tm) (v : Value) (w : World) : Prop := ∃ s F, v = .agg #[.int .i64 t.kind, .int .i64 t.num, s] ∧ SlOwn w t.kids s F ∧ F.Nodup ∧ ∀ g ∈ F, B ≤ g ∧ g < w.heap.size
def VarAt (g : Nat) (k n : Int) (s : Value) (w : World) : Prop := w.heap[g]? = some (.cells #[.int .i64 k, .int .i64 n, s] 34 (0, 0))
theorem VarAt.facts {g : Nat} {k n : Int} {s : Value} {w : World} (h : VarAt g k n s w) : g < w.heap.size ∧ w.cell? ⟨g, 0, none⟩ = some (.int .i64 k) ∧ w.cell? ⟨g, 1, none⟩ = some (.int .i64 n) ∧ w.cell? ⟨g, 2, none⟩ = some s ∧ ∀ i, w.frozen? ⟨g, i, none⟩ = false := by
 obtain ⟨h1, h2, h3⟩ := block_of_cells h
 exact ⟨h1, h2 0, h2 1, h2 2, h3⟩
theorem VarAt.below {g : Nat} {k n : Int} {s : Value} {w w' : World} (h : VarAt g k n s w) (hb : Below w.heap.size w w') : VarAt g k n s w' := (hb.block g h.facts.1).trans h
theorem VarAt.far {g : Nat} {k n : Int} {s : Value} {w : World} (h : VarAt g k n s w) {p : Addr} (hp : g ≠ p.block) (u : Value) : VarAt g k n s (w.setCell p u) := (Below.heap_setCell w p u g hp).trans h
theorem VarAt.far3 {g : Nat} {k n : Int} {s : Value} {w : World} (h : VarAt g k n s w) {g' : Nat} (hp : g ≠ g') (a b c : Nat) (x y z : Value) : VarAt g k n s (((w.setCell ⟨g', a, none⟩ x).setCell ⟨g', b, none⟩ y).setCell ⟨g', c, none⟩ z) :=
 ((h.far (p := ⟨g', a, none⟩) hp _).far (p := ⟨g', b, none⟩) hp _).far (p := ⟨g', c, none⟩) hp _
theorem VarAt.set {g : Nat} {k n k' n' : Int} {s s' : Value} {w : World} (h : VarAt g k n s w) : VarAt g k' n' s' (((w.setCell ⟨g, 0, none⟩ (.int .i64 k')).setCell ⟨g, 1, none⟩ (.int .i64 n')).setCell ⟨g, 2, none⟩ s') := by
 have := block_set (block_set (block_set h 0 (.int .i64 k')) 1 (.int .i64 n')) 2 s'
 simpa [VarAt] using this
theorem VarAt.new (w : World) (k n : Int) (s : Value) : VarAt w.heap.size k n s (w.alloc (.cells #[.int .i64 k, .int .i64 n, s] 34)) := heap_new _ _
end Go.Proofs.YtihlbbbajaepoaaGreat
namespace Go.Proofs.YtihlbbbajaepoaaGreat
open Go.RowKit
structure Step (M : Nat → Prop) (w w' : World) (M' : Nat → Prop) : Prop where
 os : w'.os = w.os
 tape : w'.tape = w.tape
 output : w'.output = w.output
 size : w.heap.size ≤ w'.heap.size
 block : ∀ i, i < w.heap.size → ¬ M i → w'.heap[i]? = w.heap[i]?
 grow : ∀ i, i < w.heap.size → M' i → M i
 lt : ∀ i, M' i → i < w'.heap.size
theorem Step.trans {M M1 M2 : Nat → Prop} {a b c : World} (h : Step M a b M1) (k : Step M1 b c M2) : Step M a c M2 :=
 ⟨k.os.trans h.os, k.tape.trans h.tape, k.output.trans h.output, Nat.le_trans h.size k.size,
  fun i hi hn => (k.block i (Nat.lt_of_lt_of_le hi h.size) (fun hm => hn (h.grow i hi hm))).trans (h.block i hi hn), fun i hi hm => h.grow i hi (k.grow i (Nat.lt_of_lt_of_le hi h.size) hm), k.lt⟩
theorem Step.of_below {M : Nat → Prop} {w w' : World} (hb : Below w.heap.size w w') (h : ∀ i, M i → i < w.heap.size) : Step M w w' M :=
 ⟨hb.os, hb.tape, hb.output, hb.size, fun i hi _ => hb.block i hi, fun _ _ h => h, fun i hi => Nat.lt_of_lt_of_le (h i hi) hb.size⟩
theorem Step.below {M M' : Nat → Prop} {B : Nat} {u a b : World} (h : Step M a b M') (hu : Below B u a) (hB : B ≤ a.heap.size) (hM : ∀ i, M i → B ≤ i) : Below B u b :=
 ⟨h.os.trans hu.os, h.tape.trans hu.tape, h.output.trans hu.output, Nat.le_trans hu.size h.size, fun i hi => (h.block i (by omega) (fun hm => by have := hM i hm; omega)).trans (hu.block i hi)⟩
theorem Step.ge {M M' : Nat → Prop} {B : Nat} {a b : World} (h : Step M a b M') (hB : B ≤ a.heap.size) (hM : ∀ i, M i → B ≤ i) : ∀ i, M' i → B ≤ i := fun i hm => by
 by_cases hi : i < a.heap.size
 ·exact hM i (h.grow i hi hm)
 ·omega
theorem Step.cell {M M' : Nat → Prop} {a b : World} (h : Step M a b M') {p : Addr} (hp : p.block < a.heap.size) (hn : ¬ M p.block) : b.cell? p = a.cell? p := World.cell?_of_block (h.block p.block hp hn)
theorem mem_hgts {l : List Tm} {i : Nat} (h : i < l.length) : l[i].hgt ≤ hgts l := (hgts_le l (hgts l)).1 (Nat.le_refl _) _ (List.getElem_mem h)
end Go.Proofs.YtihlbbbajaepoaaGreat
