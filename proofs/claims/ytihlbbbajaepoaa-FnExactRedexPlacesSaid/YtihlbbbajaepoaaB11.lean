/-
  Trav.
-/
import Derived.Test.YtihlbbbajaepoaaB03
import Derived.Deep.RegionHeld3
import Derived.ProofKit
import Derived.RowKit
import Derived.Test.YtihlbbbajaepoaaProg
import Derived.WalkSpells
namespace Go.Proofs.Ytihlbbbajaepoaa
open Go.RowKit
structure Step (M : Nat → Prop) (w w' : World) (M' : Nat → Prop) : Prop where
 os : w'.os = w.os
 tape : w'.tape = w.tape
 output : w'.output = w.output
 size : w.heap.size ≤ w'.heap.size
 block : ∀ i, i < w.heap.size → ¬ M i → w'.heap[i]? = w.heap[i]?
 grow : ∀ i, i < w.heap.size → M' i → M i
 lt : ∀ i, M' i → i < w'.heap.size
theorem Step.refl {M : Nat → Prop} {w : World} (h : ∀ i, M i → i < w.heap.size) : Step M w w M := ⟨rfl, rfl, rfl, Nat.le_refl _, fun _ _ _ => rfl, fun _ _ h => h, h⟩
theorem Step.trans {M M1 M2 : Nat → Prop} {a b c : World} (h : Step M a b M1) (k : Step M1 b c M2) : Step M a c M2 :=
 ⟨k.os.trans h.os, k.tape.trans h.tape, k.output.trans h.output, Nat.le_trans h.size k.size,
  fun i hi hn => (k.block i (Nat.lt_of_lt_of_le hi h.size) (fun hm => hn (h.grow i hi hm))).trans (h.block i hi hn), fun i hi hm => h.grow i hi (k.grow i (Nat.lt_of_lt_of_le hi h.size) hm), k.lt⟩
theorem Step.of_below {M : Nat → Prop} {w w' : World} (hb : Below w.heap.size w w') (h : ∀ i, M i → i < w.heap.size) : Step M w w' M :=
 ⟨hb.os, hb.tape, hb.output, hb.size, fun i hi _ => hb.block i hi, fun _ _ h => h, fun i hi => Nat.lt_of_lt_of_le (h i hi) hb.size⟩
theorem Step.and {M M1 : Nat → Prop} {a b c : World} (h : Step M a b M1) (k : Below b.heap.size b c) : Step M a c M1 := h.trans (Step.of_below k h.lt)
theorem Step.ge {M M' : Nat → Prop} {B : Nat} {a b : World} (h : Step M a b M') (hB : B ≤ a.heap.size) (hM : ∀ i, M i → B ≤ i) : ∀ i, M' i → B ≤ i := fun i hm => by
 by_cases hi : i < a.heap.size
 ·exact hM i (h.grow i hi hm)
 ·omega
theorem Step.cell {M M' : Nat → Prop} {a b : World} (h : Step M a b M') {p : Addr} (hp : p.block < a.heap.size) (hn : ¬ M p.block) : b.cell? p = a.cell? p := World.cell?_of_block (h.block p.block hp hn)
theorem mem_hgts {l : List Tm} {i : Nat} (h : i < l.length) : l[i].hgt ≤ hgts l := (hgts_le l (hgts l)).1 (Nat.le_refl _) _ (List.getElem_mem h)
end Go.Proofs.Ytihlbbbajaepoaa
