/-
  impl.eachNode: every node of a term is handed to a callback, ahead of its operands ('each_any').
-/
import Derived.Test.YtjhjnkeildeedaaBind
import Derived.Test.YtjhjnkeildeedaaProg
import Derived.WalkSpells
import Derived.ProofKit
import Derived.Deep.RegionHeld3
namespace Go.Proofs.Ytjhjnkeildeedaa
open Go.RowKit

/-- Of what was there, blocks of M alone may have turned; behind it M' may turn: of what was there no more than M. -/
structure Step (M : Nat → Prop) (w w' : World) (M' : Nat → Prop) : Prop where
  os : w'.os = w.os
  tape : w'.tape = w.tape
  output : w'.output = w.output
  size : w.heap.size ≤ w'.heap.size
  block : ∀ i, i < w.heap.size → ¬ M i → w'.heap[i]? = w.heap[i]?
  grow : ∀ i, i < w.heap.size → M' i → M i
  lt : ∀ i, M' i → i < w'.heap.size
theorem Step.refl {M : Nat → Prop} {w : World} (h : ∀ i, M i → i < w.heap.size) : Step M w w M := ⟨rfl, rfl, rfl, Nat.le_refl _, fun _ _ _ => rfl, fun _ _ h => h, h⟩
theorem Step.trans {M M1 M2 : Nat → Prop} {a b c : World} (h : Step M a b M1) (k : Step M1 b c M2) : Step M a c M2 :=
  ⟨k.os.trans h.os, k.tape.trans h.tape, k.output.trans h.output, Nat.le_trans h.size k.size,
    fun i hi hn => (k.block i (Nat.lt_of_lt_of_le hi h.size) (fun hm => hn (h.grow i hi hm))).trans (h.block i hi hn), fun i hi hm => h.grow i hi (k.grow i (Nat.lt_of_lt_of_le hi h.size) hm), k.lt⟩
theorem Step.of_below {M : Nat → Prop} {w w' : World} (hb : Below w.heap.size w w') (h : ∀ i, M i → i < w.heap.size) : Step M w w' M :=
  ⟨hb.os, hb.tape, hb.output, hb.size, fun i hi _ => hb.block i hi, fun _ _ h => h, fun i hi => Nat.lt_of_lt_of_le (h i hi) hb.size⟩
theorem Step.and {M M1 : Nat → Prop} {a b c : World} (h : Step M a b M1) (k : Below b.heap.size b c) : Step M a c M1 := h.trans (Step.of_below k h.lt)
theorem Step.below {M M' : Nat → Prop} {B : Nat} {u a b : World} (h : Step M a b M') (hu : Below B u a) (hB : B ≤ a.heap.size) (hM : ∀ i, M i → B ≤ i) : Below B u b :=
  ⟨h.os.trans hu.os, h.tape.trans hu.tape, h.output.trans hu.output, Nat.le_trans hu.size h.size, fun i hi => (h.block i (by omega) (fun hm => by have := hM i hm; omega)).trans (hu.block i hi)⟩
theorem Step.ge {M M' : Nat → Prop} {B : Nat} {a b : World} (h : Step M a b M') (hB : B ≤ a.heap.size) (hM : ∀ i, M i → B ≤ i) : ∀ i, M' i → B ≤ i := fun i hm => by
  by_cases hi : i < a.heap.size
  · exact hM i (h.grow i hi hm)
  · omega
theorem Step.cell {M M' : Nat → Prop} {a b : World} (h : Step M a b M') {p : Addr} (hp : p.block < a.heap.size) (hn : ¬ M p.block) : b.cell? p = a.cell? p := World.cell?_of_block (h.block p.block hp hn)
theorem Step.frozen {M M' : Nat → Prop} {a b : World} (h : Step M a b M') {p : Addr} (hp : p.block < a.heap.size) (hn : ¬ M p.block) : b.frozen? p = a.frozen? p := World.frozen?_of_block (h.block p.block hp hn)

/-- What a callback leaves: it says whether it goes on, and then its state is r's. -/
def UsePost {S : Type} (St : S → (Nat → Prop) → World → Prop) (M : Nat → Prop) (w : World) (r : Option S) (e : Ending) (w' : World) : Prop :=
  ∃ M', Step M w w' M' ∧ e = .returned (.bool r.isSome) ∧ ∀ s', r = some s' → St s' M' w'

def freeRes (k n b : Int) : Value := if k = 1 ∧ b ≤ n then .tuple #[.int .i64 (n - b), .bool true] else .tuple #[.int .i64 0, .bool false]

/-- What is asked of the callback f (with cs captured): at every node it does as 'step' says, and turns nothing but M. -/
def UseOk (D L : Int) {S : Type} (u0 w0 : World) (M0 : Nat → Prop) (St : S → (Nat → Prop) → World → Prop) (f : FuncId) (cs : Array Value) (step : S → Tm → Int → Int → Option S) : Prop :=
  ∀ (w : World) (s : S) (M : Nat → Prop) (x : Tm) (v : Value) (b d : Int), Step M0 w0 w M → St s M w → x.rootOk → x.most b ≤ L → SlIn u0 0 x.kids v → 0 ≤ b → b ≤ D → 0 ≤ d → d ≤ D →
    Calls Try.prog f (#[.agg #[.int .i64 x.kind, .int .i64 x.num, v], .agg #[.int .i64 b, .int .i64 d]] ++ cs) w (UsePost St M w (step s x b d))

theorem mem_hgts {l : List Tm} {i : Nat} (h : i < l.length) : l[i].hgt ≤ hgts l := (hgts_le l (hgts l)).1 (Nat.le_refl _) _ (List.getElem_mem h)

theorem eb_below {w w' : World} {g0 g1 g2 : Nat} {k b d k1 n1 : Int} {v : Value}
    (h : (g0 < w.heap.size ∧ g1 < w.heap.size ∧ g2 < w.heap.size) ∧ w.cell? ⟨g0, 0, none⟩ = some (.int .i64 k) ∧ w.cell? ⟨g1, 0, none⟩ = some (.int .i64 b) ∧ w.cell? ⟨g1, 1, none⟩ = some (.int .i64 d) ∧
      w.cell? ⟨g2, 0, none⟩ = some (.int .i64 k1) ∧ w.cell? ⟨g2, 1, none⟩ = some (.int .i64 n1) ∧ w.cell? ⟨g2, 2, none⟩ = some v) (hb : Below w.heap.size w w') :
    (g0 < w'.heap.size ∧ g1 < w'.heap.size ∧ g2 < w'.heap.size) ∧ w'.cell? ⟨g0, 0, none⟩ = some (.int .i64 k) ∧ w'.cell? ⟨g1, 0, none⟩ = some (.int .i64 b) ∧ w'.cell? ⟨g1, 1, none⟩ = some (.int .i64 d) ∧
      w'.cell? ⟨g2, 0, none⟩ = some (.int .i64 k1) ∧ w'.cell? ⟨g2, 1, none⟩ = some (.int .i64 n1) ∧ w'.cell? ⟨g2, 2, none⟩ = some v := by
  obtain ⟨⟨z0, z1, z2⟩, h0, h1, h2, h3, h4, h5⟩ := h
  have := hb.size
  exact ⟨⟨by omega, by omega, by omega⟩, (hb.cell (p := ⟨g0, 0, none⟩) z0).trans h0, (hb.cell (p := ⟨g1, 0, none⟩) z1).trans h1, (hb.cell (p := ⟨g1, 1, none⟩) z1).trans h2, (hb.cell (p := ⟨g2, 0, none⟩) z2).trans h3, (hb.cell (p := ⟨g2, 1, none⟩) z2).trans h4, (hb.cell (p := ⟨g2, 2, none⟩) z2).trans h5⟩
theorem eb_step {w w' : World} {M M' : Nat → Prop} {g0 g1 g2 : Nat} {k b d k1 n1 : Int} {v : Value}
    (h : (g0 < w.heap.size ∧ g1 < w.heap.size ∧ g2 < w.heap.size) ∧ w.cell? ⟨g0, 0, none⟩ = some (.int .i64 k) ∧ w.cell? ⟨g1, 0, none⟩ = some (.int .i64 b) ∧ w.cell? ⟨g1, 1, none⟩ = some (.int .i64 d) ∧
      w.cell? ⟨g2, 0, none⟩ = some (.int .i64 k1) ∧ w.cell? ⟨g2, 1, none⟩ = some (.int .i64 n1) ∧ w.cell? ⟨g2, 2, none⟩ = some v) (hb : Step M w w' M') (n : ¬ M g0 ∧ ¬ M g1 ∧ ¬ M g2) :
    (g0 < w'.heap.size ∧ g1 < w'.heap.size ∧ g2 < w'.heap.size) ∧ w'.cell? ⟨g0, 0, none⟩ = some (.int .i64 k) ∧ w'.cell? ⟨g1, 0, none⟩ = some (.int .i64 b) ∧ w'.cell? ⟨g1, 1, none⟩ = some (.int .i64 d) ∧
      w'.cell? ⟨g2, 0, none⟩ = some (.int .i64 k1) ∧ w'.cell? ⟨g2, 1, none⟩ = some (.int .i64 n1) ∧ w'.cell? ⟨g2, 2, none⟩ = some v := by
  obtain ⟨⟨z0, z1, z2⟩, h0, h1, h2, h3, h4, h5⟩ := h
  have := hb.size
  exact ⟨⟨by omega, by omega, by omega⟩, (hb.cell (p := ⟨g0, 0, none⟩) z0 n.1).trans h0, (hb.cell (p := ⟨g1, 0, none⟩) z1 n.2.1).trans h1, (hb.cell (p := ⟨g1, 1, none⟩) z1 n.2.1).trans h2, (hb.cell (p := ⟨g2, 0, none⟩) z2 n.2.2).trans h3, (hb.cell (p := ⟨g2, 1, none⟩) z2 n.2.2).trans h4, (hb.cell (p := ⟨g2, 2, none⟩) z2 n.2.2).trans h5⟩

theorem isSome_none' {S : Type} {r : Option S} (h : r.isSome = false) : r = none := by cases r <;> simp_all
theorem isSome_some' {S : Type} {r : Option S} (h : r.isSome = true) : ∃ s, r = some s := by cases r <;> simp_all

end Go.Proofs.Ytjhjnkeildeedaa
