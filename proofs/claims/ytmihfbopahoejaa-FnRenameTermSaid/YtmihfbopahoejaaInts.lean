/-
  Slices of ints: read, copied, compared, marked.
-/
import Derived.Test.YtmihfbopahoejaaTo
import Derived.Test.YtmihfbopahoejaaMark
import Derived.Test.YtmihfbopahoejaaEq
namespace Go.Proofs.Ytmihfbopahoejaa
open Go.RowKit

/-- A slice of ints that may be read; it lies in a block from B on. -/
def Ints (w : World) (B : Nat) (N : Int → Int) (len : Nat) (v : Value) : Prop :=
  ∃ a cap b o, v = .slice a len cap ∧ (0 < len → a = some ⟨b, o, none⟩ ∧ B ≤ b ∧ b < w.heap.size) ∧ ∀ i : Nat, i < len → w.cell? ⟨b, o + i, none⟩ = some (.int .i64 (N i))
theorem Ints.below {w w' : World} {B : Nat} {N : Int → Int} {len : Nat} {v : Value} (h : Ints w B N len v) (hb : Below w.heap.size w w') : Ints w' B N len v := by
  obtain ⟨a, cap, b, o, rfl, h1, h2⟩ := h
  exact ⟨a, cap, b, o, rfl, fun h => ⟨(h1 h).1, (h1 h).2.1, Nat.lt_of_lt_of_le (h1 h).2.2 hb.size⟩, fun i hi => (hb.cell (p := ⟨b, o + i, none⟩) (h1 (by omega)).2.2).trans (h2 i hi)⟩
theorem Ints.mono {w : World} {B B' : Nat} {N : Int → Int} {len : Nat} {v : Value} (h : Ints w B N len v) (hB : B' ≤ B) : Ints w B' N len v := by
  obtain ⟨a, cap, b, o, rfl, h1, h2⟩ := h
  exact ⟨a, cap, b, o, rfl, fun h => ⟨(h1 h).1, Nat.le_trans hB (h1 h).2.1, (h1 h).2.2⟩, h2⟩
theorem Ints.form {w : World} {B : Nat} {N : Int → Int} {len : Nat} {v : Value} (h : Ints w B N len v) : ∃ a cap, v = .slice a len cap := by
  obtain ⟨a, cap, _, _, h1, _⟩ := h
  exact ⟨a, cap, h1⟩

/-- Ints in a block of their own. -/
structure IntsOwn (w : World) (g : Nat) (N : Int → Int) (len : Nat) (v : Value) : Prop where
  form : v = .slice (some ⟨g, 0, none⟩) len len
  block : ∃ cs : Array Value, w.heap[g]? = some (.cells cs 3 (0, 0)) ∧ cs.size = len ∧ ∀ i : Nat, i < len → cs[i]? = some (.int .i64 (N i))
theorem IntsOwn.lt {w : World} {g : Nat} {N : Int → Int} {len : Nat} {v : Value} (h : IntsOwn w g N len v) : g < w.heap.size := by
  obtain ⟨cs, h1, _⟩ := h.block
  exact (block_of_cells h1).1
theorem IntsOwn.of_block {w w' : World} {g : Nat} {N : Int → Int} {len : Nat} {v : Value} (h : IntsOwn w g N len v) (hb : w'.heap[g]? = w.heap[g]?) : IntsOwn w' g N len v := by
  obtain ⟨cs, h1, h2⟩ := h.block
  exact ⟨h.form, cs, hb.trans h1, h2⟩
theorem IntsOwn.below {w w' : World} {g : Nat} {N : Int → Int} {len : Nat} {v : Value} (h : IntsOwn w g N len v) (hb : Below w.heap.size w w') : IntsOwn w' g N len v := h.of_block (hb.block g h.lt)
theorem IntsOwn.but {F : List Nat} {w w' : World} {g : Nat} {N : Int → Int} {len : Nat} {v : Value} (h : IntsOwn w g N len v) (hb : But F w w') (hg : g ∉ F) : IntsOwn w' g N len v := h.of_block (hb.block g h.lt hg)
theorem IntsOwn.ints {w : World} {g : Nat} {N : Int → Int} {len : Nat} {v : Value} (h : IntsOwn w g N len v) : Ints w g N len v := by
  obtain ⟨cs, h1, h2, h3⟩ := h.block
  exact ⟨_, _, g, 0, h.form, fun _ => ⟨rfl, Nat.le_refl _, h.lt⟩, fun i hi => by rw [Nat.zero_add, (block_of_cells h1).2.1 i]; exact h3 i hi⟩

def ToInts (w : World) (N : Int → Int) (len : Nat) (e : Ending) (w' : World) : Prop := Below w.heap.size w w' ∧ ∃ v, e = .returned v ∧ IntsOwn w' w.heap.size N len v

theorem info_int : (Try.prog.info? 3).map (fun i => (i.zero, i.size, i.bytes)) = some (some (.int .i64 0), 1, 8) := by kernel_rfl

theorem But.refl (F : List Nat) (w : World) : But F w w := ⟨rfl, rfl, rfl, Nat.le_refl _, fun _ _ _ => rfl⟩
theorem But.setCell {F : List Nat} {a b : World} (h : But F a b) {p : Addr} (hp : p.block ∈ F) (u : Value) : But F a (b.setCell p u) :=
  ⟨h.os, h.tape, h.output, by rw [show (b.setCell p u).heap.size = b.heap.size by simp [World.setCell]]; exact h.size, fun i hi hf => (Below.heap_setCell b p u i (fun e => hf (by rw [e]; exact hp))).trans (h.block i hi hf)⟩

end Go.Proofs.Ytmihfbopahoejaa
