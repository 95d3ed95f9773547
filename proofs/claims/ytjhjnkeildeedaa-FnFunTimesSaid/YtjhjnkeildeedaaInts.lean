/-
  Slices of ints: read, copied, compared, marked.
-/
import Derived.Test.YtjhjnkeildeedaaTo
import Derived.Test.YtjhjnkeildeedaaLawT
namespace Go.Proofs.Ytjhjnkeildeedaa
open Go.RowKit

/-- A slice of ints that may be read; it lies in a block from B on. -/
def Ints (w : World) (B : Nat) (N : Int → Int) (len : Nat) (v : Value) : Prop :=
  ∃ a cap b o, v = .slice a len cap ∧ (0 < len → a = some ⟨b, o, none⟩ ∧ B ≤ b ∧ b < w.heap.size) ∧ ∀ i : Nat, i < len → w.cell? ⟨b, o + i, none⟩ = some (.int .i64 (N i))
theorem Ints.below {w w' : World} {B : Nat} {N : Int → Int} {len : Nat} {v : Value} (h : Ints w B N len v) (hb : Below w.heap.size w w') : Ints w' B N len v := by
  obtain ⟨a, cap, b, o, rfl, h1, h2⟩ := h
  exact ⟨a, cap, b, o, rfl, fun h => ⟨(h1 h).1, (h1 h).2.1, Nat.lt_of_lt_of_le (h1 h).2.2 hb.size⟩, fun i hi => (hb.cell (p := ⟨b, o + i, none⟩) (h1 (by omega)).2.2).trans (h2 i hi)⟩
theorem Ints.mono {w : World} {B B' : Nat} {N : Int → Int} {len : Nat} {v : Value} (h : Ints w B N len v) (hB : B' ≤ B) : Ints w B' N len v := by
  obtain ⟨a, cap, b, o, rfl, h1, h2⟩ := h
  exact ⟨a, cap, b, o, rfl, fun h => ⟨(h1 h).1, Nat.le_trans hB (h1 h).2.1, (h1 h).2.2⟩, h2⟩
theorem Ints.form {w : World} {B : Nat} {N : Int → Int} {len : Nat} {v : Value} (h : Ints w B N len v) : ∃ a cap, v = .slice a len cap := by
  obtain ⟨a, cap, _, _, h1, _⟩ := h
  exact ⟨a, cap, h1⟩

/-- Ints in a block of their own. -/
structure IntsOwn (w : World) (g : Nat) (N : Int → Int) (len : Nat) (v : Value) : Prop where
  form : v = .slice (some ⟨g, 0, none⟩) len len
  block : ∃ cs : Array Value, w.heap[g]? = some (.cells cs 3 (0, 0)) ∧ cs.size = len ∧ ∀ i : Nat, i < len → cs[i]? = some (.int .i64 (N i))
theorem IntsOwn.lt {w : World} {g : Nat} {N : Int → Int} {len : Nat} {v : Value} (h : IntsOwn w g N len v) : g < w.heap.size := by
  obtain ⟨cs, h1, _⟩ := h.block
  exact (block_of_cells h1).1
theorem IntsOwn.of_block {w w' : World} {g : Nat} {N : Int → Int} {len : Nat} {v : Value} (h : IntsOwn w g N len v) (hb : w'.heap[g]? = w.heap[g]?) : IntsOwn w' g N len v := by
  obtain ⟨cs, h1, h2⟩ := h.block
  exact ⟨h.form, cs, hb.trans h1, h2⟩
theorem IntsOwn.below {w w' : World} {g : Nat} {N : Int → Int} {len : Nat} {v : Value} (h : IntsOwn w g N len v) (hb : Below w.heap.size w w') : IntsOwn w' g N len v := h.of_block (hb.block g h.lt)
theorem IntsOwn.but {F : List Nat} {w w' : World} {g : Nat} {N : Int → Int} {len : Nat} {v : Value} (h : IntsOwn w g N len v) (hb : But F w w') (hg : g ∉ F) : IntsOwn w' g N len v := h.of_block (hb.block g h.lt hg)
theorem IntsOwn.ints {w : World} {g : Nat} {N : Int → Int} {len : Nat} {v : Value} (h : IntsOwn w g N len v) : Ints w g N len v := by
  obtain ⟨cs, h1, h2, h3⟩ := h.block
  exact ⟨_, _, g, 0, h.form, fun _ => ⟨rfl, Nat.le_refl _, h.lt⟩, fun i hi => by rw [Nat.zero_add, (block_of_cells h1).2.1 i]; exact h3 i hi⟩

def ToInts (w : World) (N : Int → Int) (len : Nat) (e : Ending) (w' : World) : Prop := Below w.heap.size w w' ∧ ∃ v, e = .returned v ∧ IntsOwn w' w.heap.size N len v

theorem info_int : (Try.prog.info? 3).map (fun i => (i.zero, i.size, i.bytes)) = some (some (.int .i64 0), 1, 8) := by kernel_rfl

set_option maxRecDepth 100000 in
theorem toInts_any (N : Int → Int) (len : Nat) (w : World) (v : Value) (h0 : len ≤ 1048576) (h : Ints w 0 N len v) : Calls Try.prog 15 #[v] w (ToInts w N len) := by
  obtain ⟨a, cap, b, o, rfl, hp, hc⟩ := h
  have HP := tuck hp
  have HC := tuck hc
  clear hp hc
  obtain ⟨i0, hi, hz0, hz1, hz2⟩ := info_parts info_int
  have hmk : ∀ W : World, (Instr.makeSlice 24 (.int .i64 (len : Int)) (.int .i64 (len : Int))).run Try.prog W = .ok (.slice (some ⟨W.heap.size, 0, none⟩) len len) (W.alloc (.cells (madeCells #[.int .i64 0] (len * 1)) 3)) := fun W => by
    have h := run_make (P := Try.prog) W 24 3 i0 _ Try.underlying24 hi hz0 .i64 .i64 (len : Int) (len : Int) (by omega) (Int.le_refl _) (by rw [hz2]; omega) (by omega)
    rw [hz1] at h
    simpa [Value.cells] using h
  clear hi hz0 hz1 hz2
  go_enter Try.func15, Try.ntmps15
  go_wp2
  clear hmk
  go_loopw [4] (fun i wr => ∃ (q : Nat) (cs : Array Value), q ≤ len ∧ i = .int .i64 q ∧ Below w.heap.size w wr ∧ wr.heap[w.heap.size]? = some (.cells cs 3 (0, 0)) ∧ cs.size = len ∧ ∀ j : Nat, j < q → cs[j]? = some (.int .i64 (N j))) (fun i _ => len - (intOf i).toNat)
  case atStart => exact ⟨0, _, Nat.zero_le _, rfl, below1 _ _, heap_new _ _, by simp [size_madeCells], fun j h => by omega⟩
  case round =>
    obtain ⟨q, cs, hq, rfl, hb, hcs, hcz, hN⟩ := hrel
    by_cases hlt : q < len
    · have hlti : ((q : Int) < (len : Int)) := by omega
      have hqi : (0 : Int) ≤ (q : Int) := by omega
      obtain ⟨rfl, _, hbw⟩ := HP.out (by omega)
      have c0 := (hb.cell (p := ⟨b, o + q, none⟩) hbw).trans (HC.out q hlt)
      have hbo := block_of_cells hcs
      have d0 : wr.cell? ⟨w.heap.size, q, none⟩ = some cs[q] := by rw [hbo.2.1 q]; simp [hcz, hlt]
      have df := hbo.2.2 q
      have HB := tuck hb
      have HCS := tuck hcs
      have HN := tuck hN
      clear hb hcs hN hbo
      go_wp2
      go_roundw
      case rel =>
        refine ⟨q + 1, _, by omega, by go_num, ?_, block_set HCS.out q _, by simp [hcz], fun j hj => ?_⟩
        · exact HB.out.setCell (by simp) _
        · by_cases hjq : j = q
          · subst hjq
            simp [hcz, hlt]
          · rw [Array.getElem?_setIfInBounds_ne (by omega)]
            exact HN.out j (by omega)
      case measure => simp [intOf]; omega
    · have hge2 : ¬ ((q : Int) < (len : Int)) := by omega
      have e : q = len := by omega
      subst e
      have HB := tuck hb
      have HCS := tuck hcs
      have HN := tuck hN
      clear hb hcs hN
      go_wp2
      go_ret
      exact ⟨HB.out, _, rfl, rfl, cs, HCS.out, hcz, HN.out⟩

set_option maxRecDepth 100000 in
theorem eqInts_any (N : Int → Int) (len : Nat) (w : World) (v1 v2 : Value) (h0 : len ≤ 1048576) (h1 : Ints w 0 N len v1) (h2 : Ints w 0 N len v2) : Calls Try.prog 17 #[v1, v2] w (EqPost w true) := by
  obtain ⟨a, cap, b, o, rfl, hp, hc⟩ := h1
  obtain ⟨a', cap', b', o', rfl, hp', hc'⟩ := h2
  have HP := tuck hp
  have HC := tuck hc
  have HP' := tuck hp'
  have HC' := tuck hc'
  clear hp hc hp' hc'
  have hll : ((len : Int) != (len : Int)) = false := by simp
  go_enter Try.func17, Try.ntmps17
  go_wp2
  go_loopw [5] (fun i wr => ∃ q : Nat, q ≤ len ∧ i = .int .i64 q ∧ Below w.heap.size w wr) (fun i _ => len - (intOf i).toNat)
  case atStart => exact ⟨0, Nat.zero_le _, rfl, Below.refl _ _⟩
  case round =>
    obtain ⟨q, hq, rfl, hb⟩ := hrel
    by_cases hlt : q < len
    · have hlti : ((q : Int) < (len : Int)) := by omega
      have hqi : (0 : Int) ≤ (q : Int) := by omega
      obtain ⟨rfl, _, hbw⟩ := HP.out (by omega)
      obtain ⟨rfl, _, hbw'⟩ := HP'.out (by omega)
      have c0 := (hb.cell (p := ⟨b, o + q, none⟩) hbw).trans (HC.out q hlt)
      have c1 := (hb.cell (p := ⟨b', o' + q, none⟩) hbw').trans (HC'.out q hlt)
      have hnn : (N q != N q) = false := by simp
      have HB := tuck hb
      clear hb
      go_wp2
      go_still (by kernel_rfl)
      go_wp2
      go_roundw
      case rel => exact ⟨q + 1, by omega, by go_num, HB.out.drew⟩
      case measure => simp [intOf]; omega
    · have hge2 : ¬ ((q : Int) < (len : Int)) := by omega
      have HB := tuck hb
      clear hb
      go_wp2
      go_ret
      exact ⟨rfl, HB.out⟩

theorem But.refl (F : List Nat) (w : World) : But F w w := ⟨rfl, rfl, rfl, Nat.le_refl _, fun _ _ _ => rfl⟩
theorem But.setCell {F : List Nat} {a b : World} (h : But F a b) {p : Addr} (hp : p.block ∈ F) (u : Value) : But F a (b.setCell p u) :=
  ⟨h.os, h.tape, h.output, by rw [show (b.setCell p u).heap.size = b.heap.size by simp [World.setCell]]; exact h.size, fun i hi hf => (Below.heap_setCell b p u i (fun e => hf (by rw [e]; exact hp))).trans (h.block i hi hf)⟩

end Go.Proofs.Ytjhjnkeildeedaa
