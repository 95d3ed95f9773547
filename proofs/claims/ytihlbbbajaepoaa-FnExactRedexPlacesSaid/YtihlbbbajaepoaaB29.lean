/-
  Ints.
-/
import Derived.Test.YtihlbbbajaepoaaB07
import Derived.Test.YtihlbbbajaepoaaB17
namespace Go.Proofs.Ytihlbbbajaepoaa
open Go.RowKit
def Ints (w : World) (B : Nat) (N : Int → Int) (len : Nat) (v : Value) : Prop :=
 ∃ a cap b o, v = .slice a len cap ∧ (0 < len → a = some ⟨b, o, none⟩ ∧ B ≤ b ∧ b < w.heap.size) ∧ ∀ i : Nat, i < len → w.cell? ⟨b, o + i, none⟩ = some (.int .i64 (N i))
structure IntsOwn (w : World) (g : Nat) (N : Int → Int) (len : Nat) (v : Value) : Prop where
 form : v = .slice (some ⟨g, 0, none⟩) len len
 block : ∃ cs : Array Value, w.heap[g]? = some (.cells cs 3 (0, 0)) ∧ cs.size = len ∧ ∀ i : Nat, i < len → cs[i]? = some (.int .i64 (N i))
theorem IntsOwn.lt {w : World} {g : Nat} {N : Int → Int} {len : Nat} {v : Value} (h : IntsOwn w g N len v) : g < w.heap.size := by
 obtain ⟨cs, h1, _⟩ := h.block
 exact (block_of_cells h1).1
theorem IntsOwn.of_block {w w' : World} {g : Nat} {N : Int → Int} {len : Nat} {v : Value} (h : IntsOwn w g N len v) (hb : w'.heap[g]? = w.heap[g]?) : IntsOwn w' g N len v := by
 obtain ⟨cs, h1, h2⟩ := h.block
 exact ⟨h.form, cs, hb.trans h1, h2⟩
theorem IntsOwn.below {w w' : World} {g : Nat} {N : Int → Int} {len : Nat} {v : Value} (h : IntsOwn w g N len v) (hb : Below w.heap.size w w') : IntsOwn w' g N len v := h.of_block (hb.block g h.lt)
def ToInts (w : World) (N : Int → Int) (len : Nat) (e : Ending) (w' : World) : Prop := Below w.heap.size w w' ∧ ∃ v, e = .returned v ∧ IntsOwn w' w.heap.size N len v
theorem info_int : (Try.prog.info? 3).map (fun i => (i.zero, i.size, i.bytes)) = some (some (.int .i64 0), 1, 8) := by kernel_rfl
set_option maxRecDepth 100000 in
theorem eqInts_any (N : Int → Int) (len : Nat) (w : World) (v1 v2 : Value) (h0 : len ≤ 1048576) (h1 : Ints w 0 N len v1) (h2 : Ints w 0 N len v2) : Calls Try.prog 40 #[v1, v2] w (EqPost w true) := by
 obtain ⟨a, cap, b, o, rfl, hp, hc⟩ := h1
 obtain ⟨a', cap', b', o', rfl, hp', hc'⟩ := h2
 have HP := tuck hp
 have HC := tuck hc
 have HP' := tuck hp'
 have HC' := tuck hc'
 clear hp hc hp' hc'
 have hll : ((len : Int) != (len : Int)) = false := by simp
 go_enter Try.func40, Try.ntmps40
 go_wp2
 go_loopw [5] (fun i wr => ∃ q : Nat, q ≤ len ∧ i = .int .i64 q ∧ Below w.heap.size w wr) (fun i _ => len - (intOf i).toNat)
 case atStart => exact ⟨0, Nat.zero_le _, rfl, Below.refl _ _⟩
 case round =>
  obtain ⟨q, hq, rfl, hb⟩ := hrel
  by_cases hlt : q < len
  ·have hlti : ((q : Int) < (len : Int)) := by omega
   have hqi : (0 : Int) ≤ (q : Int) := by omega
   obtain ⟨rfl, _, hbw⟩ := HP.out (by omega)
   obtain ⟨rfl, _, hbw'⟩ := HP'.out (by omega)
   have c0 := (hb.cell (p := ⟨b, o + q, none⟩) hbw).trans (HC.out q hlt)
   have c1 := (hb.cell (p := ⟨b', o' + q, none⟩) hbw').trans (HC'.out q hlt)
   have hnn : (N q != N q) = false := by simp
   have HB := tuck hb
   clear hb
   go_wp2
   go_still (by kernel_rfl)
   go_wp2
   go_roundw
   case rel => exact ⟨q + 1, by omega, by go_num, HB.out.drew⟩
   case measure => simp [intOf]; omega
  ·have hge2 : ¬ ((q : Int) < (len : Int)) := by omega
   have HB := tuck hb
   clear hb
   go_wp2
   go_ret
   exact ⟨rfl, HB.out⟩
theorem But.refl (F : List Nat) (w : World) : But F w w := ⟨rfl, rfl, rfl, Nat.le_refl _, fun _ _ _ => rfl⟩
theorem But.setCell {F : List Nat} {a b : World} (h : But F a b) {p : Addr} (hp : p.block ∈ F) (u : Value) : But F a (b.setCell p u) :=
 ⟨h.os, h.tape, h.output, by rw [show (b.setCell p u).heap.size = b.heap.size by simp [World.setCell]]; exact h.size, fun i hi hf => (Below.heap_setCell b p u i (fun e => hf (by rw [e]; exact hp))).trans (h.block i hi hf)⟩
end Go.Proofs.Ytihlbbbajaepoaa
