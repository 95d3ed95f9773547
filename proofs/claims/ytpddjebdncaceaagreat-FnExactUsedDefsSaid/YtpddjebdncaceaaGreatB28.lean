/-
  Ints.
-/
import Derived.Test.YtpddjebdncaceaaGreatB07
import Derived.Test.YtpddjebdncaceaaGreatB18
namespace Go.Proofs.YtpddjebdncaceaaGreat
open Go.RowKit
def Ints (w : World) (B : Nat) (N : Int → Int) (len : Nat) (v : Value) : Prop :=
 ∃ a cap b o, v = .slice a len cap ∧ (0 < len → a = some ⟨b, o, none⟩ ∧ B ≤ b ∧ b < w.heap.size) ∧ ∀ i : Nat, i < len → w.cell? ⟨b, o + i, none⟩ = some (.int .i64 (N i))
theorem Ints.below {w w' : World} {B : Nat} {N : Int → Int} {len : Nat} {v : Value} (h : Ints w B N len v) (hb : Below w.heap.size w w') : Ints w' B N len v := by
 obtain ⟨a, cap, b, o, rfl, h1, h2⟩ := h
 exact ⟨a, cap, b, o, rfl, fun h => ⟨(h1 h).1, (h1 h).2.1, Nat.lt_of_lt_of_le (h1 h).2.2 hb.size⟩, fun i hi => (hb.cell (p := ⟨b, o + i, none⟩) (h1 (by omega)).2.2).trans (h2 i hi)⟩
theorem Ints.mono {w : World} {B B' : Nat} {N : Int → Int} {len : Nat} {v : Value} (h : Ints w B N len v) (hB : B' ≤ B) : Ints w B' N len v := by
 obtain ⟨a, cap, b, o, rfl, h1, h2⟩ := h
 exact ⟨a, cap, b, o, rfl, fun h => ⟨(h1 h).1, Nat.le_trans hB (h1 h).2.1, (h1 h).2.2⟩, h2⟩
theorem info_int : (Tryz.prog.info? 3).map (fun i => (i.zero, i.size, i.bytes)) = some (some (.int .i64 0), 1, 8) := by kernel_rfl
set_option maxRecDepth 100000 in
theorem eqInts_any (N : Int → Int) (len : Nat) (w : World) (v1 v2 : Value) (h0 : len ≤ 1048576) (h1 : Ints w 0 N len v1) (h2 : Ints w 0 N len v2) : Calls Tryz.prog 12 #[v1, v2] w (EqPost w true) := by
 obtain ⟨a, cap, b, o, rfl, hp, hc⟩ := h1
 obtain ⟨a', cap', b', o', rfl, hp', hc'⟩ := h2
 have HP := tuck hp
 have HC := tuck hc
 have HP' := tuck hp'
 have HC' := tuck hc'
 clear hp hc hp' hc'
 have hll : ((len : Int) != (len : Int)) = false := by simp
 go_enter Tryz.func12, Tryz.ntmps12
 go_wp2
 go_loopw [5] (fun i wr => ∃ q : Nat, q ≤ len ∧ i = .int .i64 q ∧ Below w.heap.size w wr) (fun i _ => len - (intOf i).toNat)
 case atStart => exact ⟨0, Nat.zero_le _, rfl, Below.refl _ _⟩
 case round =>
  obtain ⟨q, hq, rfl, hb⟩ := hrel
  by_cases hlt : q < len
  ·have hlti : ((q : Int) < (len : Int)) := by omega
   have hqi : (0 : Int) ≤ (q : Int) := by omega
   obtain ⟨rfl, _, hbw⟩ := HP.out (by omega)
   obtain ⟨rfl, _, hbw'⟩ := HP'.out (by omega)
   have c0 := (hb.cell (p := ⟨b, o + q, none⟩) hbw).trans (HC.out q hlt)
   have c1 := (hb.cell (p := ⟨b', o' + q, none⟩) hbw').trans (HC'.out q hlt)
   have hnn : (N q != N q) = false := by simp
   have HB := tuck hb
   clear hb
   go_wp2
   go_still (by kernel_rfl)
   go_wp2
   go_roundw
   case rel => exact ⟨q + 1, by omega, by go_num, HB.out.drew⟩
   case measure => simp [intOf]; omega
  ·have hge2 : ¬ ((q : Int) < (len : Int)) := by omega
   have HB := tuck hb
   clear hb
   go_wp2
   go_ret
   exact ⟨rfl, HB.out⟩
theorem But.refl (F : List Nat) (w : World) : But F w w := ⟨rfl, rfl, rfl, Nat.le_refl _, fun _ _ _ => rfl⟩
theorem But.setCell {F : List Nat} {a b : World} (h : But F a b) {p : Addr} (hp : p.block ∈ F) (u : Value) : But F a (b.setCell p u) :=
 ⟨h.os, h.tape, h.output, by rw [show (b.setCell p u).heap.size = b.heap.size by simp [World.setCell]]; exact h.size, fun i hi hf => (Below.heap_setCell b p u i (fun e => hf (by rw [e]; exact hp))).trans (h.block i hi hf)⟩
end Go.Proofs.YtpddjebdncaceaaGreat
